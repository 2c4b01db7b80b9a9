/- Things in a row as bytes, as plain mathematics: what was written is read, and what was read, all of it, was written so. No program is imported. -/
import Derived.Test.YtmbnknbbfipciaaA
namespace Go.Proofs.Ytmbnknbbfipciaa

/-- Forward: what is written of a number is read as it. -/
theorem rdF_fwd (m : Nat) (r : List B8) : ∀ (f k n d : Nat), d < 128 ^ f → (0 < k → 0 < d) → (0 < f ∨ 0 < k) → n + d * 128 ^ k ≤ m →
    rdF m f k n (encF f d ++ r) = some (n + d * 128 ^ k, r) := by
  intro f
  induction f with
  | zero => intro k n d hd hk h; simp at hd; omega
  | succ f ih =>
    intro k n d hd hk _ hm
    by_cases hl : 127 < d
    · rw [encF, if_pos hl]
      have hb : (BitVec.ofNat 8 (d % 128 + 128)).toNat = d % 128 + 128 := by rw [BitVec.toNat_ofNat]; omega
      rw [List.cons_append, rdF, hb, if_pos (by omega)]
      have e : (d % 128 + 128) % 128 = d % 128 := by omega
      have hq : n + d % 128 * 128 ^ k + d / 128 * 128 ^ (k + 1) = n + d * 128 ^ k := by
        rw [Nat.pow_succ, ← Nat.mul_assoc, Nat.mul_right_comm, Nat.add_assoc, ← Nat.add_mul, Nat.mod_add_div' d 128]
      rw [e, ih (k + 1) _ (d / 128) (by rw [Nat.pow_succ] at hd; exact Nat.div_lt_of_lt_mul (by rw [Nat.mul_comm]; exact hd)) (fun _ => by omega) (.inr (by omega)) (by rw [hq]; exact hm), hq]
    · rw [encF, if_neg hl]
      have hb : (BitVec.ofNat 8 d).toNat = d := by rw [BitVec.toNat_ofNat]; omega
      rw [List.cons_append, List.nil_append, rdF, hb, if_neg hl]
      have e : d % 128 = d := by omega
      rw [e, if_neg]
      intro h
      rcases h with ⟨h1, h2⟩ | h
      · have := hk h2; omega
      · omega
theorem rd_fwd (m d : Nat) (r : List B8) (hd : d ≤ 4611686018427387903) (hm : d ≤ m) : rd m (enc d ++ r) = some (d, r) := by
  have := rdF_fwd m r 9 0 0 d (by omega) (fun h => by omega) (.inl (by omega)) (by omega)
  simpa [rd, enc] using this

/-- A thing that is written. -/
inductive Item where
  | num (n : Int) | flag (b : Bool) | txt (l : List B8) | row (l : List B8)

def goodB (n : Int) : Bool := decide (0 ≤ n) && decide (n ≤ 4611686018427387903)
theorem goodB_iff (n : Int) : goodB n = true ↔ 0 ≤ n ∧ n ≤ 4611686018427387903 := by simp [goodB]
def Item.ok : Item → Prop
  | .num n => goodB n = true
  | .flag _ => True
  | .txt l => l.length ≤ 20000
  | .row l => l.length ≤ 20000
def Item.enc : Item → List B8
  | .num n => if goodB n then Ytmbnknbbfipciaa.enc n.toNat else []
  | .flag b => [if b then 1#8 else 0#8]
  | .txt l => Ytmbnknbbfipciaa.enc l.length ++ l
  | .row l => Ytmbnknbbfipciaa.enc l.length ++ l
def encAll (l : List Item) : List B8 := l.flatMap Item.enc

/-- What a reader that has not failed has of a row of at most so many bytes: the row, what is left, whether it has failed. -/
def rowOf (m : Nat) (xs : List B8) : List B8 × List B8 × Bool :=
  match rd m xs with
  | some (n, r) => if r.length < n then ([], [], true) else (r.take n, r.drop n, false)
  | none => ([], [], true)
/-- What a thing that is read behind a list of bytes leaves, whether the reader has failed then, and whether it is that thing. -/
def rdI (it : Item) (xs : List B8) (f : Bool) : List B8 × Bool × Bool :=
  if f then ([], true, match it with | .num n => decide (n = 0) | .flag b => !b | .txt l => l.isEmpty | .row l => l.isEmpty)
  else match it with
    | .num n => match rd n.toNat xs with
      | some (v, r) => (r, false, decide ((v : Int) = n))
      | none => ([], true, decide (n = 0))
    | .flag b => match xs with
      | [] => ([], true, !b)
      | y :: r => if y.toNat ≤ 1 then (r, false, decide (y = 1#8) == b) else ([], true, !b)
    | .txt l => ((rowOf l.length xs).2.1, (rowOf l.length xs).2.2, decide ((rowOf l.length xs).1 = l))
    | .row l => ((rowOf l.length xs).2.1, (rowOf l.length xs).2.2, decide ((rowOf l.length xs).1 = l))
def runI : List Item → List B8 → Bool → List B8 × Bool × Bool
  | [], xs, f => (xs, f, true)
  | it :: l, xs, f => ((runI l (rdI it xs f).1 (rdI it xs f).2.1).1, (runI l (rdI it xs f).1 (rdI it xs f).2.1).2.1, (rdI it xs f).2.2 && (runI l (rdI it xs f).1 (rdI it xs f).2.1).2.2)

theorem runI_snoc (it : Item) : ∀ (l : List Item) (xs : List B8) (f : Bool), runI (l ++ [it]) xs f = ((rdI it (runI l xs f).1 (runI l xs f).2.1).1, (rdI it (runI l xs f).1 (runI l xs f).2.1).2.1, (rdI it (runI l xs f).1 (runI l xs f).2.1).2.2 && (runI l xs f).2.2)
  | [], xs, f => by simp [runI]
  | a :: l, xs, f => by
    rw [List.cons_append, runI, runI_snoc it l, runI]
    simp only [Bool.and_comm, Bool.and_assoc, Bool.and_left_comm]
theorem runI_append (k : List Item) : ∀ (l : List Item) (xs : List B8) (f : Bool), runI (l ++ k) xs f = ((runI k (runI l xs f).1 (runI l xs f).2.1).1, (runI k (runI l xs f).1 (runI l xs f).2.1).2.1, (runI l xs f).2.2 && (runI k (runI l xs f).1 (runI l xs f).2.1).2.2)
  | [], xs, f => by simp [runI]
  | a :: l, xs, f => by
    rw [List.cons_append, runI, runI_append k l, runI]
    simp only [Bool.and_assoc]

theorem rowOf_fwd (l r : List B8) (h : l.length ≤ 20000) : rowOf l.length (enc l.length ++ l ++ r) = (l, r, false) := by
  unfold rowOf
  rw [List.append_assoc, rd_fwd _ _ _ (by omega) (Nat.le_refl _)]
  simp
theorem rdI_fwd (it : Item) (r : List B8) (h : it.ok) : rdI it (it.enc ++ r) false = (r, false, true) := by
  cases it with
  | num n =>
    have hg := (goodB_iff n).1 h
    have h' : goodB n = true := h
    simp only [rdI, Item.enc, h', if_true, Bool.false_eq_true, if_false]
    rw [rd_fwd _ _ _ (by omega) (Nat.le_refl _)]
    simp; omega
  | flag b => cases b <;> simp [rdI, Item.enc]
  | txt l => simp [rdI, Item.enc, rowOf_fwd l r h, ← List.append_assoc]
  | row l => simp [rdI, Item.enc, rowOf_fwd l r h, ← List.append_assoc]
theorem runI_fwd : ∀ (l : List Item) (r : List B8), (∀ it ∈ l, it.ok) → runI l (encAll l ++ r) false = (r, false, true)
  | [], r, _ => by simp [runI, encAll]
  | a :: l, r, h => by
    have e : encAll (a :: l) ++ r = a.enc ++ (encAll l ++ r) := by simp [encAll]
    have h1 := rdI_fwd a (encAll l ++ r) (h a (by simp))
    rw [runI, e, h1]
    simp only [runI_fwd l r (fun it hi => h it (by simp [hi])), Bool.and_true]

theorem rdI_dead (it : Item) (xs : List B8) : (rdI it xs true).1 = [] ∧ (rdI it xs true).2.1 = true := by simp [rdI]
theorem runI_dead : ∀ (l : List Item) (xs : List B8), (runI l xs true).2.1 = true
  | [], _ => rfl
  | a :: l, xs => by rw [runI]; simp only [rdI_dead a xs, runI_dead l]
theorem rowOf_bwd {m : Nat} {xs l r : List B8} (h : rowOf m xs = (l, r, false)) : xs = enc l.length ++ l ++ r := by
  unfold rowOf at h
  split at h
  · rename_i n q hr
    split at h
    · simp at h
    · rename_i hn
      simp only [Prod.mk.injEq, and_true] at h
      obtain ⟨rfl, rfl⟩ := h
      have := (rd_enc _ _ _ _ hr).1
      rw [this, List.length_take, Nat.min_eq_left (by omega), List.append_assoc, List.take_append_drop]
  · simp at h
theorem rdI_bwd (it : Item) (hi : it.ok) (xs r : List B8) (h : rdI it xs false = (r, false, true)) : xs = it.enc ++ r := by
  cases it with
  | num n =>
    have hg : goodB n = true := hi
    simp only [rdI, Bool.false_eq_true, if_false] at h
    split at h
    · rename_i v q hr
      simp only [Prod.mk.injEq, decide_eq_true_eq, true_and] at h
      obtain ⟨rfl, rfl⟩ := h
      have := (rd_enc _ _ _ _ hr).1
      rw [Item.enc, if_pos hg, this]; simp
    · simp at h
  | flag b =>
    simp only [rdI, Bool.false_eq_true, if_false] at h
    split at h
    · simp at h
    · rename_i y q
      split at h
      · rename_i hy
        simp only [Prod.mk.injEq, true_and] at h
        obtain ⟨rfl, h⟩ := h
        have hy' : y = 0#8 ∨ y = 1#8 := by
          have : y.toNat = 0 ∨ y.toNat = 1 := by omega
          exact this.imp (fun e => BitVec.eq_of_toNat_eq (by simpa using e)) (fun e => BitVec.eq_of_toNat_eq (by simpa using e))
        rcases hy' with rfl | rfl <;> cases b <;> simp_all [Item.enc]
      · simp at h
  | txt l =>
    simp only [rdI, Bool.false_eq_true, if_false, Prod.mk.injEq, decide_eq_true_eq] at h
    obtain ⟨h1, h2, h3⟩ := h
    exact rowOf_bwd (m := l.length) (by rw [← h1, ← h2]; exact Prod.ext h3 rfl)
  | row l =>
    simp only [rdI, Bool.false_eq_true, if_false, Prod.mk.injEq, decide_eq_true_eq] at h
    obtain ⟨h1, h2, h3⟩ := h
    exact rowOf_bwd (m := l.length) (by rw [← h1, ← h2]; exact Prod.ext h3 rfl)
theorem runI_bwd : ∀ (l : List Item) (xs r : List B8), (∀ it ∈ l, it.ok) → runI l xs false = (r, false, true) → xs = encAll l ++ r
  | [], xs, r, _, h => by simp [runI] at h; simp [encAll, h]
  | a :: l, xs, r, hok, h => by
    rw [runI] at h
    simp only [Prod.mk.injEq, Bool.and_eq_true] at h
    obtain ⟨h1, h2, h3, h4⟩ := h
    cases hf : (rdI a xs false).2.1 with
    | true => rw [hf, runI_dead] at h2; cases h2
    | false =>
      rw [hf] at h1 h2 h4
      have ha := rdI_bwd a (hok a (by simp)) xs (rdI a xs false).1 (Prod.ext rfl (Prod.ext hf h3))
      have hl := runI_bwd l _ r (fun it hi => hok it (by simp [hi])) (Prod.ext h1 (Prod.ext h2 h4))
      rw [ha, hl]
      simp [encAll]

/- The things of the law, in their order. -/
def itemsAt (nums : List Int) (flags : List Bool) (txts rows : List (List B8)) (i : Nat) : List Item :=
  (rows[i]?.toList.map Item.row) ++ (flags[i]?.toList.map Item.flag) ++ (nums[i]?.toList.map Item.num) ++ (txts[i]?.toList.map Item.txt)
def itemsTo (nums : List Int) (flags : List Bool) (txts rows : List (List B8)) (k : Nat) : List Item := (List.range k).flatMap (itemsAt nums flags txts rows)
theorem itemsTo_succ (nums : List Int) (flags : List Bool) (txts rows : List (List B8)) (k : Nat) : itemsTo nums flags txts rows (k + 1) = itemsTo nums flags txts rows k ++ itemsAt nums flags txts rows k := by
  simp [itemsTo, List.range_succ]
theorem encAll_append (a b : List Item) : encAll (a ++ b) = encAll a ++ encAll b := by simp [encAll]
theorem itemsTo_ok (nums : List Int) (flags : List Bool) (txts rows : List (List B8)) (k : Nat) (hn : ∀ n ∈ nums, goodB n = true) (ht : ∀ t ∈ txts, t.length ≤ 20000) (hr : ∀ t ∈ rows, t.length ≤ 20000) :
    ∀ it ∈ itemsTo nums flags txts rows k, it.ok := by
  intro it hi
  simp only [itemsTo, List.mem_flatMap] at hi
  obtain ⟨i, _, hi⟩ := hi
  simp only [itemsAt, List.mem_append, List.mem_map, Option.mem_toList] at hi
  rcases hi with ((⟨x, hx, rfl⟩ | ⟨x, hx, rfl⟩) | ⟨x, hx, rfl⟩) | ⟨x, hx, rfl⟩
  · exact hr x (List.mem_of_getElem? hx)
  · trivial
  · exact hn x (List.mem_of_getElem? hx)
  · exact ht x (List.mem_of_getElem? hx)
theorem runI_len (l : List Item) (xs : List B8) (f : Bool) : (runI l xs f).2.1 = true → f = false → (runI l xs f).2.1 = true := fun h _ => h
end Go.Proofs.Ytmbnknbbfipciaa
