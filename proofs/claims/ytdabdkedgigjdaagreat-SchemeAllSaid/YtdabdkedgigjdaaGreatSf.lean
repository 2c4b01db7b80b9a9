/- Rows of shares: what is owned, appended; slices.Grow of nil. -/
import Derived.Test.YtdabdkedgigjdaaGreatSe
import Derived.Test.YtdabdkedgigjdaaGreatAB
import Derived.Lib.AppendZerosOnto
import Derived.Maps.AppendAt
namespace Go.Proofs.YtdabdkedgigjdaaGreat
open Go.RowKit

def flat4 (xs : List Sh) : List Value := (xs.map fun x => [Value.string x.sp.lo, Value.string x.sp.hi, Value.int .i64 x.g, Value.int .i64 x.e]).flatten
theorem flat4_len (xs : List Sh) : (flat4 xs).length = xs.length * 4 := by
  induction xs with
  | nil => rfl
  | cons a l ih => simp only [flat4, List.map_cons, List.flatten_cons, List.length_append, List.length_cons, List.length_nil] at *; omega
theorem flat4_append (xs ys : List Sh) : flat4 (xs ++ ys) = flat4 xs ++ flat4 ys := by simp [flat4]
theorem flat4_cons (x : Sh) (xs : List Sh) : flat4 (x :: xs) = .string x.sp.lo :: .string x.sp.hi :: .int .i64 x.g :: .int .i64 x.e :: flat4 xs := by simp [flat4]
theorem flat4_one : ∀ (xs : List Sh) (u : Value), u ∈ flat4 xs → u.oneCell' = true := by
  intro xs u hu
  simp only [flat4, List.mem_flatten, List.mem_map] at hu
  obtain ⟨l, ⟨s, _, rfl⟩, hu⟩ := hu
  simp only [List.mem_cons, List.not_mem_nil, or_false] at hu
  rcases hu with rfl | rfl | rfl | rfl <;> rfl
theorem flat4_drop : ∀ (xs : List Sh) (q : Nat), flat4 (xs.drop q) = (flat4 xs).drop (q * 4)
  | xs, 0 => by simp
  | [], q + 1 => by simp [flat4]
  | x :: xs, q + 1 => by
    rw [List.drop_succ_cons, flat4_drop xs q, show (q + 1) * 4 = q * 4 + 4 from by omega, flat4_cons]
    simp
theorem flat4_take : ∀ (xs : List Sh) (q : Nat), flat4 (xs.take q) = (flat4 xs).take (q * 4)
  | xs, 0 => by simp [flat4]
  | [], q + 1 => by simp [flat4]
  | x :: xs, q + 1 => by
    rw [List.take_succ_cons, show (q + 1) * 4 = q * 4 + 4 from by omega, flat4_cons, flat4_cons, flat4_take xs q]
    simp
theorem flat4_get : ∀ (xs : List Sh) (j : Nat), j < xs.length → (flat4 xs)[j * 4]? = some (.string (at2 xs j).sp.lo) ∧ (flat4 xs)[j * 4 + 1]? = some (.string (at2 xs j).sp.hi) ∧ (flat4 xs)[j * 4 + 2]? = some (.int .i64 (at2 xs j).g) ∧ (flat4 xs)[j * 4 + 3]? = some (.int .i64 (at2 xs j).e)
  | [], j, h => absurd h (Nat.not_lt_zero _)
  | x :: xs, 0, _ => by simp [flat4_cons, at2]
  | x :: xs, j + 1, h => by
    have := flat4_get xs j (by simpa using h)
    rw [flat4_cons, show (j + 1) * 4 = j * 4 + 1 + 1 + 1 + 1 from by omega]
    simpa [at2] using this
/-- Where shares are read from: their cells, from an address on. -/
def ShIn (w : World) (ad : Addr) (xs : List Sh) : Prop := ∀ j u, (flat4 xs)[j]? = some u → w.cell? (ad.add j) = some u
theorem ShIn.ok {w w' : World} {ad : Addr} {xs : List Sh} (h : ShIn w ad xs) (k : Ok w w') : ShIn w' ad xs := fun j u hu => Ok.cell k (h j u hu)
theorem add_off (b o i : Nat) : (⟨b, o, none⟩ : Addr).add i = ⟨b, o + i, none⟩ := by unfold Addr.add; split <;> simp_all
theorem SharesAt.inn {w : World} {b off : Nat} {xs : List Sh} (h : SharesAt w (some ⟨b, off, none⟩) xs) : ShIn w ⟨b, off, none⟩ xs := by
  intro j u hu
  have hl := (List.getElem?_eq_some_iff.1 hu).1
  rw [flat4_len] at hl
  obtain ⟨q, r, hr, rfl⟩ : ∃ q r, r < 4 ∧ j = q * 4 + r := ⟨j / 4, j % 4, Nat.mod_lt _ (by decide), by omega⟩
  have hq : q < xs.length := by omega
  obtain ⟨b', off', e, c0, c1, c2, c3⟩ := h q hq
  simp only [Option.some.injEq, Addr.mk.injEq, and_true] at e
  obtain ⟨rfl, rfl⟩ := e
  obtain ⟨f0, f1, f2, f3⟩ := flat4_get xs q hq
  rw [add_off]
  match r, hr with
  | 0, _ => rw [Nat.add_zero] at hu ⊢; rw [c0, ← f0, hu]
  | 1, _ => rw [← Nat.add_assoc, c1, ← f1, hu]
  | 2, _ => rw [← Nat.add_assoc, c2, ← f2, hu]
  | 3, _ => rw [← Nat.add_assoc, c3, ← f3, hu]
theorem ShIn.first {w : World} {ad : Addr} {xs : List Sh} (h : ShIn w ad xs) (q : Nat) : ShIn w ad (xs.take q) := by
  intro j u hu
  rw [flat4_take] at hu
  have hl := (List.getElem?_eq_some_iff.1 hu).1
  rw [List.length_take] at hl
  rw [List.getElem?_take_of_lt (by omega)] at hu
  exact h j u hu
theorem ShIn.rest {w : World} {b off n c : Nat} {xs : List Sh} (h : ShIn w ⟨b, off, none⟩ xs) (hn : xs.length = n) (hc : n ≤ c) (q : Nat) (ad : Addr)
    (had : (if c = q + 1 then some (⟨b, off, none⟩ : Addr) else some ⟨b, off + (q + 1) * 4, none⟩) = some ad) : ShIn w ad (xs.drop (q + 1)) := by
  intro j u hu
  rw [flat4_drop, List.getElem?_drop] at hu
  have hcl := h _ _ hu
  by_cases hcq : c = q + 1
  · have hl := (List.getElem?_eq_some_iff.1 hu).1
    rw [flat4_len] at hl
    omega
  · rw [if_neg hcq, Option.some.injEq] at had
    subst had
    rw [add_off] at hcl ⊢
    rw [← hcl]
    congr 2
    omega
theorem info60 : (Tryz.prog.info? 35).map (fun i => (i.zero, i.size, i.bytes)) = some (some (.agg #[.string ⟨#[]⟩, .string ⟨#[]⟩, .int .i64 0, .int .i64 0]), 4, 48) := by kernel_rfl
/-- A row of shares of the call's own; it may be nil. -/
def OwnSh (w : World) (base : Nat) (A : Option Addr) (n c : Nat) (xs : List Sh) : Prop := w.ownsRow base 35 4 (.slice A n c) xs.length (flat4 xs) ∧ n = xs.length
theorem OwnSh.nil (w : World) (base : Nat) : OwnSh w base none 0 0 [] := ⟨World.ownsRow_nil _ _ _ _, rfl⟩
theorem OwnSh.alloc {w : World} {B : Nat} {A : Option Addr} {n c : Nat} {xs : List Sh} (h : OwnSh w B A n c xs) (o : Obj) : OwnSh (w.alloc o) B A n c xs := ⟨h.1.alloc o, h.2⟩
theorem OwnSh.base {w : World} {B B' : Nat} {A : Option Addr} {n c : Nat} {xs : List Sh} (h : OwnSh w B A n c xs) (hb : B' ≤ B) : OwnSh w B' A n c xs := by
  refine ⟨⟨h.1.1, ?_⟩, h.2⟩
  rcases h.1.2 with h2 | ⟨g, cap, cur, e, hbb, r⟩
  · exact .inl h2
  · exact .inr ⟨g, cap, cur, e, Nat.le_trans hb hbb, r⟩
theorem OwnSh.ok {w w' : World} {B : Nat} {A : Option Addr} {n c : Nat} {xs : List Sh} (h : OwnSh w B A n c xs) (k : Ok w w') : OwnSh w' B A n c xs := by
  refine ⟨h.1.kept (row := none) ⟨k.os, k.tape, k.output, k.size, fun i hi _ => k.block i hi⟩ ?_, h.2⟩
  cases Value.ownBlock (.slice A n c) with
  | none => exact .inl rfl
  | some b => exact .inr (fun e => by cases e)
theorem OwnSh.at {w : World} {B : Nat} {A : Option Addr} {n c : Nat} {xs : List Sh} (h : OwnSh w B A n c xs) : SharesAt w A xs := fun j hj => by
  obtain ⟨h1, rfl⟩ := h
  rcases h1.2 with ⟨e, h5⟩ | ⟨g, cap, cur, e, r⟩
  · omega
  · obtain ⟨rfl, -, rfl⟩ : A = some ⟨g, 0, none⟩ ∧ True ∧ c = cap := by
      simp only [Value.slice.injEq] at e
      exact ⟨e.1, trivial, e.2.2⟩
    obtain ⟨f0, f1, f2, f3⟩ := flat4_get xs j hj
    refine ⟨g, 0, rfl, ?_, ?_, ?_, ?_⟩
    · rw [Nat.zero_add, World.ownsRow.cellAt h1 (j * 4) (by omega), f0]
    · rw [Nat.zero_add, World.ownsRow.cellAt h1 (j * 4 + 1) (by omega), f1]
    · rw [Nat.zero_add, World.ownsRow.cellAt h1 (j * 4 + 2) (by omega), f2]
    · rw [Nat.zero_add, World.ownsRow.cellAt h1 (j * 4 + 3) (by omega), f3]
/-- Shares appended. -/
theorem wpList_appSh {ops : Array Oper} {rest : List Oper} {o : Oper} {a : Act} {w : World} {Q : Exit → Act → World → Prop} (hgd : o.guard = none) (s x : Operand)
    (ho : o.op = .call { callee := .builtin .append, args := #[s, x], argTypes := #[22, 22] })
    (base : Nat) (A : Option Addr) (n c : Nat) (xs : List Sh) (hs : a.eval s = .slice A n c) (hown : OwnSh w base A n c xs)
    (ad : Addr) (m c2 : Nat) (ys : List Sh) (hx : a.eval x = .slice (some ad) m c2) (hm : ys.length = m) (hnews : ShIn w ad ys) (hlen : xs.length + m ≤ 100000) (hbase : base ≤ w.heap.size)
    (hk : ∀ A' n' c' w', OwnSh w' base A' n' c' (xs ++ ys) → Below base w w' → wpList Tryz.prog ops Q rest (a.put o.dst (.slice A' n' c')) w') : wpList Tryz.prog ops Q (o :: rest) a w := by
  obtain ⟨i0, hi, hz0, hz1, hz2⟩ := info_parts info60
  obtain ⟨hown, rfl⟩ := hown
  refine wpList_append_own_at _ hgd s x 22 ho base 35 i0 (.agg #[.string ⟨#[]⟩, .string ⟨#[]⟩, .int .i64 0, .int .i64 0]) 4 48 Tryz.underlying22 hi hz0 hz1 hz2 rfl (by decide) _ xs.length (flat4 xs) hs hown ad m c2 (flat4 ys) hx (by rw [flat4_len, hm]) hnews (flat4_one ys) (by unfold maxLen; omega) (by omega) hbase ?_
  intro v' w' h2 h3 _ _
  have hb : Below base w w' := (Below.refl base w).grown h3 hbase (fun k hk => (World.ownsRow.lt hown k hk).1)
  rw [← hm, ← flat4_append, ← List.length_append] at h2
  rcases h2.2 with ⟨rfl, h5⟩ | ⟨g', cap', cur, rfl, _⟩
  · exact hk none 0 0 w' ⟨h2, h5.symm⟩ hb
  · exact hk _ _ _ w' ⟨h2, rfl⟩ hb

/-- What a call that tells shares leaves. -/
def SharesPost (w : World) (xs : List Sh) : Ending → World → Prop := fun e w' => ∃ A c, e = .returned (.slice A xs.length c) ∧ OwnSh w' w.heap.size A xs.length c xs ∧ Ok w w'
theorem SharesPost.mk {w w' : World} {xs : List Sh} {e : Ending} (A : Option Addr) (n c : Nat) (he : e = .returned (.slice A n c)) (h : OwnSh w' w.heap.size A n c xs) (ho : Ok w w') : SharesPost w xs e w' := by
  obtain ⟨h1, rfl⟩ := h
  exact ⟨A, c, he, ⟨h1, rfl⟩, ho⟩
end Go.Proofs.YtdabdkedgigjdaaGreat
