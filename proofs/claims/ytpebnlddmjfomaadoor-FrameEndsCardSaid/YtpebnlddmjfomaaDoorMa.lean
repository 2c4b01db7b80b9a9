/- Frames as plain mathematics: their bytes, what is got of bytes, cuts, a bit that is turned. -/
import Derived.Test.YtpebnlddmjfomaaDoorP3
namespace Go.Proofs.YtpebnlddmjfomaaDoor
structure Fr where
  kind : Int
  data : List B8
def four (n : Nat) : List B8 := [BitVec.ofNat 8 n, BitVec.ofNat 8 (n / 256), BitVec.ofNat 8 (n / 65536), BitVec.ofNat 8 (n / 16777216)]
def un4 (a b c d : B8) : Nat := a.toNat + 256 * b.toNat + 65536 * c.toNat + 16777216 * d.toNat
theorem un4_lt (a b c d : B8) : un4 a b c d < 4294967296 := by
  unfold un4
  have := a.isLt; have := b.isLt; have := c.isLt; have := d.isLt
  omega
theorem four_len (n : Nat) : (four n).length = 4 := rfl
theorem un4_four (n : Nat) (h : n < 4294967296) : un4 (BitVec.ofNat 8 n) (BitVec.ofNat 8 (n / 256)) (BitVec.ofNat 8 (n / 65536)) (BitVec.ofNat 8 (n / 16777216)) = n := by
  unfold un4
  simp only [BitVec.toNat_ofNat]
  omega
theorem four_un4 (a b c d : B8) : four (un4 a b c d) = [a, b, c, d] := by
  have := a.isLt; have := b.isLt; have := c.isLt; have := d.isLt
  have e0 : BitVec.ofNat 8 (un4 a b c d) = a := by
    apply BitVec.eq_of_toNat_eq; rw [BitVec.toNat_ofNat]; unfold un4; omega
  have e1 : BitVec.ofNat 8 (un4 a b c d / 256) = b := by
    apply BitVec.eq_of_toNat_eq; rw [BitVec.toNat_ofNat]; unfold un4; omega
  have e2 : BitVec.ofNat 8 (un4 a b c d / 65536) = c := by
    apply BitVec.eq_of_toNat_eq; rw [BitVec.toNat_ofNat]; unfold un4; omega
  have e3 : BitVec.ofNat 8 (un4 a b c d / 16777216) = d := by
    apply BitVec.eq_of_toNat_eq; rw [BitVec.toNat_ofNat]; unfold un4; omega
  unfold four
  rw [e0, e1, e2, e3]
theorem four_inj {n m : Nat} (hn : n < 4294967296) (hm : m < 4294967296) (h : four n = four m) : n = m := by
  unfold four at h
  simp only [List.cons.injEq, and_true] at h
  obtain ⟨h0, h1, h2, h3⟩ := h
  rw [← un4_four n hn, ← un4_four m hm, h0, h1, h2, h3]
def headB (k n : Nat) : List B8 := four n ++ [BitVec.ofNat 8 k]
def sumF (k : Nat) (d : List B8) : Nat := (more 0#32 [headB k d.length, d]).toNat
theorem sumF_lt (k : Nat) (d : List B8) : sumF k d < 4294967296 := (more 0#32 [headB k d.length, d]).isLt
def bytesF (f : Fr) : List B8 := headB f.kind.toNat f.data.length ++ (four (sumF f.kind.toNat f.data) ++ f.data)
theorem bytesF_len (f : Fr) : (bytesF f).length = 9 + f.data.length := by
  simp [bytesF, headB, four]; omega
def RightF (f : Fr) : Prop := 0 ≤ f.kind ∧ f.kind ≤ 255 ∧ f.data.length ≤ 262144
def putL (l : List Fr) : List B8 := l.flatMap bytesF
theorem putL_nil : putL [] = [] := rfl
theorem putL_cons (f : Fr) (l : List Fr) : putL (f :: l) = bytesF f ++ putL l := rfl
theorem putL_append (a b : List Fr) : putL (a ++ b) = putL a ++ putL b := List.flatMap_append
/-- The frame that bytes begin with, and what follows. -/
def nextF : List B8 → Option (Fr × List B8)
  | a0 :: a1 :: a2 :: a3 :: k :: t0 :: t1 :: t2 :: t3 :: rest =>
    if un4 a0 a1 a2 a3 ≤ 262144 ∧ un4 a0 a1 a2 a3 ≤ rest.length ∧ sumF k.toNat (rest.take (un4 a0 a1 a2 a3)) = un4 t0 t1 t2 t3
    then some (⟨k.toNat, rest.take (un4 a0 a1 a2 a3)⟩, rest.drop (un4 a0 a1 a2 a3)) else none
  | _ => none
theorem nine {bs : List B8} (h : 9 ≤ bs.length) : ∃ a0 a1 a2 a3 k t0 t1 t2 t3 rest, bs = a0 :: a1 :: a2 :: a3 :: k :: t0 :: t1 :: t2 :: t3 :: rest := by
  match bs, h with
  | a0 :: a1 :: a2 :: a3 :: k :: t0 :: t1 :: t2 :: t3 :: rest, _ => exact ⟨_, _, _, _, _, _, _, _, _, _, rfl⟩
theorem next_short {bs : List B8} (h : bs.length < 9) : nextF bs = none := by
  unfold nextF
  split
  · simp only [List.length_cons] at h; omega
  · rfl
theorem next_bytes (f : Fr) (r : List B8) (h : RightF f) : nextF (bytesF f ++ r) = some (f, r) := by
  obtain ⟨kind, data⟩ := f
  obtain ⟨h0, h1, h2⟩ := h
  simp only at h0 h1 h2
  have hn := un4_four data.length (by omega)
  have hs := un4_four (sumF kind.toNat data) (sumF_lt _ _)
  have hk : (BitVec.ofNat 8 kind.toNat : B8).toNat = kind.toNat := by rw [BitVec.toNat_ofNat]; omega
  simp only [bytesF, headB, four, List.cons_append, List.nil_append, nextF]
  rw [hn, hs, hk]
  have e1 : (data ++ r).take data.length = data := List.take_left
  have e2 : (data ++ r).drop data.length = r := List.drop_left
  rw [e1, e2, if_pos ⟨h2, by rw [List.length_append]; omega, rfl⟩]
  have : ((kind.toNat : Nat) : Int) = kind := by omega
  rw [this]
theorem next_some {bs : List B8} {f : Fr} {r : List B8} (h : nextF bs = some (f, r)) : RightF f ∧ bs = bytesF f ++ r := by
  rcases Nat.lt_or_ge bs.length 9 with hl | hl
  · rw [next_short hl] at h; cases h
  · obtain ⟨a0, a1, a2, a3, k, t0, t1, t2, t3, rest, rfl⟩ := nine hl
    unfold nextF at h
    simp only at h
    split at h
    · rename_i hc
      obtain ⟨c1, c2, c3⟩ := hc
      simp only [Option.some.injEq, Prod.mk.injEq] at h
      obtain ⟨rfl, rfl⟩ := h
      have hk := k.isLt
      have hlen : (rest.take (un4 a0 a1 a2 a3)).length = un4 a0 a1 a2 a3 := by rw [List.length_take]; omega
      refine ⟨⟨Int.natCast_nonneg _, by simp only; omega, by simp only [hlen]; omega⟩, ?_⟩
      simp only [bytesF, headB, hlen, Int.toNat_natCast, c3, four_un4]
      rw [BitVec.ofNat_toNat, BitVec.setWidth_eq]
      simp
    · cases h
theorem next_none_of {r t : List B8} {f : Fr} (hf : RightF f) (h : r ++ t = bytesF f) (ht : t ≠ []) : nextF r = none := by
  cases hn : nextF r with
  | none => rfl
  | some p =>
    obtain ⟨g, r'⟩ := p
    obtain ⟨hg, hr⟩ := next_some hn
    have h1 := next_bytes f [] hf
    rw [List.append_nil, ← h, hr, List.append_assoc, next_bytes g _ hg] at h1
    simp only [Option.some.injEq, Prod.mk.injEq] at h1
    have h2 := h1.2
    cases t with
    | nil => exact absurd rfl ht
    | cons x t => cases r' <;> simp at h2
/-- What is got of bytes: the frames, and what is left. -/
def Got (bs : List B8) (xs : List Fr) (r : List B8) : Prop := (∀ f ∈ xs, RightF f) ∧ bs = putL xs ++ r ∧ nextF r = none
theorem got_pre {bs r : List B8} {ys : List Fr} : ∀ {xs : List Fr}, (∀ f ∈ xs, RightF f) → Got (putL xs ++ bs) ys r → ∃ zs, ys = xs ++ zs ∧ Got bs zs r := by
  intro xs
  induction xs generalizing ys with
  | nil => intro _ h; exact ⟨ys, rfl, h⟩
  | cons f xs ih =>
    intro hr h
    obtain ⟨g1, g2, g3⟩ := h
    rw [putL_cons, List.append_assoc] at g2
    have hf := hr f (List.mem_cons_self ..)
    cases ys with
    | nil =>
      rw [putL_nil, List.nil_append] at g2
      rw [← g2, next_bytes f _ hf] at g3
      cases g3
    | cons y ys =>
      rw [putL_cons, List.append_assoc] at g2
      have hy := g1 y (List.mem_cons_self ..)
      have h1 := next_bytes f (putL xs ++ bs) hf
      rw [g2, next_bytes y _ hy] at h1
      simp only [Option.some.injEq, Prod.mk.injEq] at h1
      obtain ⟨rfl, h2⟩ := h1
      obtain ⟨zs, e, hz⟩ := ih (fun f hf => hr f (List.mem_cons_of_mem _ hf)) (ys := ys) ⟨fun f hf => g1 f (List.mem_cons_of_mem _ hf), h2.symm, g3⟩
      exact ⟨zs, by rw [e]; rfl, hz⟩
theorem got_none {bs r : List B8} {ys : List Fr} (hn : nextF bs = none) (h : Got bs ys r) : ys = [] ∧ r = bs := by
  obtain ⟨g1, g2, g3⟩ := h
  cases ys with
  | nil => exact ⟨rfl, g2.symm⟩
  | cons y ys =>
    rw [putL_cons, List.append_assoc] at g2
    rw [g2, next_bytes y _ (g1 y (List.mem_cons_self ..))] at hn
    cases hn
theorem got_uniq {bs r r' : List B8} {xs ys : List Fr} (h : Got bs xs r) (h' : Got bs ys r') : ys = xs ∧ r' = r := by
  obtain ⟨g1, g2, g3⟩ := h
  rw [g2] at h'
  obtain ⟨zs, e, hz⟩ := got_pre g1 h'
  obtain ⟨rfl, e2⟩ := got_none g3 hz
  exact ⟨by rw [e, List.append_nil], e2⟩
theorem got_behind {b r : List B8} {x l : List Fr} (h : Got b x r) (hl : ∀ f ∈ l, RightF f) : Got (putL l ++ b) (l ++ x) r := by
  obtain ⟨g1, g2, g3⟩ := h
  refine ⟨fun f hf => ?_, by rw [g2, putL_append, List.append_assoc], g3⟩
  rcases List.mem_append.1 hf with h | h
  · exact hl f h
  · exact g1 f h
theorem next_nil : nextF [] = none := rfl
theorem got_put {l : List Fr} (hl : ∀ f ∈ l, RightF f) : Got (putL l) l [] := ⟨hl, by rw [List.append_nil], next_nil⟩
/-- How many bytes the first frames are. -/
def upto (l : List Fr) (w : Nat) : Nat := (putL (l.take w)).length
theorem upto_zero (l : List Fr) : upto l 0 = 0 := rfl
def atF (l : List Fr) (j : Nat) : Fr := l.getD j ⟨0, []⟩
theorem upto_succ (l : List Fr) (w : Nat) (h : w < l.length) : upto l (w + 1) = upto l w + 9 + (atF l w).data.length := by
  have e : atF l w = l[w] := by simp [atF, List.getD, h]
  unfold upto
  rw [List.take_succ_eq_append_getElem h, putL_append, List.length_append, putL_cons, putL_nil, List.append_nil, bytesF_len, e]
  omega
theorem upto_all (l : List Fr) : upto l l.length = (putL l).length := by unfold upto; rw [List.take_length]
theorem upto_le (l : List Fr) (w : Nat) : upto l w ≤ (putL l).length := by
  have : putL l = putL (l.take w) ++ putL (l.drop w) := by rw [← putL_append, List.take_append_drop]
  rw [this, List.length_append]
  unfold upto
  omega
theorem put_split (l : List Fr) (w : Nat) (h : w < l.length) : putL l = putL (l.take w) ++ (bytesF (atF l w) ++ putL (l.drop (w + 1))) := by
  have e : atF l w = l[w] := by simp [atF, List.getD, h]
  rw [← putL_cons, ← putL_append, e, List.getElem_cons_drop, List.take_append_drop]
theorem atF_mem (l : List Fr) (w : Nat) (h : w < l.length) : atF l w ∈ l := by
  have e : atF l w = l[w] := by simp [atF, List.getD, h]
  rw [e]
  exact List.getElem_mem h
theorem got_cut {l : List Fr} (hl : ∀ f ∈ l, RightF f) (k w : Nat) (hw : w ≤ l.length) (h1 : upto l w ≤ k) (h2 : w < l.length → k < upto l w + 9 + (atF l w).data.length) :
    ∃ r, Got ((putL l).take k) (l.take w) r := by
  rcases Nat.lt_or_ge w l.length with h | h
  · have hk2 := h2 h
    rw [put_split l w h, List.take_append, List.take_of_length_le (by unfold upto at h1; omega)]
    refine ⟨_, fun f hf => hl f (List.mem_of_mem_take hf), rfl, ?_⟩
    rw [List.take_append_of_le_length (by rw [bytesF_len]; unfold upto at h1 hk2; omega)]
    refine next_none_of (t := (bytesF (atF l w)).drop (k - (putL (l.take w)).length)) (hl _ (atF_mem l w h)) (List.take_append_drop ..) (fun e => ?_)
    have := congrArg List.length e
    rw [List.length_drop, bytesF_len] at this
    unfold upto at h1 hk2
    simp only [List.length_nil] at this
    omega
  · have : w = l.length := by omega
    subst this
    rw [upto_all] at h1
    rw [List.take_of_length_le h1, List.take_length]
    exact ⟨[], got_put hl⟩
theorem flip_append_right (a b : List B8) (i : Nat) : flip (a ++ b) (8 * a.length + i) = a ++ flip b i := by
  unfold flip
  have e1 : (8 * a.length + i) / 8 = a.length + i / 8 := by omega
  have e2 : (8 * a.length + i) % 8 = i % 8 := by omega
  rw [e1, e2, List.set_append_right _ _ (by omega), Nat.add_sub_cancel_left]
  congr 2
  simp [List.getD, List.getElem?_append_right]
theorem flip_append_left (a b : List B8) (i : Nat) (h : i < 8 * a.length) : flip (a ++ b) i = flip a i ++ b := by
  unfold flip
  have : i / 8 < a.length := by omega
  rw [List.set_append_left _ _ this]
  congr 3
  simp [List.getD, List.getElem?_append_left this]
theorem flip_ne (l : List B8) (i : Nat) (h : i < 8 * l.length) : flip l i ≠ l := fun e => by
  have := bitAt_flip l i i h
  rw [e] at this
  simp at this
theorem more_two' (a b : List B8) : more 0#32 [a, b] = ~~~ fds (~~~ 0#32) (a ++ b) := by
  unfold more
  rw [fdss_flat]
  simp
theorem sum_turned (a b : List B8) (i : Nat) (h : i < 8 * (a ++ b).length) (a' b' : List B8) (e : a' ++ b' = flip (a ++ b) i) : (more 0#32 [a', b']).toNat ≠ (more 0#32 [a, b]).toNat := fun he => by
  have h1 := BitVec.eq_of_toNat_eq he
  rw [more_two', more_two', e] at h1
  have h2 : fds (~~~ 0#32) (flip (a ++ b) i) = fds (~~~ 0#32) (a ++ b) := by
    have := congrArg (fun x => ~~~ x) h1
    simpa using this
  exact turned_one _ _ i h h2
/-- A frame in which a bit behind the first four bytes is turned is none. -/
theorem next_turned (f : Fr) (t : List B8) (j : Nat) (hf : RightF f) (h0 : 32 ≤ j) (h1 : j < 8 * (bytesF f).length) : nextF (flip (bytesF f) j ++ t) = none := by
  cases hn : nextF (flip (bytesF f) j ++ t) with
  | none => rfl
  | some p =>
    exfalso
    obtain ⟨g, r⟩ := p
    obtain ⟨hg, he⟩ := next_some hn
    obtain ⟨kf, df⟩ := f
    obtain ⟨kg, dg⟩ := g
    obtain ⟨f0, f1, f2⟩ := hf
    obtain ⟨g0, g1, g2⟩ := hg
    simp only at f0 f1 f2 g0 g1 g2
    -- the lengths
    have hd : df.length = dg.length := by
      have h4 := congrArg (List.take 4) he
      have e4 : j = 8 * (four df.length).length + (j - 32) := by rw [four_len]; omega
      have eb : bytesF ⟨kf, df⟩ = four df.length ++ (BitVec.ofNat 8 kf.toNat :: (four (sumF kf.toNat df) ++ df)) := by simp [bytesF, headB]
      have eg : bytesF ⟨kg, dg⟩ = four dg.length ++ (BitVec.ofNat 8 kg.toNat :: (four (sumF kg.toNat dg) ++ dg)) := by simp [bytesF, headB]
      rw [eb, e4, flip_append_right, eg, List.append_assoc, List.append_assoc, List.take_left' (four_len _), List.take_left' (four_len _)] at h4
      exact four_inj (by omega) (by omega) h4
    have hlen : (flip (bytesF ⟨kf, df⟩) j).length = (bytesF ⟨kg, dg⟩).length := by rw [flip_length, bytesF_len, bytesF_len, hd]
    have hb : flip (bytesF ⟨kf, df⟩) j = bytesF ⟨kg, dg⟩ := (List.append_inj he hlen).1
    clear he hlen
    rw [bytesF_len] at h1
    simp only at h1
    have hhl : ∀ k n, (headB k n).length = 5 := fun k n => rfl
    simp only [bytesF] at hb
    rcases Nat.lt_or_ge j 40 with hj | hj
    · rw [flip_append_left _ _ _ (by rw [hhl]; omega)] at hb
      obtain ⟨e1, e2⟩ := List.append_inj hb (by rw [flip_length, hhl, hhl])
      obtain ⟨e3, e4⟩ := List.append_inj e2 (by rw [four_len, four_len])
      have e5 := four_inj (sumF_lt _ _) (sumF_lt _ _) e3
      unfold sumF at e5
      refine sum_turned (headB kf.toNat df.length) df j (by rw [List.length_append, hhl]; omega) (headB kg.toNat dg.length) dg ?_ e5.symm
      rw [flip_append_left _ _ _ (by rw [hhl]; omega), e1, e4]
    · have ej : j = 8 * (headB kf.toNat df.length).length + (j - 40) := by rw [hhl]; omega
      rw [ej, flip_append_right] at hb
      obtain ⟨e1, e2⟩ := List.append_inj hb (by rw [hhl, hhl])
      rcases Nat.lt_or_ge (j - 40) 32 with hj2 | hj2
      · rw [flip_append_left _ _ _ (by rw [four_len]; omega)] at e2
        obtain ⟨e3, e4⟩ := List.append_inj e2 (by rw [flip_length, four_len, four_len])
        have e5 : sumF kf.toNat df = sumF kg.toNat dg := by unfold sumF; rw [e1, e4]
        rw [← e5] at e3
        exact flip_ne _ _ (by rw [four_len]; omega) e3
      · have ej2 : j - 40 = 8 * (four (sumF kf.toNat df)).length + (j - 72) := by rw [four_len]; omega
        rw [ej2, flip_append_right] at e2
        obtain ⟨e3, e4⟩ := List.append_inj e2 (by rw [four_len, four_len])
        have e5 := four_inj (sumF_lt _ _) (sumF_lt _ _) e3
        unfold sumF at e5
        refine sum_turned (headB kf.toNat df.length) df (j - 32) (by rw [List.length_append, hhl]; omega) (headB kg.toNat dg.length) dg ?_ e5.symm
        have e6 : j - 32 = 8 * (headB kf.toNat df.length).length + (j - 72) := by rw [hhl]; omega
        rw [e6, flip_append_right, e1, ← e4]
theorem got_turned {l : List Fr} (hl : ∀ f ∈ l, RightF f) (i w : Nat) (hw : w < l.length) (h1 : upto l w ≤ i / 8) (h2 : i / 8 < upto l w + 9 + (atF l w).data.length) {zs : List Fr} {r : List B8} (h : Got (flip (putL l) i) zs r) :
    (∃ z, zs = l.take w ++ z) ∧ (4 ≤ i / 8 - upto l w → zs = l.take w) := by
  have hwr : ∀ f ∈ l.take w, RightF f := fun f hf => hl f (List.mem_of_mem_take hf)
  have ei : i = 8 * (putL (l.take w)).length + (i - 8 * upto l w) := by unfold upto; unfold upto at h1; omega
  rw [put_split l w hw, ei, flip_append_right] at h
  obtain ⟨z, e, hz⟩ := got_pre hwr h
  refine ⟨⟨z, e⟩, fun h4 => ?_⟩
  rw [flip_append_left _ _ _ (by rw [bytesF_len]; omega)] at hz
  obtain ⟨rfl, _⟩ := got_none (next_turned _ _ _ (hl _ (atF_mem l w hw)) (by omega) (by rw [bytesF_len]; omega)) hz
  rw [e, List.append_nil]
end Go.Proofs.YtpebnlddmjfomaaDoor
