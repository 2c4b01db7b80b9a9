/- Pasts, as plain mathematics: names in any order, merged, written and read. -/
import Derived.Test.YtnjaiiifafbbjaaPm
namespace Go.Proofs.Ytnjaiiifafbbjaa
open Go.RowKit

theorem rz_mg (f g : Nat → Int) (x : Nm) : rz (mg f g) x = mg f (rz g x) := by
  funext i
  simp only [rz, mg, mxI]
  repeat' split
  all_goals omega
theorem rzs_mg (f : Nat → Int) : ∀ (l : List Nm) (g : Nat → Int), rzs (mg f g) l = mg f (rzs g l)
  | [], _ => rfl
  | x :: l, g => by
    have := rzs_mg f l (rz g x)
    rw [← rz_mg] at this
    exact this
theorem mg_zero (f : Nat → Int) (hf : ∀ i, 0 ≤ f i) : mg f fz = f := by
  funext i
  have := hf i
  have h : ¬ f i < 0 := by omega
  exact if_neg h
theorem rzs_from (f : Nat → Int) (hf : ∀ i, 0 ≤ f i) (l : List Nm) : rzs f l = mg f (rzs fz l) := by
  rw [← rzs_mg, mg_zero f hf]
theorem rzs_append (f : Nat → Int) (l l' : List Nm) : rzs f (l ++ l') = rzs (rzs f l) l' := by simp [rzs]
theorem rz_up (f : Nat → Int) (x : Nm) (i : Nat) : f i ≤ rz f x i := by
  simp only [rz, mxI]
  repeat' split
  all_goals omega
theorem rzs_up : ∀ (l : List Nm) (f : Nat → Int) (i : Nat), f i ≤ rzs f l i
  | [], _, _ => Int.le_refl _
  | x :: l, f, i => Int.le_trans (rz_up f x i) (rzs_up l (rz f x) i)
theorem fz_pos (i : Nat) : 0 ≤ fz i := Int.le_refl _
theorem rzs_pos (l : List Nm) (i : Nat) : 0 ≤ rzs fz l i := rzs_up l fz i
theorem rzs_mem : ∀ (l : List Nm) (f : Nat → Int) (x : Nm) (i : Nat), x ∈ l → x.c = (i : Int) + 1 → x.n ≤ rzs f l i
  | y :: l, f, x, i, h, hc => by
    rcases List.mem_cons.1 h with rfl | h
    · have h1 : x.n ≤ rz f x i := by
        simp only [rz, mxI, hc, if_true]
        split
        all_goals omega
      exact Int.le_trans h1 (rzs_up l (rz f x) i)
    · exact rzs_mem l (rz f y) x i h hc
theorem rz_fits (f : Nat → Int) (hf : Fits f) (x : Nm) (hx : nmB x = true) : Fits (rz f x) := fun i hi => by
  have := hf i hi
  simp only [nmB, Bool.and_eq_true, decide_eq_true_eq] at hx
  simp only [rz, mxI]
  repeat' split
  all_goals omega
theorem rzs_fits : ∀ (l : List Nm) (f : Nat → Int), Fits f → allB l = true → Fits (rzs f l)
  | [], _, hf, _ => hf
  | x :: l, f, hf, h => by
    simp only [allB, List.all_cons, Bool.and_eq_true] at h
    exact rzs_fits l (rz f x) (rz_fits f hf x h.1) h.2
theorem fz_fits : Fits fz := fun i _ => ⟨Int.le_refl _, by simp [fz]⟩
theorem mg_fits (f g : Nat → Int) (hf : Fits f) (hg : Fits g) : Fits (mg f g) := fun i hi => by
  have := hf i hi
  have := hg i hi
  simp only [mg, mxI]
  split <;> omega

/-- Whatever the order. -/
theorem turned_eq (a b : List Nm) (k : Nat) : rzs fz (b ++ a.drop k ++ a.take k) = mg (rzs fz b) (rzs fz a) := by
  have ha : rzs fz a = mg (rzs fz (a.take k)) (rzs fz (a.drop k)) := by
    have : rzs fz a = rzs fz (a.take k ++ a.drop k) := by rw [List.take_append_drop]
    rw [this, rzs_append, rzs_from _ (rzs_pos _)]
  rw [rzs_append, rzs_append, rzs_from (rzs (rzs fz b) _) (fun i => Int.le_trans (rzs_pos b i) (rzs_up _ _ i)), rzs_from (rzs fz b) (rzs_pos b), ha]
  funext i
  simp only [mg, mxI]
  repeat' split
  all_goals omega
theorem merged_p (f g : Nat → Int) (p q : Nat) : mgs f [(p, g), (q, g)] = mg g f := by
  funext i
  simp only [mgs, List.foldl_cons, List.foldl_nil, mg, mxI]
  repeat' split
  all_goals omega
theorem merged_q (f g : Nat → Int) (p : Nat) : mgs f [(p, g)] = mg f g := rfl
theorem absorbed (f : Nat → Int) (a : List Nm) : rzs (mg f (rzs fz a)) a = mg f (rzs fz a) := by
  rw [rzs_mg, rzs_from _ (rzs_pos a)]
  funext i
  simp only [mg, mxI]
  repeat' split
  all_goals omega
theorem allB_append (l l' : List Nm) : allB (l ++ l') = (allB l && allB l') := by simp [allB]
theorem allB_turned (a b : List Nm) (k : Nat) (ha : allB a = true) (hb : allB b = true) : allB (b ++ a.drop k ++ a.take k) = true := by
  rw [allB_append, allB_append, hb]
  simp only [allB, List.all_eq_true] at ha
  simp only [allB, Bool.true_and, Bool.and_eq_true, List.all_eq_true]
  exact ⟨fun x hx => ha x (List.mem_of_mem_drop hx), fun x hx => ha x (List.mem_of_mem_take hx)⟩
/-- Each name is past. -/
theorem isB_mem (f : Nat → Int) (l : List Nm) (x : Nm) (hx : x ∈ l) (hl : allB l = true) : isB (mg f (rzs fz l)) x = true := by
  have hr := List.all_eq_true.1 hl x hx
  have hr2 := hr
  simp only [nmB, clientB, Bool.and_eq_true, decide_eq_true_eq] at hr2
  have := rzs_mem l fz x (x.c - 1).toNat hx (by omega)
  have h2 : x.n ≤ mg f (rzs fz l) (x.c - 1).toNat := by
    simp only [mg, mxI]
    split <;> omega
  simp only [isB, hr, Bool.true_and, decide_eq_true_eq]
  exact h2
theorem isB_over (f : Nat → Int) (i : Nat) : isB f ⟨(i : Int) + 1, f i + 1⟩ = false := by
  have e : ((i : Int) + 1 - 1).toNat = i := by omega
  simp only [isB, e, Bool.and_eq_false_iff, decide_eq_false_iff_not]
  right; omega
theorem isB_top (f : Nat → Int) (hf : Fits f) (i : Nat) (hi : i < 8) (h : 0 < f i) : isB f ⟨(i : Int) + 1, f i⟩ = true := by
  have e : ((i : Int) + 1 - 1).toNat = i := by omega
  have := hf i hi
  simp only [isB, nmB, clientB, e, Bool.and_eq_true, decide_eq_true_eq]
  omega

/-- What is written of a number is read as it. -/
theorem rdF_fwd (m : Nat) (r : List B8) : ∀ (f k n d : Nat), d < 128 ^ f → (0 < k → 0 < d) → (0 < f ∨ 0 < k) → n + d * 128 ^ k ≤ m →
    rdF m f k n (encF f d ++ r) = some (n + d * 128 ^ k, r) := by
  intro f
  induction f with
  | zero => intro k n d hd hk h; simp at hd; omega
  | succ f ih =>
    intro k n d hd hk _ hm
    by_cases hl : 127 < d
    · rw [encF, if_pos hl]
      have hb : (BitVec.ofNat 8 (d % 128 + 128)).toNat = d % 128 + 128 := by rw [BitVec.toNat_ofNat]; omega
      rw [List.cons_append, rdF, hb, if_pos (by omega)]
      have e : (d % 128 + 128) % 128 = d % 128 := by omega
      have hq : n + d % 128 * 128 ^ k + d / 128 * 128 ^ (k + 1) = n + d * 128 ^ k := by
        rw [Nat.pow_succ, ← Nat.mul_assoc, Nat.mul_right_comm, Nat.add_assoc, ← Nat.add_mul, Nat.mod_add_div' d 128]
      rw [e, ih (k + 1) _ (d / 128) (by rw [Nat.pow_succ] at hd; exact Nat.div_lt_of_lt_mul (by rw [Nat.mul_comm]; exact hd)) (fun _ => by omega) (.inr (by omega)) (by rw [hq]; exact hm), hq]
    · rw [encF, if_neg hl]
      have hb : (BitVec.ofNat 8 d).toNat = d := by rw [BitVec.toNat_ofNat]; omega
      rw [List.cons_append, List.nil_append, rdF, hb, if_neg hl]
      have e : d % 128 = d := by omega
      rw [e, if_neg]
      intro h
      rcases h with ⟨h1, h2⟩ | h
      · have := hk h2; omega
      · omega
theorem rd_fwd (m d : Nat) (r : List B8) (hd : d ≤ 4611686018427387903) (hm : d ≤ m) : rd m (enc d ++ r) = some (d, r) := by
  have := rdF_fwd m r 9 0 0 d (by omega) (fun h => by omega) (.inl (by omega)) (by omega)
  simpa [rd, enc] using this
theorem numM_fwd (d : Nat) (r : List B8) (hd : d ≤ mxN) : numM mxN (enc d ++ r) false = (d, r, false) := by
  have e : rd mxN (enc d ++ r) = some (d, r) := rd_fwd mxN d r (Nat.le_trans hd (by decide)) hd
  simp [numM, e, resN, resL, resF]
theorem encs_drop (l : List Nat) (k : Nat) (hk : k < l.length) : encs (l.drop k) = enc (l.getD k 0) ++ encs (l.drop (k + 1)) := by
  rw [List.drop_eq_getElem_cons hk]
  simp only [encs, List.map_cons, List.flatten_cons]
  rw [List.getD_eq_getElem?_getD, List.getElem?_eq_getElem hk]; rfl
theorem stM_encs (l : List Nat) (h : ∀ k, k < l.length → l.getD k 0 ≤ mxN) : ∀ k, k ≤ l.length → stM (encs l) k = (encs (l.drop k), false)
  | 0, _ => by simp [stM]
  | k + 1, hk => by
    rw [stM, stM_encs l h k (by omega)]
    simp only
    rw [encs_drop l k (by omega), numM_fwd _ _ (h k (by omega))]
theorem valM_encs (l : List Nat) (h : ∀ k, k < l.length → l.getD k 0 ≤ mxN) (k : Nat) (hk : k < l.length) : valM (encs l) k = l.getD k 0 := by
  rw [valM, stM_encs l h k (by omega)]
  simp only
  rw [encs_drop l k hk, numM_fwd _ _ (h k hk)]
theorem read_again (f : Nat → Int) (hf : Fits f) : (stM (encs (numsL f)) 8).2 = false ∧ ∀ i, i < 8 → upto (encs (numsL f)) 8 i = f i := by
  have h : ∀ k, k < (numsL f).length → (numsL f).getD k 0 ≤ mxN := fun k hk => by
    rw [numsL_get f k hk]
    have := hf k hk
    unfold mxN; omega
  refine ⟨by rw [stM_encs _ h 8 (by simp [numsL])], fun i hi => ?_⟩
  rw [upto, if_pos hi, valM_encs _ h i hi, numsL_get f i hi]
  exact Int.toNat_of_nonneg (hf i hi).1
end Go.Proofs.Ytnjaiiifafbbjaa
