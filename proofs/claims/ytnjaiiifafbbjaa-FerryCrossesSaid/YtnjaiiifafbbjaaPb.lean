/- The document's own reader of numbers. -/
import Derived.Test.YtnjaiiifafbbjaaPa
import Derived.Deep.DeepCutAuto
import Derived.Deep.RegionHeld3
namespace Go.Proofs.Ytnjaiiifafbbjaa
open Go.RowKit

def topN : Nat := 4611686018427387903
theorem rdF_top (m : Nat) (hm : m ≤ topN) : ∀ (f k n : Nat) (xs : List B8), rdF m f k n xs = (rdF topN f k n xs).bind fun p => if p.1 ≤ m then some p else none
  | 0, _, _, _ => rfl
  | _ + 1, _, _, [] => rfl
  | f + 1, k, n, y :: r => by
    rw [rdF, rdF]
    by_cases h : 127 < y.toNat
    · rw [if_pos h, if_pos h]; exact rdF_top m hm f _ _ r
    · rw [if_neg h, if_neg h]
      generalize n + y.toNat % 128 * 128 ^ k = N
      by_cases h1 : y.toNat = 0 ∧ 0 < k
      · have e1 : (y.toNat = 0 ∧ 0 < k) ∨ m < N := Or.inl h1
        have e2 : (y.toNat = 0 ∧ 0 < k) ∨ topN < N := Or.inl h1
        rw [if_pos e1, if_pos e2]; rfl
      · by_cases h2 : topN < N
        · have e1 : (y.toNat = 0 ∧ 0 < k) ∨ m < N := Or.inr (by omega)
          have e2 : (y.toNat = 0 ∧ 0 < k) ∨ topN < N := Or.inr h2
          rw [if_pos e1, if_pos e2]; rfl
        · have e2 : ¬ ((y.toNat = 0 ∧ 0 < k) ∨ topN < N) := fun h => h.elim h1 h2
          rw [if_neg e2]
          by_cases h3 : m < N
          · have e1 : (y.toNat = 0 ∧ 0 < k) ∨ m < N := Or.inr h3
            rw [if_pos e1]
            simp only [Option.bind_some]
            rw [if_neg (by omega)]
          · have e1 : ¬ ((y.toNat = 0 ∧ 0 < k) ∨ m < N) := fun h => h.elim h1 h3
            rw [if_neg e1]
            simp only [Option.bind_some]
            rw [if_pos (by omega)]
/-- The number that bytes begin with, and how many they are. -/
def getM (xs : List B8) : Nat × Nat := match rd topN xs with
  | none => (0, 0)
  | some (n, r) => (n, xs.length - r.length)
theorem rdF_drop (m f k n : Nat) : ∀ (xs r : List B8) (N : Nat), rdF m f k n xs = some (N, r) → r = xs.drop (xs.length - r.length) := by
  induction f generalizing k n with
  | zero => intro xs r N h; cases h
  | succ f ih =>
    intro xs r N h
    cases xs with
    | nil => cases h
    | cons y xs =>
      rw [rdF] at h
      split at h
      · have h1 := ih _ _ _ _ _ h
        have h2 := (rdF_le _ _ _ _ _ _ _ h).2
        rw [List.length_cons, show xs.length + 1 - r.length = (xs.length - r.length) + 1 from by omega, List.drop_succ_cons]
        exact h1
      · split at h
        · cases h
        · simp only [Option.some.injEq, Prod.mk.injEq] at h
          obtain ⟨_, rfl⟩ := h
          rw [List.length_cons, show xs.length + 1 - xs.length = 1 from by omega]; rfl

set_option maxRecDepth 100000 in
set_option maxHeartbeats 2000000 in
theorem get_w (v : Value) (xs : List B8) (w : World) (h : BytesIn w v xs) :
    Calls Try.prog 135 #[v] w fun e w' => e = .returned (.tuple #[.int .i64 ((getM xs).1 : Int), .int .i64 ((getM xs).2 : Int)]) ∧ w = w' := by
  obtain ⟨A, c, rfl, hmax⟩ := h.form
  have HB := Lib.hid h
  have H0 : Hid (rd topN xs = rdF topN 9 0 0 xs) := Lib.hid rfl
  have HG : Hid (∀ r, rd topN xs = r → getM xs = match r with | none => (0, 0) | some (n, r) => (n, xs.length - r.length)) := Lib.hid fun r e => by rw [← e]; rfl
  generalize getM xs = R at HG ⊢
  obtain ⟨L, hL⟩ : ∃ L, xs.length = L := ⟨_, rfl⟩
  have HL := Lib.hid hL
  rw [hL] at HB hmax ⊢
  clear h hL
  go_enter Try.func135, Try.ntmps135
  go_wp2_with fail
  go_loop [4, 5] (fun x s => ∃ (k n : Nat), s = .int .i64 (k : Int) ∧ x = .int .i64 (n : Int) ∧ k ≤ 9 ∧ k ≤ L ∧ n < 128 ^ k ∧ rd topN xs = rdF topN (9 - k) k n (xs.drop k)) (fun _ s => 9 - (intOf s).toNat)
  case atStart => exact ⟨0, 0, rfl, rfl, by omega, by omega, by decide, H0.out⟩
  case round =>
    obtain ⟨k, n, rfl, rfl, hk, hkL, hn, he⟩ := hrel
    have HE := Lib.hid he
    have HNK := Lib.hid hn
    clear he hn
    by_cases hlt : k < L
    · have d1 : decide ((k : Int) < (L : Int)) = true := decide_eq_true (by omega)
      by_cases h9 : k < 9
      · have d2 : decide ((k : Int) < 9) = true := decide_eq_true (by omega)
        obtain ⟨b, o, rfl, hc⟩ : ∃ b o, A = some ⟨b, o, none⟩ ∧ w.cell? ⟨b, o + k, none⟩ = some (.int .u8 (ub (xs.getD k 0#8))) := by
          rcases HB.out with ⟨e, _⟩ | ⟨b, o, c', e, _, _, hc⟩
          · have := HL.out; rw [e] at this; simp at this; omega
          · simp only [Value.slice.injEq] at e
            exact ⟨b, o, e.1, hc k (by rw [HL.out]; exact hlt)⟩
        have HD : Hid (xs.drop k = xs.getD k 0#8 :: xs.drop (k + 1)) := Lib.hid (by
          rw [List.drop_eq_getElem_cons (by rw [HL.out]; exact hlt)]
          simp [HL.out, hlt])
        generalize xs.getD k 0#8 = y at hc HD
        have hi0 : (0 : Int) ≤ (k : Int) := Int.natCast_nonneg _
        have hi1 : (k : Int) < (L : Int) := by omega
        have ha := and127b y
        have hor := or_byte n k y HNK.out (by omega)
        have HST := Lib.hid (pow_step n y.toNat k HNK.out)
        have hbig : n + y.toNat % 128 * 128 ^ k < 9223372036854775808 := Nat.lt_of_lt_of_le HST.out (Nat.le_trans (pow_le9 (k + 1) (by omega)) (by decide))
        have HRD : Hid (rdF topN (9 - k) k n (y :: xs.drop (k + 1)) = if 127 < y.toNat then rdF topN (9 - (k + 1)) (k + 1) (n + y.toNat % 128 * 128 ^ k) (xs.drop (k + 1)) else if (y.toNat = 0 ∧ 0 < k) ∨ topN < n + y.toNat % 128 * 128 ^ k then none else some (n + y.toNat % 128 * 128 ^ k, xs.drop (k + 1))) := Lib.hid (by
          rw [show 9 - k = (9 - (k + 1)) + 1 from by omega]; rfl)
        have HE := Lib.hid (HE.out.trans ((congrArg (rdF topN (9 - k) k n) HD.out).trans HRD.out))
        have HBIG := Lib.hid hbig
        clear hbig HRD HD
        generalize hN : n + y.toNat % 128 * 128 ^ k = N at *
        have hNn : (0 : Int) ≤ (N : Int) := Int.natCast_nonneg _
        have hn0 : decide ((N : Int) < 0) = false := decide_eq_false (by omega)
        clear hN hNn
        by_cases hy : 127 < y.toNat
        · have hd1 : decide (ub y < 128) = false := decide_eq_false (by unfold ub; omega)
          have HE2 := Lib.hid (HE.out.trans (if_pos hy))
          clear hy
          go_wp2
          go_round
          case rel => exact ⟨k + 1, N, by go_num, rfl, by omega, by omega, HST.out, HE2.out⟩
          case measure => simp [intOf]; omega
        · have hd1 : decide (ub y < 128) = true := decide_eq_true (by unfold ub; omega)
          have HE := Lib.hid (HE.out.trans (if_neg hy))
          by_cases hz : y.toNat = 0 ∧ 0 < k
          · have HE := Lib.hid (HG.out _ (HE.out.trans (if_pos (Or.inl hz))))
            have hz0 : (ub y == 0) = true := by rw [beq_iff_eq]; unfold ub; omega
            have hz2 : decide ((0 : Int) < (k : Int)) = true := decide_eq_true (by omega)
            have hk0 : 0 < k := hz.2
            clear hy hz
            go_wp2
            go_ret2
            rw [HE.out]
            exact ⟨rfl, rfl⟩
          · by_cases hb1 : topN < N
            · have HE := Lib.hid (HG.out _ (HE.out.trans (if_pos (Or.inr hb1))))
              have hd2 : decide ((4611686018427387903 : Int) < (N : Int)) = true := decide_eq_true (by unfold topN at hb1; omega)
              by_cases hk0 : 0 < k
              · have hz0 : (ub y == 0) = false := by rw [beq_eq_false_iff_ne]; unfold ub; omega
                have hz2 : decide ((0 : Int) < (k : Int)) = true := decide_eq_true (by omega)
                clear hy hz hb1
                go_wp2
                go_ret2
                rw [HE.out]
                exact ⟨rfl, rfl⟩
              · have hz2 : decide ((0 : Int) < (k : Int)) = false := decide_eq_false (by omega)
                clear hy hz hb1
                go_wp2
                go_ret2
                rw [HE.out]
                exact ⟨rfl, rfl⟩
            · have e3 : ¬ ((y.toNat = 0 ∧ 0 < k) ∨ topN < N) := fun h => h.elim hz hb1
              have HE := Lib.hid (HG.out _ (HE.out.trans (if_neg e3)))
              have hd2 : decide ((4611686018427387903 : Int) < (N : Int)) = false := decide_eq_false (by unfold topN at hb1; omega)
              have HK1 : Hid (L - (xs.drop (k + 1)).length = k + 1) := Lib.hid (by rw [List.length_drop, HL.out]; omega)
              have HF : Hid (R = (N, k + 1)) := Lib.hid (by
                rw [HE.out]
                show (N, xs.length - (xs.drop (k + 1)).length) = _
                rw [HL.out, HK1.out])
              clear e3 hb1
              by_cases hk0 : 0 < k
              · have hz0 : (ub y == 0) = false := by rw [beq_eq_false_iff_ne]; unfold ub; omega
                have hz2 : decide ((0 : Int) < (k : Int)) = true := decide_eq_true (by omega)
                clear hy hz
                go_wp2
                go_ret2
                rw [HF.out]
                exact ⟨by go_num, rfl⟩
              · have hz2 : decide ((0 : Int) < (k : Int)) = false := decide_eq_false (by omega)
                clear hy hz
                go_wp2
                go_ret2
                rw [HF.out]
                exact ⟨by go_num, rfl⟩
      · have d2 : decide ((k : Int) < 9) = false := decide_eq_false (by omega)
        have HE := Lib.hid (HG.out _ (HE.out.trans (by rw [show 9 - k = 0 from by omega]; rfl : _ = none)))
        go_wp2
        go_ret2
        rw [HE.out]
        exact ⟨rfl, rfl⟩
    · have d1 : decide ((k : Int) < (L : Int)) = false := decide_eq_false (by omega)
      have HD : Hid (xs.drop k = []) := Lib.hid (List.drop_eq_nil_of_le (by rw [HL.out]; omega))
      have HE := Lib.hid (HG.out _ (HE.out.trans (by rw [HD.out]; cases 9 - k <;> rfl : _ = none)))
      go_wp2
      go_ret2
      rw [HE.out]
      exact ⟨rfl, rfl⟩
end Go.Proofs.Ytnjaiiifafbbjaa
