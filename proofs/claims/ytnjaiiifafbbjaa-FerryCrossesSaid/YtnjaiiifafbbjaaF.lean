/- The reader's number: what is told of the bytes that stand there, and where the reader stands behind it. -/
import Derived.Test.YtnjaiiifafbbjaaE
namespace Go.Proofs.Ytnjaiiifafbbjaa
open Go.RowKit

def resN : Option (Nat × List B8) → Nat | some (n, _) => n | none => 0
def resL : Option (Nat × List B8) → List B8 | some (_, r) => r | none => []
def resF : Option (Nat × List B8) → Bool | some _ => false | none => true

theorem or_byte (n k : Nat) (y : B8) (hn : n < 128 ^ k) (hk : k ≤ 8) : bits .or .i64 (n : Int) (wrap64 ((y.toNat : Int) % 128 * 2 ^ (7 * k))) = ((n + y.toNat % 128 * 128 ^ k : Nat) : Int) := by
  have e : ((y.toNat : Int) % 128 * 2 ^ (7 * k)) = ((y.toNat % 128 * 128 ^ k : Nat) : Int) := by
    have : (128 : Nat) ^ k = 2 ^ (7 * k) := by rw [Nat.pow_mul]
    rw [this]; simp
  have hb : y.toNat % 128 * 128 ^ k < 2 ^ 63 := by
    have h1 : y.toNat % 128 * 128 ^ k ≤ 127 * 128 ^ 8 := Nat.mul_le_mul (by omega) (Nat.pow_le_pow_right (by decide) hk)
    exact Nat.lt_of_le_of_lt h1 (by decide)
  have hw : wrap64 ((y.toNat % 128 * 128 ^ k : Nat) : Int) = ((y.toNat % 128 * 128 ^ k : Nat) : Int) := IntWalk.wrap64_in _ ⟨by omega, by omega⟩
  rw [e, hw]
  exact or_shift n _ k hn (Nat.mod_lt _ (by decide)) hk
theorem or_zero (n : Nat) (h : n < 2 ^ 63) : bits .or .i64 (n : Int) 0 = n := by
  have hw : ∀ m : Int, 0 ≤ m → m < 2 ^ 63 → IntKind.i64.wrap m = m := fun m h0 h1 => by rw [IntKind.wrap_i64]; omega
  have := (bits_nat .i64 63 (by decide) hw n 0 h (by decide)).2
  simpa using this
theorem pow_le9 (k : Nat) (hk : k ≤ 9) : (128 : Nat) ^ k ≤ 2 ^ 63 := by
  have : (128 : Nat) ^ k = 2 ^ (7 * k) := by rw [Nat.pow_mul]
  rw [this]; exact Nat.pow_le_pow_right (by decide) (by omega)
theorem pow_step (n y k : Nat) (hn : n < 128 ^ k) : n + y % 128 * 128 ^ k < 128 ^ (k + 1) := by
  have : (y % 128 + 1) * 128 ^ k ≤ 128 * 128 ^ k := Nat.mul_le_mul_right _ (by omega)
  rw [Nat.add_mul, Nat.one_mul] at this
  rw [Nat.pow_succ, Nat.mul_comm (128 ^ k) 128]; omega

set_option maxRecDepth 100000 in
set_option maxHeartbeats 4000000 in
theorem number_r (W0 : World) (g : Nat) (W : World) (xs : List B8) (m : Nat) (hm : m ≤ 4611686018427387903) (h : Rd W0 g W xs false) :
    Calls Try.prog 134 #[.pointer (some ⟨g, 0, none⟩), .int .i64 (m : Int)] W (RdPost W0 g W (.int .i64 (resN (rd m xs) : Int)) (resL (rd m xs)) (resF (rd m xs))) := by
  have HR := Lib.hid h
  have H0 : Hid (rd m xs = rdF m 9 0 0 xs) := Lib.hid rfl
  clear h
  go_enter Try.func134, Try.ntmps134
  go_wp2_with fail
  go_loopw [5, 6] (fun x s wr => ∃ (k n : Nat) (ys : List B8), s = .int .i64 ((7 * k : Nat) : Int) ∧ x = .int .i64 (n : Int) ∧ k ≤ 9 ∧ n < 128 ^ k ∧ Rd W0 g wr ys false ∧ Only g W wr ∧ rd m xs = rdF m (9 - k) k n ys) (fun _ s _ => 63 - (intOf s).toNat)
  case atStart => exact ⟨0, 0, xs, rfl, rfl, by omega, by decide, HR.out, Only.refl _ _, H0.out⟩
  case round =>
    obtain ⟨k, n, ys, rfl, rfl, hk, hn, hr, ho, he⟩ := hrel
    have HRR := Lib.hid hr
    have HO := Lib.hid ho
    have HE := Lib.hid he
    have HNK := Lib.hid hn
    clear hr ho he hn
    by_cases hlt : k < 9
    · have hd0 : decide (((7 * k : Nat) : Int) < 63) = true := decide_eq_true (by omega)
      have hd0' : decide (7 * (k : Int) < 63) = true := decide_eq_true (by omega)
      cases ys with
      | nil =>
        have HE : Hid (rd m xs = none) := Lib.hid (by rw [HE.out, show 9 - k = (8 - k) + 1 from by omega]; rfl)
        go_wp2_with fail
        refine (octet_none W0 g _ false HRR.out).mono ?_
        rintro e w2 ⟨rfl, hr2, ho2⟩
        have hf := hr2.2.2.2.1
        have HR2 := Lib.hid hr2
        have HO2 := Lib.hid ho2
        clear hr2 ho2
        have ha : bits .and .u8 0 127 = 0 := by decide
        have hor := or_zero n (Nat.lt_of_lt_of_le HNK.out (pow_le9 k hk))
        have hw0 : wrap64 0 = 0 := IntWalk.wrap64_in 0 ⟨by decide, by decide⟩
        go_wp2_with fail
        refine (fail_r W0 g _ _ _ HR2.out).mono ?_
        rintro e w3 ⟨rfl, hr3, ho3⟩
        have HFIN : Hid (RdPost W0 g W (.int .i64 0) [] true (.returned (.int .i64 0)) w3) := Lib.hid ⟨rfl, hr3, (HO.out.trans HO2.out).trans ho3⟩
        clear hr3 ho3
        go_wp2_with fail
        go_ret
        rw [HE.out]
        exact HFIN.out
      | cons y r =>
        go_wp2_with fail
        refine (octet_some W0 g _ y r false HRR.out).mono ?_
        rintro e w2 ⟨rfl, hr2, ho2⟩
        have HR2 := Lib.hid hr2
        have HO2 := Lib.hid ho2
        clear hr2 ho2
        have ha := and127b y
        have hor := or_byte n k y HNK.out (by omega)
        have HST := Lib.hid (pow_step n y.toNat k HNK.out)
        have hbig : n + y.toNat % 128 * 128 ^ k < 9223372036854775808 := Nat.lt_of_lt_of_le HST.out (Nat.le_trans (pow_le9 (k + 1) (by omega)) (by decide))
        have HRD : Hid (rdF m (9 - k) k n (y :: r) = if 127 < y.toNat then rdF m (8 - k) (k + 1) (n + y.toNat % 128 * 128 ^ k) r else if (y.toNat = 0 ∧ 0 < k) ∨ m < n + y.toNat % 128 * 128 ^ k then none else some (n + y.toNat % 128 * 128 ^ k, r)) := Lib.hid (by
          rw [show 9 - k = (8 - k) + 1 from by omega]; rfl)
        have HBIG := Lib.hid hbig
        clear hbig
        generalize hN : n + y.toNat % 128 * 128 ^ k = N at *
        have HNN := Lib.hid hN
        clear hN
        by_cases hy : 127 < y.toNat
        · have hd1 : decide ((127 : Int) < ub y) = true := decide_eq_true (by unfold ub; omega)
          have HE2 : Hid (rd m xs = rdF m (9 - (k + 1)) (k + 1) N r) := Lib.hid (by rw [HE.out, HRD.out, if_pos hy, show 9 - (k + 1) = 8 - k from by omega])
          clear hy
          go_wp2_with fail
          go_roundw
          case rel => exact ⟨k + 1, N, r, by congr 1, rfl, by omega, HST.out, HR2.out, HO.out.trans HO2.out, HE2.out⟩
          case measure => simp [intOf]; omega
        · have hd1 : decide ((127 : Int) < ub y) = false := decide_eq_false (by unfold ub; omega)
          have hf := HR2.out.2.2.2.1
          have HE := Lib.hid (HE.out.trans (HRD.out.trans (if_neg hy)))
          by_cases hz : y.toNat = 0 ∧ 0 < k
          · have HE : Hid (rd m xs = none) := Lib.hid (by rw [HE.out, if_pos (.inl hz)])
            have hz0 : (ub y == 0) = true := by rw [beq_iff_eq]; unfold ub; omega
            have hz1 : decide ((0 : Int) < ((7 * k : Nat) : Int)) = true := decide_eq_true (by omega)
            have hz2 : decide ((0 : Int) < 7 * (k : Int)) = true := decide_eq_true (by omega)
            clear hy hz
            go_wp2_with fail
            refine (fail_r W0 g _ _ _ HR2.out).mono ?_
            rintro e w3 ⟨rfl, hr3, ho3⟩
            have HFIN : Hid (RdPost W0 g W (.int .i64 0) [] true (.returned (.int .i64 0)) w3) := Lib.hid ⟨rfl, hr3, (HO.out.trans HO2.out).trans ho3⟩
            clear hr3 ho3
            go_wp2_with fail
            go_ret
            rw [HE.out]
            exact HFIN.out
          · by_cases hy0' : y.toNat = 0
            · have hz0 : (ub y == 0) = true := by rw [beq_iff_eq]; unfold ub; omega
              have hz1 : decide ((0 : Int) < ((7 * k : Nat) : Int)) = false := decide_eq_false (by omega)
              have hz2 : decide ((0 : Int) < 7 * (k : Int)) = false := decide_eq_false (by omega)
              clear hy hy0'
              by_cases hb1 : 4611686018427387903 < N
              · have HE : Hid (rd m xs = none) := Lib.hid (by rw [HE.out, if_pos (.inr (by omega))])
                have hd2 : decide ((4611686018427387903 : Int) < (N : Int)) = true := decide_eq_true (by omega)
                clear hb1
                go_wp2_with fail
                refine (fail_r W0 g _ _ _ HR2.out).mono ?_
                rintro e w3 ⟨rfl, hr3, ho3⟩
                have HFIN : Hid (RdPost W0 g W (.int .i64 0) [] true (.returned (.int .i64 0)) w3) := Lib.hid ⟨rfl, hr3, (HO.out.trans HO2.out).trans ho3⟩
                clear hr3 ho3
                go_wp2_with fail
                go_ret
                rw [HE.out]
                exact HFIN.out
              · have hd2 : decide ((4611686018427387903 : Int) < (N : Int)) = false := decide_eq_false (by omega)
                clear hb1
                by_cases hb2 : m < N
                · have HE : Hid (rd m xs = none) := Lib.hid (by rw [HE.out, if_pos (.inr hb2)])
                  have hd3 : decide (m < N) = true := decide_eq_true hb2
                  clear hb2
                  go_wp2_with fail
                  refine (fail_r W0 g _ _ _ HR2.out).mono ?_
                  rintro e w3 ⟨rfl, hr3, ho3⟩
                  have HFIN : Hid (RdPost W0 g W (.int .i64 0) [] true (.returned (.int .i64 0)) w3) := Lib.hid ⟨rfl, hr3, (HO.out.trans HO2.out).trans ho3⟩
                  clear hr3 ho3
                  go_wp2_with fail
                  go_ret
                  rw [HE.out]
                  exact HFIN.out
                · have HE : Hid (rd m xs = some (N, r)) := Lib.hid (by rw [HE.out, if_neg (by rintro (h | h); exact hz h; exact hb2 h)])
                  have hd3 : decide (m < N) = false := decide_eq_false hb2
                  clear hb2
                  go_wp2_with fail
                  go_ret
                  rw [HE.out]
                  exact ⟨rfl, HR2.out, HO.out.trans HO2.out⟩
            · have hz0 : (ub y == 0) = false := by rw [beq_eq_false_iff_ne]; unfold ub; omega
              clear hy hy0'
              by_cases hb1 : 4611686018427387903 < N
              · have HE : Hid (rd m xs = none) := Lib.hid (by rw [HE.out, if_pos (.inr (by omega))])
                have hd2 : decide ((4611686018427387903 : Int) < (N : Int)) = true := decide_eq_true (by omega)
                clear hb1
                go_wp2_with fail
                refine (fail_r W0 g _ _ _ HR2.out).mono ?_
                rintro e w3 ⟨rfl, hr3, ho3⟩
                have HFIN : Hid (RdPost W0 g W (.int .i64 0) [] true (.returned (.int .i64 0)) w3) := Lib.hid ⟨rfl, hr3, (HO.out.trans HO2.out).trans ho3⟩
                clear hr3 ho3
                go_wp2_with fail
                go_ret
                rw [HE.out]
                exact HFIN.out
              · have hd2 : decide ((4611686018427387903 : Int) < (N : Int)) = false := decide_eq_false (by omega)
                clear hb1
                by_cases hb2 : m < N
                · have HE : Hid (rd m xs = none) := Lib.hid (by rw [HE.out, if_pos (.inr hb2)])
                  have hd3 : decide (m < N) = true := decide_eq_true hb2
                  clear hb2
                  go_wp2_with fail
                  refine (fail_r W0 g _ _ _ HR2.out).mono ?_
                  rintro e w3 ⟨rfl, hr3, ho3⟩
                  have HFIN : Hid (RdPost W0 g W (.int .i64 0) [] true (.returned (.int .i64 0)) w3) := Lib.hid ⟨rfl, hr3, (HO.out.trans HO2.out).trans ho3⟩
                  clear hr3 ho3
                  go_wp2_with fail
                  go_ret
                  rw [HE.out]
                  exact HFIN.out
                · have HE : Hid (rd m xs = some (N, r)) := Lib.hid (by rw [HE.out, if_neg (by rintro (h | h); exact hz h; exact hb2 h)])
                  have hd3 : decide (m < N) = false := decide_eq_false hb2
                  clear hb2
                  go_wp2_with fail
                  go_ret
                  rw [HE.out]
                  exact ⟨rfl, HR2.out, HO.out.trans HO2.out⟩
    · have hke : k = 9 := by omega
      subst hke
      have HE : Hid (rd m xs = none) := Lib.hid (by rw [HE.out]; rfl)
      have HR2 := HRR
      have HO2 : Hid (Only g wr wr) := Lib.hid (Only.refl g wr)
      go_wp2_with fail
      refine (fail_r W0 g _ _ _ HR2.out).mono ?_
      rintro e w3 ⟨rfl, hr3, ho3⟩
      have HFIN : Hid (RdPost W0 g W (.int .i64 0) [] true (.returned (.int .i64 0)) w3) := Lib.hid ⟨rfl, hr3, (HO.out.trans HO2.out).trans ho3⟩
      clear hr3 ho3
      go_wp2_with fail
      go_ret
      rw [HE.out]
      exact HFIN.out
end Go.Proofs.Ytnjaiiifafbbjaa
