/- The guard of the layer of acts, walked. -/
import Derived.Test.YthbbbjkgfdnkhaaDoorAl
namespace Go.Proofs.YthbbbjkgfdnkhaaDoor
open Go.RowKit
set_option maxRecDepth 100000 in
set_option maxHeartbeats 8000000 in
theorem great_w (A : Option Addr) (n c : Nat) (l : List Ac) (hn : l.length = n) (hz : Sz l) (B : Option Addr) (m d : Nat) (zs : List Str) (hm : zs.length = m) (hm4 : m ≤ 10) (w : World) (hI : ActsAt w A l) (hC : StrsAt w B zs) :
    Calls Tryd.prog 9 #[.slice A n c, .slice B m d] w (GrP w l zs) := by
  have HI := Lib.hid hI
  have HN := Lib.hid hn
  have HM := Lib.hid hm
  have HC := Lib.hid hC
  have HZ := Lib.hid hz
  clear hI hn hm hC hz
  go_enter Tryd.func9, Tryd.ntmps9
  go_wp2_with fail
  go_loopw [5] (fun i wr => ∃ k : Nat, k ≤ n ∧ k ≤ 41 ∧ i = .int .i64 k ∧ Lim l k ∧ Ok w wr) (fun i _ => n - (intOf i).toNat)
  case atStart => exact ⟨0, Nat.zero_le _, Nat.zero_le _, rfl, fun j hj => absurd hj (Nat.not_lt_zero _), Ok.refl _⟩
  case round =>
    obtain ⟨k, hk, hk41, rfl, hlim, okr⟩ := hrel
    have HOKR := Lib.hid okr
    have HL := Lib.hid hlim
    clear okr hlim
    by_cases hlt : k < n ∧ k < 41
    · obtain ⟨hlt, hlt2⟩ := hlt
      have d1 : decide ((k : Int) < (n : Int)) = true := decide_eq_true (by omega)
      have d2 : decide ((k : Int) < 41) = true := decide_eq_true (by omega)
      obtain ⟨b, off, rfl, -, C1, C2, -⟩ := HI.out.ok HOKR.out k (by rw [HN.out]; exact hlt)
      obtain ⟨z1, z2⟩ := HZ.out k (by rw [HN.out]; exact hlt)
      have HS : Hid ((atA l k).key.size + (atA l k).value.size ≤ 120 → Lim l (k + 1)) := Lib.hid fun h => HL.out.succ h
      generalize atA l k = x at C1 C2 z1 z2 HS
      obtain ⟨kind, key, value, num⟩ := x
      simp only at C1 C2 z1 z2 HS
      have hi0 : (0 : Int) ≤ (k : Int) := Int.natCast_nonneg _
      have hi1 : (k : Int) < (n : Int) := by omega
      by_cases h3 : 120 < key.size + value.size
      · have d3 : decide ((120 : Int) < (key.size : Int) + (value.size : Int)) = true := decide_eq_true (by omega)
        go_wp2_with fail
        go_quiet (fail)
        go_wp2_with fail
        go_ret
        exact GrP.mk true rfl (fun h => by cases h) (Below.trans HOKR.out ⟨rfl, rfl, rfl, Nat.le_refl _, fun _ _ => rfl⟩)
      · have d3 : decide ((120 : Int) < (key.size : Int) + (value.size : Int)) = false := decide_eq_false (by omega)
        go_wp2_with fail
        go_quiet (fail)
        go_wp2_with fail
        refine ⟨⟨k + 1, hlt, by omega, by go_num, HS.out (by omega), Below.trans HOKR.out ⟨rfl, rfl, rfl, Nat.le_refl _, fun _ _ => rfl⟩⟩, by simp [intOf]; omega⟩
    · have HX : Hid (n ≤ 40 → Lim l l.length) := Lib.hid fun h => by
        have e : k = n := by omega
        rw [HN.out, ← e]
        exact HL.out
      by_cases h1 : k < n
      · have d1 : decide ((k : Int) < (n : Int)) = true := decide_eq_true (by omega)
        have d2 : decide ((k : Int) < 41) = false := decide_eq_false (by omega)
        go_wp2_with fail
        go_loopw [6] (fun i wr => ∃ q : Nat, q ≤ m ∧ i = .int .i64 q ∧ LimS zs q ∧ Ok w wr) (fun i _ => m - (intOf i).toNat)
        case atStart => exact ⟨0, Nat.zero_le _, rfl, fun j hj => absurd hj (Nat.not_lt_zero _), HOKR.out⟩
        case round =>
          obtain ⟨q, hq, rfl, hls, okq⟩ := hrel
          have HOKQ := Lib.hid okq
          have HLS := Lib.hid hls
          clear okq hls
          by_cases hqm : q < m
          · have d4 : decide ((q : Int) < (m : Int)) = true := decide_eq_true (by omega)
            obtain ⟨kb, ko, rfl, K0⟩ := HC.out.ok HOKQ.out q (by rw [HM.out]; exact hqm)
            have HS2 : Hid ((zs.getD q str0).size ≤ 60 → LimS zs (q + 1)) := Lib.hid fun h => HLS.out.succ h
            generalize zs.getD q str0 = t at K0 HS2
            have hq0 : (0 : Int) ≤ (q : Int) := Int.natCast_nonneg _
            have hq1 : (q : Int) < (m : Int) := by omega
            by_cases h5 : 60 < t.size
            · have d5 : decide ((60 : Int) < (t.size : Int)) = true := decide_eq_true (by omega)
              go_wp2_with fail
              go_ret
              exact GrP.mk true rfl (fun h => by cases h) HOKQ.out
            · have d5 : decide ((60 : Int) < (t.size : Int)) = false := decide_eq_false (by omega)
              go_wp2_with fail
              refine ⟨⟨q + 1, hqm, by go_num, HS2.out (by omega), HOKQ.out⟩, by simp [intOf]; omega⟩
          · have d4 : decide ((q : Int) < (m : Int)) = false := decide_eq_false (by omega)
            go_wp2_with fail
            go_ret
            exact GrP.mk _ rfl (fun h => by
              have h6 : n ≤ 40 := by have := of_decide_eq_false h; omega
              have e : q = zs.length := by rw [HM.out]; omega
              exact ⟨by rw [HN.out]; exact h6, HX.out h6, by rw [← e]; exact HLS.out⟩) HOKQ.out
      · have d1 : decide ((k : Int) < (n : Int)) = false := decide_eq_false (by omega)
        go_wp2_with fail
        go_loopw [6] (fun i wr => ∃ q : Nat, q ≤ m ∧ i = .int .i64 q ∧ LimS zs q ∧ Ok w wr) (fun i _ => m - (intOf i).toNat)
        case atStart => exact ⟨0, Nat.zero_le _, rfl, fun j hj => absurd hj (Nat.not_lt_zero _), HOKR.out⟩
        case round =>
          obtain ⟨q, hq, rfl, hls, okq⟩ := hrel
          have HOKQ := Lib.hid okq
          have HLS := Lib.hid hls
          clear okq hls
          by_cases hqm : q < m
          · have d4 : decide ((q : Int) < (m : Int)) = true := decide_eq_true (by omega)
            obtain ⟨kb, ko, rfl, K0⟩ := HC.out.ok HOKQ.out q (by rw [HM.out]; exact hqm)
            have HS2 : Hid ((zs.getD q str0).size ≤ 60 → LimS zs (q + 1)) := Lib.hid fun h => HLS.out.succ h
            generalize zs.getD q str0 = t at K0 HS2
            have hq0 : (0 : Int) ≤ (q : Int) := Int.natCast_nonneg _
            have hq1 : (q : Int) < (m : Int) := by omega
            by_cases h5 : 60 < t.size
            · have d5 : decide ((60 : Int) < (t.size : Int)) = true := decide_eq_true (by omega)
              go_wp2_with fail
              go_ret
              exact GrP.mk true rfl (fun h => by cases h) HOKQ.out
            · have d5 : decide ((60 : Int) < (t.size : Int)) = false := decide_eq_false (by omega)
              go_wp2_with fail
              refine ⟨⟨q + 1, hqm, by go_num, HS2.out (by omega), HOKQ.out⟩, by simp [intOf]; omega⟩
          · have d4 : decide ((q : Int) < (m : Int)) = false := decide_eq_false (by omega)
            go_wp2_with fail
            go_ret
            exact GrP.mk _ rfl (fun h => by
              have h6 : n ≤ 40 := by have := of_decide_eq_false h; omega
              have e : q = zs.length := by rw [HM.out]; omega
              exact ⟨by rw [HN.out]; exact h6, HX.out h6, by rw [← e]; exact HLS.out⟩) HOKQ.out
end Go.Proofs.YthbbbjkgfdnkhaaDoor
