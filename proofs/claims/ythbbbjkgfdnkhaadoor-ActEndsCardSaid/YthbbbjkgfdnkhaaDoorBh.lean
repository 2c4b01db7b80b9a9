/- Texts that are values: the program and the document. -/
import Derived.Test.YthbbbjkgfdnkhaaDoorBg
namespace Go.Proofs.YthbbbjkgfdnkhaaDoor
open Go.RowKit
set_option maxRecDepth 100000 in
set_option maxHeartbeats 2000000 in
theorem valued_w (s : Str) (hs : s.size ≤ 100000) (w : World) : Calls Tryd.prog 51 #[.string s] w (Ret w (.bool (valB s))) := by
  by_cases h2 : s.size ≤ 20
  · have d2 : decide ((20 : Int) < (s.size : Int)) = false := decide_eq_false (by omega)
    go_enter Tryd.func51, Tryd.ntmps51
    go_wp2_with fail
    go_loop [10] (fun i => ∃ k : Nat, k ≤ s.size ∧ i = .int .i64 k ∧ (s.data.toList.take k).all letterV = true) (fun i => s.size - (intOf i).toNat)
    case atStart => exact ⟨0, Nat.zero_le _, rfl, by simp⟩
    case round =>
      obtain ⟨k, hk, rfl, hall⟩ := hrel
      by_cases hlt : k < s.size
      · have d3 : decide ((k : Int) < (s.size : Int)) = true := decide_eq_true (by omega)
        have hlen : k < s.data.toList.length := by rw [Array.length_toList]; exact hlt
        have hnx := Lib.hid (all_takeV s.data.toList k hlen hall)
        have hel : s.data.toList[k] = s[k] := by rw [Array.getElem_toList]; rfl
        have HEL := Lib.hid hel
        rw [hel] at hnx
        have hbad : Hid (letterV s[k] = false → valB s = false) := Lib.hid fun hc => by
          have h9 : s.data.toList.all letterV = false := by
            rw [List.all_eq_false]
            exact ⟨s.data.toList[k], List.getElem_mem hlen, by rw [HEL.out, hc]; simp⟩
          simp [valB, h9]
        clear hel
        have h0 := s[k].toNat_lt
        by_cases g1 : 97 ≤ s[k].toNat
        · have e1 : decide ((97 : Int) ≤ (s[k].toNat : Int)) = true := decide_eq_true (by omega)
          by_cases g2 : s[k].toNat ≤ 122
          · have e2 : decide ((s[k].toNat : Int) ≤ 122) = true := decide_eq_true (by omega)
            go_wp2_with fail
            refine ⟨⟨k + 1, hlt, by go_num, by rw [hnx.out]; simp [letterV, letterB]; omega⟩, by simp [intOf]; omega⟩
          · have e2 : decide ((s[k].toNat : Int) ≤ 122) = false := decide_eq_false (by omega)
            have e3 : decide ((48 : Int) ≤ (s[k].toNat : Int)) = true := decide_eq_true (by omega)
            have e4 : decide ((s[k].toNat : Int) ≤ 57) = false := decide_eq_false (by omega)
            have e5 : ((s[k].toNat : Int) == 45) = false := by have : ¬ ((s[k].toNat : Int) = 45) := by omega
                                                               simpa using this
            have e := hbad.out (by simp [letterV, letterB]; omega)
            rw [e]
            go_wp2_with fail
            go_ret
            exact ⟨rfl, Ok.refl _⟩
        · have e1 : decide ((97 : Int) ≤ (s[k].toNat : Int)) = false := decide_eq_false (by omega)
          by_cases g3 : 48 ≤ s[k].toNat
          · have e3 : decide ((48 : Int) ≤ (s[k].toNat : Int)) = true := decide_eq_true (by omega)
            by_cases g4 : s[k].toNat ≤ 57
            · have e4 : decide ((s[k].toNat : Int) ≤ 57) = true := decide_eq_true (by omega)
              go_wp2_with fail
              refine ⟨⟨k + 1, hlt, by go_num, by rw [hnx.out]; simp [letterV, letterB]; omega⟩, by simp [intOf]; omega⟩
            · have e4 : decide ((s[k].toNat : Int) ≤ 57) = false := decide_eq_false (by omega)
              have e5 : ((s[k].toNat : Int) == 45) = false := by have : ¬ ((s[k].toNat : Int) = 45) := by omega
                                                                 simpa using this
              have e := hbad.out (by simp [letterV, letterB]; omega)
              rw [e]
              go_wp2_with fail
              go_ret
              exact ⟨rfl, Ok.refl _⟩
          · have e3 : decide ((48 : Int) ≤ (s[k].toNat : Int)) = false := decide_eq_false (by omega)
            by_cases g5 : s[k].toNat = 45
            · have e5 : ((s[k].toNat : Int) == 45) = true := by have : (s[k].toNat : Int) = 45 := by omega
                                                                simpa using this
              go_wp2_with fail
              refine ⟨⟨k + 1, hlt, by go_num, by rw [hnx.out]; simp [letterV, letterB]; omega⟩, by simp [intOf]; omega⟩
            · have e5 : ((s[k].toNat : Int) == 45) = false := by have : ¬ ((s[k].toNat : Int) = 45) := by omega
                                                                 simpa using this
              have e := hbad.out (by simp [letterV, letterB]; omega)
              rw [e]
              go_wp2_with fail
              go_ret
              exact ⟨rfl, Ok.refl _⟩
      · have d3 : decide ((k : Int) < (s.size : Int)) = false := decide_eq_false (by omega)
        have hl : s.data.toList.length = s.size := by rw [Array.length_toList]; rfl
        rw [List.take_of_length_le (by omega)] at hall
        have HALL := Lib.hid hall
        clear hall hl
        go_wp2_with fail
        go_ret
        exact ⟨by simp [valB, h2, HALL.out], Ok.refl w⟩
  · have d2 : decide ((20 : Int) < (s.size : Int)) = true := decide_eq_true (by omega)
    have e : valB s = false := by simp [valB, h2]
    rw [e]
    go_enter Tryd.func51, Tryd.ntmps51
    go_wp2_with fail
    go_ret
    exact ⟨rfl, Ok.refl w⟩
set_option maxRecDepth 100000 in
set_option maxHeartbeats 2000000 in
theorem rvalued_w (s : Str) (hs : s.size ≤ 100000) (w : World) : Calls Tryd.prog 53 #[.string s] w (Ret w (.bool (valB s))) := by
  go_enter Tryd.func53, Tryd.ntmps53
  go_wp2_with fail
  go_loop [3] (fun i => ∃ k : Nat, k ≤ s.size ∧ i = .int .i64 k ∧ (s.data.toList.take k).all letterV = true) (fun i => s.size - (intOf i).toNat)
  case atStart => exact ⟨0, Nat.zero_le _, rfl, by simp⟩
  case round =>
    obtain ⟨k, hk, rfl, hall⟩ := hrel
    by_cases hlt : k < s.size
    · have d3 : decide ((k : Int) < (s.size : Int)) = true := decide_eq_true (by omega)
      have hlen : k < s.data.toList.length := by rw [Array.length_toList]; exact hlt
      have hnx := Lib.hid (all_takeV s.data.toList k hlen hall)
      have hel : s.data.toList[k] = s[k] := by rw [Array.getElem_toList]; rfl
      have HEL := Lib.hid hel
      rw [hel] at hnx
      have hbad : Hid (letterV s[k] = false → valB s = false) := Lib.hid fun hc => by
        have h9 : s.data.toList.all letterV = false := by
          rw [List.all_eq_false]
          exact ⟨s.data.toList[k], List.getElem_mem hlen, by rw [HEL.out, hc]; simp⟩
        simp [valB, h9]
      clear hel
      have h0 := s[k].toNat_lt
      by_cases g1 : 97 ≤ s[k].toNat
      · have e1 : decide ((97 : Int) ≤ (s[k].toNat : Int)) = true := decide_eq_true (by omega)
        by_cases g2 : s[k].toNat ≤ 122
        · have e2 : decide ((s[k].toNat : Int) ≤ 122) = true := decide_eq_true (by omega)
          go_wp2_with fail
          refine ⟨⟨k + 1, hlt, by go_num, by rw [hnx.out]; simp [letterV, letterB]; omega⟩, by simp [intOf]; omega⟩
        · have e2 : decide ((s[k].toNat : Int) ≤ 122) = false := decide_eq_false (by omega)
          have e3 : decide ((48 : Int) ≤ (s[k].toNat : Int)) = true := decide_eq_true (by omega)
          have e4 : decide ((s[k].toNat : Int) ≤ 57) = false := decide_eq_false (by omega)
          have e5 : ((s[k].toNat : Int) == 45) = false := by have : ¬ ((s[k].toNat : Int) = 45) := by omega
                                                             simpa using this
          have e := hbad.out (by simp [letterV, letterB]; omega)
          rw [e]
          go_wp2_with fail
          go_ret
          exact ⟨rfl, Ok.refl _⟩
      · have e1 : decide ((97 : Int) ≤ (s[k].toNat : Int)) = false := decide_eq_false (by omega)
        by_cases g3 : 48 ≤ s[k].toNat
        · have e3 : decide ((48 : Int) ≤ (s[k].toNat : Int)) = true := decide_eq_true (by omega)
          by_cases g4 : s[k].toNat ≤ 57
          · have e4 : decide ((s[k].toNat : Int) ≤ 57) = true := decide_eq_true (by omega)
            go_wp2_with fail
            refine ⟨⟨k + 1, hlt, by go_num, by rw [hnx.out]; simp [letterV, letterB]; omega⟩, by simp [intOf]; omega⟩
          · have e4 : decide ((s[k].toNat : Int) ≤ 57) = false := decide_eq_false (by omega)
            have e5 : ((s[k].toNat : Int) == 45) = false := by have : ¬ ((s[k].toNat : Int) = 45) := by omega
                                                               simpa using this
            have e := hbad.out (by simp [letterV, letterB]; omega)
            rw [e]
            go_wp2_with fail
            go_ret
            exact ⟨rfl, Ok.refl _⟩
        · have e3 : decide ((48 : Int) ≤ (s[k].toNat : Int)) = false := decide_eq_false (by omega)
          by_cases g5 : s[k].toNat = 45
          · have e5 : ((s[k].toNat : Int) == 45) = true := by have : (s[k].toNat : Int) = 45 := by omega
                                                              simpa using this
            go_wp2_with fail
            refine ⟨⟨k + 1, hlt, by go_num, by rw [hnx.out]; simp [letterV, letterB]; omega⟩, by simp [intOf]; omega⟩
          · have e5 : ((s[k].toNat : Int) == 45) = false := by have : ¬ ((s[k].toNat : Int) = 45) := by omega
                                                               simpa using this
            have e := hbad.out (by simp [letterV, letterB]; omega)
            rw [e]
            go_wp2_with fail
            go_ret
            exact ⟨rfl, Ok.refl _⟩
    · have d3 : decide ((k : Int) < (s.size : Int)) = false := decide_eq_false (by omega)
      have hl : s.data.toList.length = s.size := by rw [Array.length_toList]; rfl
      rw [List.take_of_length_le (by omega)] at hall
      have HALL := Lib.hid hall
      clear hall hl
      by_cases h2 : s.size ≤ 20
      · have d2 : decide ((s.size : Int) ≤ 20) = true := decide_eq_true (by omega)
        have d2n : decide (s.size ≤ 20) = true := decide_eq_true h2
        go_wp2_with fail
        go_ret
        exact ⟨by simp [valB, h2, HALL.out], Ok.refl w⟩
      · have d2 : decide ((s.size : Int) ≤ 20) = false := decide_eq_false (by omega)
        have d2n : decide (s.size ≤ 20) = false := decide_eq_false h2
        go_wp2_with fail
        go_ret
        exact ⟨by simp [valB, h2], Ok.refl w⟩
end Go.Proofs.YthbbbjkgfdnkhaaDoor
