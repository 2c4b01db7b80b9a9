/- The document's number of a text. -/
import Derived.Test.YthbbbjkgfdnkhaaDoorAb
namespace Go.Proofs.YthbbbjkgfdnkhaaDoor
open Go.RowKit
theorem drop_str (s : Str) : (s.extract 1 s.size).data.toList = s.data.toList.drop 1 := by
  rw [← Lib.toList_data, Lib.extract_toList]
  exact List.take_of_length_le (by rw [List.length_drop, Array.length_toList]; exact Nat.le_refl _)
set_option maxRecDepth 100000 in
set_option maxHeartbeats 1000000 in
theorem rnumber_w (s : Str) (w : World) (hs : s.size ≤ 1000000) :
    Calls Tryd.prog 28 #[.string s] w fun e w' => e = .returned (.int .i64 (numV s.data.toList)) ∧ w = w' := by
  have HNV := Lib.hid (numV_eq s.data.toList)
  obtain ⟨D, hD⟩ : ∃ D : Str, (if negB s.data.toList = true then s.extract 1 s.size else s) = D := ⟨_, rfl⟩
  have hDL : D.data.toList = cutL s.data.toList := by
    rw [← hD]; unfold cutL
    split
    · exact drop_str s
    · rfl
  have hsz : D.size = (cutL s.data.toList).length := by rw [← hDL, Array.length_toList]; rfl
  have hle : D.size ≤ 1000000 := by
    rw [hsz]; unfold cutL
    have : s.data.toList.length ≤ 1000000 := by rw [Array.length_toList]; exact hs
    split
    · rw [List.length_drop]; omega
    · exact this
  have hneg : negB s.data.toList = true ↔ 0 < s.size ∧ s.data.toList.getD 0 0 = 45 := by
    unfold negB
    have : s.size = s.data.toList.length := by rw [Array.length_toList]; rfl
    rw [this]
    cases s.data.toList with
    | nil => simp
    | cons c l => simp
  have HAT : Hid (∀ h : 0 < s.size, s[0] = s.data.toList.getD 0 0) := Lib.hid fun h => at_str s 0 h
  have HNEG := Lib.hid hneg
  clear hneg
  generalize numV s.data.toList = N at *
  generalize hng : negB s.data.toList = neg at *
  generalize cutL s.data.toList = d at *
  generalize s.data.toList.getD 0 0 = c0 at *
  have HDL := Lib.hid hDL
  have HSZ := Lib.hid hsz
  have HD := Lib.hid hD
  clear hDL hsz hng hD
  by_cases hz : s.size = 0
  · have d0 : decide ((0 : Int) < (s.size : Int)) = false := decide_eq_false (by omega)
    have d0' : decide (0 < s.size) = false := decide_eq_false (by omega)
    obtain rfl : neg = false := by cases neg with | false => rfl | true => exact absurd (HNEG.out.1 rfl).1 (by omega)
    obtain rfl : s = D := by have h := HD.out; simpa using h
    have hd : d = [] := List.length_eq_zero_iff.1 (by rw [← HSZ.out]; exact hz)
    have HN0 : Hid (N = 0) := Lib.hid (by rw [HNV.out, hd]; decide)
    clear hd HAT HNEG HDL HSZ HNV HD
    go_enter Tryd.func28, Tryd.ntmps28
    go_wp2_with fail
    go_loopw [4, 5] (fun n i wr => n = .int .i64 0 ∧ i = .int .i64 0 ∧ w = wr) (fun _ _ _ => 0)
    case atStart => exact ⟨rfl, rfl, rfl⟩
    case round =>
      obtain ⟨rfl, rfl, rfl⟩ := hrel
      have d1 : decide ((0 : Int) < (s.size : Int)) = false := decide_eq_false (by omega)
      go_wp2_with fail
      go_ret
      exact ⟨by rw [HN0.out]; rfl, rfl⟩
  have hz0 : 0 < s.size := by omega
  have d0 : decide ((0 : Int) < (s.size : Int)) = true := decide_eq_true (by omega)
  have d0' : decide (0 < s.size) = true := decide_eq_true hz0
  have hat := HAT.out hz0
  clear HAT
  have HCN := Lib.hid (show neg = true ↔ c0 = 45 from ⟨fun h => (HNEG.out.1 h).2, fun h => HNEG.out.2 ⟨hz0, h⟩⟩)
  clear HNEG
  have hc0 := c0.toNat_lt
  cases neg with
  | false =>
    have hne : c0.toNat ≠ 45 := fun e => by have := HCN.out.2 (UInt8.toNat.inj (by rw [e]; rfl)); cases this
    have e0 : ((c0.toNat : Int) == 45) = false := beq_eq_false_iff_ne.2 (by omega)
    obtain rfl : s = D := by have h := HD.out; simpa using h
    clear HD hne
    go_enter Tryd.func28, Tryd.ntmps28
    go_wp2_with fail
    go_loopw [4, 5] (fun n i wr => ∃ k : Nat, k ≤ s.size ∧ i = .int .i64 k ∧ n = .int .i64 (satF 2147483648 0 (d.take k) : Nat) ∧ (d.take k).all digB = true ∧ w = wr) (fun _ i _ => s.size - (intOf i).toNat)
    case atStart => exact ⟨0, Nat.zero_le _, rfl, rfl, rfl, rfl⟩
    case round =>
      obtain ⟨k, hk, rfl, rfl, hall, rfl⟩ := hrel
      have HALL := Lib.hid hall
      clear hall
      by_cases hlt : k < s.size
      · have hlt2 : k < d.length := by rw [← HSZ.out]; exact hlt
        have HST := Lib.hid (satF_take 2147483648 d 0 k hlt2)
        have HATK := Lib.hid (all_take d k hlt2)
        have HAF := Lib.hid (all_false d k hlt2)
        have hat2 : s[k] = d.getD k 0 := by rw [at_str s k hlt, HDL.out]
        have hsl := satF_le 2147483648 0 (d.take k) (by decide)
        clear hlt2
        generalize d.getD k 0 = c at *
        have hc := c.toNat_lt
        generalize satF 2147483648 0 (d.take k) = m at *
        have d1 : decide ((k : Int) < (s.size : Int)) = true := decide_eq_true (by omega)
        by_cases h48 : 48 ≤ c.toNat
        · by_cases h57 : c.toNat ≤ 57
          · have b1 : decide ((c.toNat : Int) < 48) = false := decide_eq_false (by omega)
            have b2 : decide ((57 : Int) < (c.toNat : Int)) = false := decide_eq_false (by omega)
            have HDG : Hid (digB c = true) := Lib.hid (by simp [digB, h48, h57])
            have m1 : (c.toNat : Int) ≤ 57 := by omega
            have m0 : (48 : Int) ≤ (c.toNat : Int) := by omega
            have HNX : Hid (min ((m : Int) * 10 + ((c.toNat : Int) - 48)) 2147483648 = ((min (10 * m + (c.toNat - 48)) 2147483648 : Nat) : Int)) := Lib.hid (by omega)
            go_wp2_with fail
            refine ⟨⟨k + 1, by omega, by go_num, by rw [HST.out, ← HNX.out], by rw [HATK.out, HALL.out, HDG.out]; rfl, trivial⟩, ?_⟩
            simp [intOf]; omega
          · have b1 : decide ((c.toNat : Int) < 48) = false := decide_eq_false (by omega)
            have b2 : decide ((57 : Int) < (c.toNat : Int)) = true := decide_eq_true (by omega)
            have HN0 : Hid (N = 0) := Lib.hid (by rw [HNV.out, HAF.out (by simp [digB]; omega)]; rfl)
            go_wp2_with fail
            go_ret
            exact ⟨by rw [HN0.out]; rfl, rfl⟩
        · have b1 : decide ((c.toNat : Int) < 48) = true := decide_eq_true (by omega)
          have HN0 : Hid (N = 0) := Lib.hid (by rw [HNV.out, HAF.out (by simp [digB]; omega)]; rfl)
          go_wp2_with fail
          go_ret
          exact ⟨by rw [HN0.out]; rfl, rfl⟩
      · have d1 : decide ((k : Int) < (s.size : Int)) = false := decide_eq_false (by omega)
        have hkd : d.take k = d := List.take_of_length_le (by rw [← HSZ.out]; omega)
        rw [hkd] at HALL ⊢
        have hsat := satF_eq 2147483648 d 0 (by decide)
        have HSA := Lib.hid hsat
        have hsl := satF_le 2147483648 0 d (by decide)
        clear hkd hsat
        by_cases hbig : valF 0 d ≤ 1073741824
        · have hm : satF 2147483648 0 d = valF 0 d := by rw [HSA.out]; omega
          rw [hm] at hsl ⊢
          have HNR : Hid (N = (valF 0 d : Int)) := Lib.hid (by rw [HNV.out, if_pos ⟨HALL.out, hbig⟩]; rfl)
          clear hm
          generalize valF 0 d = m at *
          have b1 : decide ((1073741824 : Int) < (m : Int)) = false := decide_eq_false (by omega)
          go_wp2_with fail
          go_ret
          exact ⟨by rw [HNR.out]; rfl, rfl⟩
        · have hm : 1073741825 ≤ satF 2147483648 0 d := by rw [HSA.out]; omega
          have HN0 : Hid (N = 0) := Lib.hid (by rw [HNV.out, if_neg (fun h => hbig h.2)])
          generalize satF 2147483648 0 d = m at *
          have b1 : decide ((1073741824 : Int) < (m : Int)) = true := decide_eq_true (by omega)
          clear hbig
          go_wp2_with fail
          go_ret
          exact ⟨by rw [HN0.out]; rfl, rfl⟩
  | true =>
    have he : c0.toNat = 45 := by rw [HCN.out.1 rfl]; rfl
    have e0 : ((c0.toNat : Int) == 45) = true := beq_iff_eq.2 (by omega)
    have hDe : s.extract 1 s.size = D := by have h := HD.out; simpa using h
    clear HD he
    go_enter Tryd.func28, Tryd.ntmps28
    go_wp2_with fail
    go_loopw [4, 5] (fun n i wr => ∃ k : Nat, k ≤ D.size ∧ i = .int .i64 k ∧ n = .int .i64 (satF 2147483648 0 (d.take k) : Nat) ∧ (d.take k).all digB = true ∧ w = wr) (fun _ i _ => D.size - (intOf i).toNat)
    case atStart => exact ⟨0, Nat.zero_le _, rfl, rfl, rfl, rfl⟩
    case round =>
      obtain ⟨k, hk, rfl, rfl, hall, rfl⟩ := hrel
      have HALL := Lib.hid hall
      clear hall
      by_cases hlt : k < D.size
      · have hlt2 : k < d.length := by rw [← HSZ.out]; exact hlt
        have HST := Lib.hid (satF_take 2147483648 d 0 k hlt2)
        have HATK := Lib.hid (all_take d k hlt2)
        have HAF := Lib.hid (all_false d k hlt2)
        have hat2 : D[k] = d.getD k 0 := by rw [at_str D k hlt, HDL.out]
        have hsl := satF_le 2147483648 0 (d.take k) (by decide)
        clear hlt2
        generalize d.getD k 0 = c at *
        have hc := c.toNat_lt
        generalize satF 2147483648 0 (d.take k) = m at *
        have d1 : decide ((k : Int) < (D.size : Int)) = true := decide_eq_true (by omega)
        by_cases h48 : 48 ≤ c.toNat
        · by_cases h57 : c.toNat ≤ 57
          · have b1 : decide ((c.toNat : Int) < 48) = false := decide_eq_false (by omega)
            have b2 : decide ((57 : Int) < (c.toNat : Int)) = false := decide_eq_false (by omega)
            have HDG : Hid (digB c = true) := Lib.hid (by simp [digB, h48, h57])
            have m1 : (c.toNat : Int) ≤ 57 := by omega
            have m0 : (48 : Int) ≤ (c.toNat : Int) := by omega
            have HNX : Hid (min ((m : Int) * 10 + ((c.toNat : Int) - 48)) 2147483648 = ((min (10 * m + (c.toNat - 48)) 2147483648 : Nat) : Int)) := Lib.hid (by omega)
            go_wp2_with fail
            refine ⟨⟨k + 1, by omega, by go_num, by rw [HST.out, ← HNX.out], by rw [HATK.out, HALL.out, HDG.out]; rfl, trivial⟩, ?_⟩
            simp [intOf]; omega
          · have b1 : decide ((c.toNat : Int) < 48) = false := decide_eq_false (by omega)
            have b2 : decide ((57 : Int) < (c.toNat : Int)) = true := decide_eq_true (by omega)
            have HN0 : Hid (N = 0) := Lib.hid (by rw [HNV.out, HAF.out (by simp [digB]; omega)]; rfl)
            go_wp2_with fail
            go_ret
            exact ⟨by rw [HN0.out]; rfl, rfl⟩
        · have b1 : decide ((c.toNat : Int) < 48) = true := decide_eq_true (by omega)
          have HN0 : Hid (N = 0) := Lib.hid (by rw [HNV.out, HAF.out (by simp [digB]; omega)]; rfl)
          go_wp2_with fail
          go_ret
          exact ⟨by rw [HN0.out]; rfl, rfl⟩
      · have d1 : decide ((k : Int) < (D.size : Int)) = false := decide_eq_false (by omega)
        have hkd : d.take k = d := List.take_of_length_le (by rw [← HSZ.out]; omega)
        rw [hkd] at HALL ⊢
        have hsat := satF_eq 2147483648 d 0 (by decide)
        have HSA := Lib.hid hsat
        have hsl := satF_le 2147483648 0 d (by decide)
        clear hkd hsat
        by_cases hbig : valF 0 d ≤ 1073741824
        · have hm : satF 2147483648 0 d = valF 0 d := by rw [HSA.out]; omega
          rw [hm] at hsl ⊢
          have HNR : Hid (N = -(valF 0 d : Int)) := Lib.hid (by rw [HNV.out, if_pos ⟨HALL.out, hbig⟩]; rfl)
          clear hm
          generalize valF 0 d = m at *
          have b1 : decide ((1073741824 : Int) < (m : Int)) = false := decide_eq_false (by omega)
          go_wp2_with fail
          go_ret
          exact ⟨by rw [HNR.out]; rfl, rfl⟩
        · have hm : 1073741825 ≤ satF 2147483648 0 d := by rw [HSA.out]; omega
          have HN0 : Hid (N = 0) := Lib.hid (by rw [HNV.out, if_neg (fun h => hbig h.2)])
          generalize satF 2147483648 0 d = m at *
          have b1 : decide ((1073741824 : Int) < (m : Int)) = true := decide_eq_true (by omega)
          clear hbig
          go_wp2_with fail
          go_ret
          exact ⟨by rw [HN0.out]; rfl, rfl⟩
end Go.Proofs.YthbbbjkgfdnkhaaDoor
