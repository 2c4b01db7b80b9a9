/- Numbers of texts: the program's, the document's. -/
import Derived.Test.YthbbbjkgfdnkhaaDoorAa
namespace Go.Proofs.YthbbbjkgfdnkhaaDoor
open Go.RowKit
set_option maxHeartbeats 400000 in
theorem bound_w (n m : Int) (hm : 0 ≤ m ∧ m ≤ 4611686018427387904) (w : World) :
    Calls Tryd.prog 45 #[.int .i64 n, .int .i64 m] w fun e w' => e = .returned (.int .i64 (boundM n m)) ∧ w = w' := by
  obtain ⟨m0, m1⟩ := hm
  go_enter Tryd.func45, Tryd.ntmps45
  go_wp2
  go_ret
  exact ⟨rfl, rfl⟩
set_option maxHeartbeats 400000 in
theorem value_w (n : Int) (w : World) (ht : Tb w) :
    Calls Tryd.prog 30 #[.int .i64 n] w (Ret w (.string (valueT n))) := by
  have h1 := boundM_in n 1073741824 (by decide)
  have HB := Lib.hid (bound_w n 1073741824 (by decide) w)
  have HI := Lib.hid (Tryd.strconv_Itoa (boundM n 1073741824) (by omega) (by omega) w ht)
  have HV : Hid (valueT n = ⟨(Lib.itoa (boundM n 1073741824)).toArray⟩) := Lib.hid rfl
  clear ht h1
  generalize boundM n 1073741824 = b at *
  generalize valueT n = v at *
  go_enter Tryd.func30, Tryd.ntmps30
  go_wp2_with fail
  (with_reducible refine HB.out.mono ?_)
  rintro _ w1 ⟨rfl, rfl⟩
  go_wp2_with fail
  (with_reducible refine HI.out.mono ?_)
  rintro _ w2 ⟨rfl, k, os, rfl⟩
  have hb := Lib.hid (Lib.below_grow w.heap.size w (Nat.le_refl _) k os)
  generalize Sort.grow (w.drewN k) os = w2 at *
  rw [← HV.out]
  go_wp2_with fail
  go_ret
  exact ⟨rfl, hb.out⟩
/-- A text without its sign, and whether it had one. -/
def negB (l : Chs) : Bool := l.head? == some 45
def cutL (l : Chs) : Chs := if negB l = true then l.drop 1 else l
theorem cut_eq (l : Chs) : Lib.hasPrefix l [45] = negB l ∧ Lib.trimPrefix l [45] = cutL l := by
  have h1 : Lib.hasPrefix l [45] = negB l := by
    unfold Lib.hasPrefix negB
    cases l with
    | nil => rfl
    | cons c l =>
      simp only [List.isPrefixOf, List.head?_cons, Bool.and_true]
      by_cases h : c = 45
      · subst h; rfl
      · rw [beq_eq_false_iff_ne.2 (Ne.symm h), beq_eq_false_iff_ne.2 (by simpa using h)]
  refine ⟨h1, ?_⟩
  unfold Lib.trimPrefix cutL
  rw [h1]
  rfl
theorem numV_eq (l : Chs) : numV l = if (cutL l).all digB = true ∧ valF 0 (cutL l) ≤ 1073741824 then (if negB l = true then -(valF 0 (cutL l) : Int) else (valF 0 (cutL l) : Int)) else 0 := rfl
theorem all_take (l : Chs) (k : Nat) (h : k < l.length) : (l.take (k + 1)).all digB = ((l.take k).all digB && digB (l.getD k 0)) := by
  rw [List.take_succ_eq_append_getElem h, List.all_append]
  congr 1
  simp [h]
theorem all_false (l : Chs) (k : Nat) (h : k < l.length) (hb : digB (l.getD k 0) = false) : l.all digB = false := by
  rw [List.all_eq_false]
  exact ⟨l[k], List.getElem_mem h, by simpa [h] using hb⟩
theorem at_str (s : Str) (k : Nat) (h : k < s.size) : s[k] = s.data.toList.getD k 0 := by
  have h2 : k < s.data.toList.length := by rw [Array.length_toList]; exact h
  simp only [List.getD_eq_getElem?_getD, List.getElem?_eq_getElem h2, Option.getD_some]
  rfl
set_option maxRecDepth 100000 in
set_option maxHeartbeats 1000000 in
theorem number_w (s : Str) (w : World) (hs : s.size ≤ 1000000) :
    Calls Tryd.prog 27 #[.string s] w fun e w' => e = .returned (.int .i64 (numV s.data.toList)) ∧ w = w' := by
  have HC := Lib.hid (Tryd.strings_CutPrefix s ⟨#[45]⟩ w)
  obtain ⟨q1, q2⟩ := cut_eq s.data.toList
  have HQ := Lib.hid (And.intro q1 q2)
  rw [show (⟨#[45]⟩ : ByteArray).data.toList = [45] from rfl, q1, q2] at HC
  have HNV := Lib.hid (numV_eq s.data.toList)
  have hlen : (cutL s.data.toList).length ≤ 1000000 := by
    unfold cutL
    have : s.data.toList.length ≤ 1000000 := by rw [Array.length_toList]; exact hs
    split
    · rw [List.length_drop]; omega
    · exact this
  clear q1 q2 HQ hs
  generalize numV s.data.toList = N at *
  generalize negB s.data.toList = neg at *
  generalize cutL s.data.toList = d at *
  obtain ⟨D, hD⟩ : ∃ D : Str, ⟨d.toArray⟩ = D := ⟨_, rfl⟩
  rw [hD] at HC
  have hDL : D.data.toList = d := by rw [← hD]
  have hsz : D.size = d.length := by rw [← hD]; show d.toArray.size = _; simp
  have hle : D.size ≤ 1000000 := by omega
  have HDL := Lib.hid hDL
  have HSZ := Lib.hid hsz
  clear hD hDL hsz hlen
  go_enter Tryd.func27, Tryd.ntmps27
  go_wp2_with fail
  (with_reducible refine HC.out.mono ?_)
  rintro _ w1 ⟨rfl, hw⟩
  subst hw
  have HTL : Hid (D.toList = d) := Lib.hid (by rw [Lib.toList_data, HDL.out])
  by_cases hemp : D.size = 0
  · have hd : d = [] := List.length_eq_zero_iff.1 (by rw [← HSZ.out]; exact hemp)
    have e1 : D.toList = [] := by rw [HTL.out, hd]
    have e2 : D.toList.isEmpty = true := by rw [e1]; rfl
    have HN0 : Hid (N = 0) := Lib.hid (by rw [HNV.out, hd]; cases neg <;> decide)
    clear hd
    go_wp2_with fail
    go_ret
    exact ⟨by rw [HN0.out]; rfl, rfl⟩
  · have hd : d ≠ [] := fun e => hemp (by rw [HSZ.out, e]; rfl)
    have e2 : D.toList.isEmpty = false := by rw [HTL.out]; cases d with | nil => exact absurd rfl hd | cons _ _ => rfl
    have e3 : (D.toList == []) = false := by rw [HTL.out]; cases d with | nil => exact absurd rfl hd | cons _ _ => rfl
    clear hd hemp
    go_wp2_with fail
    clear e2 e3
    go_loop [5, 6, 7, 17] (fun n _ _ i => ∃ k : Nat, k ≤ D.size ∧ i = .int .i64 k ∧ n = .int .i64 (satF 1073741825 0 (d.take k) : Nat) ∧ (d.take k).all digB = true) (fun _ _ _ i => D.size - (intOf i).toNat)
    case atStart => exact ⟨0, Nat.zero_le _, rfl, rfl, rfl⟩
    case round =>
      obtain ⟨k, hk, rfl, rfl, hall⟩ := hrel
      have HALL := Lib.hid hall
      clear hall
      by_cases hlt : k < D.size
      · have hlt2 : k < d.length := by rw [← HSZ.out]; exact hlt
        have HST := Lib.hid (satF_take 1073741825 d 0 k hlt2)
        have HAT := Lib.hid (all_take d k hlt2)
        have HAF := Lib.hid (all_false d k hlt2)
        have hat : D[k] = d.getD k 0 := by rw [at_str D k hlt, HDL.out]
        have hsl := satF_le 1073741825 0 (d.take k) (by decide)
        clear hlt2
        generalize d.getD k 0 = c at *
        have hc := c.toNat_lt
        generalize satF 1073741825 0 (d.take k) = m at *
        have d1 : decide ((k : Int) < (D.size : Int)) = true := decide_eq_true (by omega)
        by_cases h48 : 48 ≤ c.toNat
        · by_cases h57 : c.toNat ≤ 57
          · have b1 : decide ((c.toNat : Int) < 48) = false := decide_eq_false (by omega)
            have b2 : decide ((57 : Int) < (c.toNat : Int)) = false := decide_eq_false (by omega)
            have HDG : Hid (digB c = true) := Lib.hid (by simp [digB, h48, h57])
            have m1 : (c.toNat : Int) ≤ 57 := by omega
            have m0 : (48 : Int) ≤ (c.toNat : Int) := by omega
            have HNX : Hid (min (10 * (m : Int) + ((c.toNat : Int) - 48)) 1073741825 = ((min (10 * m + (c.toNat - 48)) 1073741825 : Nat) : Int)) := Lib.hid (by omega)
            go_wp2_with fail
            go_round
            case rel => exact ⟨k + 1, by omega, by go_num, by rw [HST.out, ← HNX.out], by rw [HAT.out, HALL.out, HDG.out]; rfl⟩
            case measure => simp [intOf]; omega
          · have b1 : decide ((c.toNat : Int) < 48) = false := decide_eq_false (by omega)
            have b2 : decide ((57 : Int) < (c.toNat : Int)) = true := decide_eq_true (by omega)
            have HN0 : Hid (N = 0) := Lib.hid (by rw [HNV.out, HAF.out (by simp [digB]; omega)]; rfl)
            go_wp2_with fail
            go_ret
            exact ⟨by rw [HN0.out]; rfl, rfl⟩
        · have b1 : decide ((c.toNat : Int) < 48) = true := decide_eq_true (by omega)
          have HN0 : Hid (N = 0) := Lib.hid (by rw [HNV.out, HAF.out (by simp [digB]; omega)]; rfl)
          go_wp2_with fail
          go_ret
          exact ⟨by rw [HN0.out]; rfl, rfl⟩
      · have d1 : decide ((k : Int) < (D.size : Int)) = false := decide_eq_false (by omega)
        have hkd : d.take k = d := List.take_of_length_le (by rw [← HSZ.out]; omega)
        rw [hkd] at HALL ⊢
        have hsat := satF_eq 1073741825 d 0 (by decide)
        have HSA := Lib.hid hsat
        have hsl := satF_le 1073741825 0 d (by decide)
        clear hkd hsat
        by_cases hbig : valF 0 d ≤ 1073741824
        · have hm : satF 1073741825 0 d = valF 0 d := by rw [HSA.out]; omega
          rw [hm] at hsl ⊢
          have HNR : Hid (N = if neg = true then -(valF 0 d : Int) else (valF 0 d : Int)) := Lib.hid (by rw [HNV.out, if_pos ⟨HALL.out, hbig⟩])
          clear hm
          generalize valF 0 d = m at *
          have b1 : decide ((1073741824 : Int) < (m : Int)) = false := decide_eq_false (by omega)
          cases neg with
          | true =>
            go_wp2_with fail
            go_ret
            exact ⟨by rw [HNR.out]; rfl, rfl⟩
          | false =>
            go_wp2_with fail
            go_ret
            exact ⟨by rw [HNR.out]; rfl, rfl⟩
        · have hm : satF 1073741825 0 d = 1073741825 := by rw [HSA.out]; omega
          rw [hm]
          have HN0 : Hid (N = 0) := Lib.hid (by rw [HNV.out, if_neg (fun h => hbig h.2)])
          clear hm hsl hbig
          go_wp2_with fail
          go_ret
          exact ⟨by rw [HN0.out]; rfl, rfl⟩
end Go.Proofs.YthbbbjkgfdnkhaaDoor
