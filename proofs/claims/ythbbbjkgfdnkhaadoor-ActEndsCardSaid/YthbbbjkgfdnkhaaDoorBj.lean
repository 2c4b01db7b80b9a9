/- Whether acts are right: the program and the document. -/
import Derived.Test.YthbbbjkgfdnkhaaDoorBi
namespace Go.Proofs.YthbbbjkgfdnkhaaDoor
open Go.RowKit
def rightLB (l : List Ac) : Bool := l.all rightAB && (decide (1 ≤ l.length) && decide (l.length ≤ 6))
theorem all_takeA (l : List Ac) (k : Nat) (hk : k < l.length) (h : (l.take k).all rightAB = true) : (l.take (k + 1)).all rightAB = rightAB (atA l k) := by
  have e : atA l k = l[k] := by simp [atA, List.getD, hk]
  rw [List.take_succ_eq_append_getElem hk, List.all_append, h, e]
  simp
theorem all_bad (l : List Ac) (k : Nat) (hk : k < l.length) (h : rightAB (atA l k) = false) : l.all rightAB = false := by
  have e : atA l k = l[k] := by simp [atA, List.getD, hk]
  rw [List.all_eq_false]
  exact ⟨l[k], List.getElem_mem hk, by rw [← e, h]; decide⟩
set_option maxRecDepth 100000 in
set_option maxHeartbeats 1000000 in
theorem notRightA_w (a : Ac) (hs : a.value.size ≤ 100000) (w : World) : Calls Tryd.prog 38 #[acV a] w (Ret w (.bool (!rightAB a))) := by
  have HR := Lib.hid (fun w' => rightA_w a hs w')
  generalize rightAB a = b at *
  obtain ⟨kind, key, value, num⟩ := a
  unfold acV at HR ⊢
  simp only at HR ⊢
  clear hs
  go_enter Tryd.func38, Tryd.ntmps38
  go_wp2_with fail
  (with_reducible refine (HR.out _).mono ?_)
  rintro _ w1 ⟨rfl, o1⟩
  have HO := Lib.hid (Ok.trans ((Ok.refl w).alloc _) o1)
  clear o1
  go_wp2_with fail
  go_ret
  exact ⟨rfl, HO.out⟩
def IdxP (w : World) (l : List Ac) (e : Ending) (w' : World) : Prop := (∃ z : Int, e = .returned (.int .i64 z) ∧ (l.all rightAB = true ∧ z = -1 ∨ l.all rightAB = false ∧ 0 ≤ z)) ∧ Ok w w'
set_option maxRecDepth 100000 in
set_option maxHeartbeats 2000000 in
theorem idxA_w (A : Option Addr) (n c : Nat) (l : List Ac) (hn : l.length = n) (hn6 : n ≤ 1000) (hr : ∀ j, j < n → (atA l j).value.size ≤ 100000) (w : World) (hI : ActsAt w A l) :
    Calls Tryd.prog 49 #[.slice A n c, .func (.func 38) #[] #[]] w (IdxP w l) := by
  have HI := Lib.hid hI
  have HN := Lib.hid hn
  have HR := Lib.hid hr
  clear hI hn hr
  go_enter Tryd.func49, Tryd.ntmps49
  go_wp2_with fail
  go_loopw [5, 8] (fun _ i wr => ∃ k : Nat, k ≤ n ∧ i = .int .i64 k ∧ (l.take k).all rightAB = true ∧ Ok w wr) (fun _ i _ => n - (intOf i).toNat)
  case atStart => exact ⟨0, Nat.zero_le _, rfl, by simp, Ok.refl _⟩
  case round =>
    obtain ⟨k, hk, rfl, hall, okr⟩ := hrel
    have HOKR := Lib.hid okr
    have HALL := Lib.hid hall
    clear okr hall
    by_cases hlt : k < n
    · have d1 : decide ((k : Int) < (n : Int)) = true := decide_eq_true (by omega)
      have hkl : k < l.length := by rw [HN.out]; exact hlt
      obtain ⟨b, off, rfl, C0, C1, C2, C3⟩ := (HI.out.ok HOKR.out) k hkl
      have HF := Lib.hid (notRightA_w _ (HR.out k hlt) wr)
      have HNX := Lib.hid (all_takeA l k hkl HALL.out)
      have HBAD := Lib.hid (all_bad l k hkl)
      generalize atA l k = a at *
      generalize rightAB a = rb at *
      obtain ⟨kind, key, value, num⟩ := a
      unfold acV at HF
      simp only at C0 C1 C2 C3 HF
      have hi0 : (0 : Int) ≤ (k : Int) := Int.natCast_nonneg _
      have hi1 : (k : Int) < (n : Int) := by omega
      clear hkl
      go_wp2_with fail
      (with_reducible refine HF.out.mono ?_)
      rintro _ w1 ⟨rfl, o1⟩
      have HO := Lib.hid (Ok.trans HOKR.out o1)
      clear o1
      cases rb with
      | true =>
        go_wp2_with fail
        refine ⟨⟨k + 1, hlt, by go_num, HNX.out, HO.out⟩, by simp [intOf]; omega⟩
      | false =>
        go_wp2_with fail
        go_ret
        exact ⟨⟨_, rfl, .inr ⟨HBAD.out (by trivial), hi0⟩⟩, HO.out⟩
    · have d1 : decide ((k : Int) < (n : Int)) = false := decide_eq_false (by omega)
      have htk : l.take k = l := List.take_of_length_le (by rw [HN.out]; omega)
      have h2 := HALL.out
      rw [htk] at h2
      have H2 := Lib.hid h2
      clear h2 htk
      go_wp2_with fail
      go_ret
      exact ⟨⟨_, rfl, .inl ⟨H2.out, rfl⟩⟩, HOKR.out⟩
set_option maxRecDepth 100000 in
set_option maxHeartbeats 1000000 in
theorem rightL_w (A : Option Addr) (n c : Nat) (l : List Ac) (hn : l.length = n) (hn6 : n ≤ 1000) (hr : ∀ j, j < n → (atA l j).value.size ≤ 100000) (w : World) (hI : ActsAt w A l) :
    Calls Tryd.prog 14 #[.slice A n c] w (Ret w (.bool (rightLB l))) := by
  have HX := Lib.hid (idxA_w A n c l hn hn6 hr w hI)
  have HC : Hid (Calls Tryd.prog 37 #[.slice A n c, .func (.func 38) #[] #[]] w (Ret w (.bool (!l.all rightAB)))) := Lib.hid (by
    clear hI hr hn
    go_enter Tryd.func37, Tryd.ntmps37
    go_wp2_with fail
    (with_reducible refine HX.out.mono ?_)
    rintro _ w1 ⟨⟨z, rfl, hz⟩, o1⟩
    have HO := Lib.hid o1
    clear o1
    rcases hz with ⟨hb, rfl⟩ | ⟨hb, hz⟩
    · have HB := Lib.hid hb
      go_wp2_with fail
      go_ret
      exact ⟨by rw [HB.out]; rfl, HO.out⟩
    · have HB := Lib.hid hb
      have d1 : decide (0 ≤ z) = true := decide_eq_true hz
      clear hb
      go_wp2_with fail
      go_ret
      exact ⟨by rw [HB.out]; rfl, HO.out⟩)
  unfold rightLB
  rw [hn]
  generalize l.all rightAB = b at *
  clear hI hr hn HX
  by_cases h1 : 1 ≤ n
  · have d1 : decide ((1 : Int) ≤ (n : Int)) = true := decide_eq_true (by omega)
    have d1n : decide (1 ≤ n) = true := decide_eq_true h1
    by_cases h6 : n ≤ 6
    · have d2 : decide ((n : Int) ≤ 6) = true := decide_eq_true (by omega)
      have d2n : decide (n ≤ 6) = true := decide_eq_true h6
      rw [d1n, d2n]
      go_enter Tryd.func14, Tryd.ntmps14
      go_wp2_with fail
      (with_reducible refine HC.out.mono ?_)
      rintro _ w1 ⟨rfl, o1⟩
      have HO := Lib.hid o1
      clear o1
      go_wp2_with fail
      go_ret
      exact ⟨by simp, HO.out⟩
    · have d2 : decide ((n : Int) ≤ 6) = false := decide_eq_false (by omega)
      have d2n : decide (n ≤ 6) = false := decide_eq_false h6
      rw [d1n, d2n]
      go_enter Tryd.func14, Tryd.ntmps14
      go_wp2_with fail
      go_ret
      exact ⟨by simp, Ok.refl _⟩
  · have d1 : decide ((1 : Int) ≤ (n : Int)) = false := decide_eq_false (by omega)
    have d1n : decide (1 ≤ n) = false := decide_eq_false h1
    rw [d1n]
    go_enter Tryd.func14, Tryd.ntmps14
    go_wp2_with fail
    go_ret
    exact ⟨by simp, Ok.refl _⟩
set_option maxRecDepth 100000 in
set_option maxHeartbeats 2000000 in
theorem rrightL_w (A : Option Addr) (n c : Nat) (l : List Ac) (hn : l.length = n) (hn6 : n ≤ 1000) (hr : ∀ j, j < n → (atA l j).value.size ≤ 100000) (w : World) (hI : ActsAt w A l) :
    Calls Tryd.prog 15 #[.slice A n c] w (Ret w (.bool (rightLB l))) := by
  have HI := Lib.hid hI
  have HN := Lib.hid hn
  have HR := Lib.hid hr
  clear hI hn hr
  go_enter Tryd.func15, Tryd.ntmps15
  go_wp2_with fail
  go_loopw [3] (fun i wr => ∃ k : Nat, k ≤ n ∧ i = .int .i64 k ∧ (l.take k).all rightAB = true ∧ Ok w wr) (fun i _ => n - (intOf i).toNat)
  case atStart => exact ⟨0, Nat.zero_le _, rfl, by simp, Ok.refl _⟩
  case round =>
    obtain ⟨k, hk, rfl, hall, okr⟩ := hrel
    have HOKR := Lib.hid okr
    have HALL := Lib.hid hall
    clear okr hall
    by_cases hlt : k < n
    · have d1 : decide ((k : Int) < (n : Int)) = true := decide_eq_true (by omega)
      have hkl : k < l.length := by rw [HN.out]; exact hlt
      obtain ⟨b, off, rfl, C0, C1, C2, C3⟩ := (HI.out.ok HOKR.out) k hkl
      have HF := Lib.hid (one_w _ (HR.out k hlt) wr)
      have HNX := Lib.hid (all_takeA l k hkl HALL.out)
      have HBAD := Lib.hid (all_bad l k hkl)
      have HL : Hid (l.all rightAB = false → rightLB l = false) := Lib.hid fun h => by simp [rightLB, h]
      generalize atA l k = a at *
      generalize rightAB a = rb at *
      obtain ⟨kind, key, value, num⟩ := a
      unfold acV at HF
      simp only at C0 C1 C2 C3 HF
      have hi0 : (0 : Int) ≤ (k : Int) := Int.natCast_nonneg _
      have hi1 : (k : Int) < (n : Int) := by omega
      clear hkl
      go_wp2_with fail
      (with_reducible refine HF.out.mono ?_)
      rintro _ w1 ⟨rfl, o1⟩
      have HO := Lib.hid (Ok.trans HOKR.out o1)
      clear o1
      cases rb with
      | true =>
        go_wp2_with fail
        refine ⟨⟨k + 1, hlt, by go_num, HNX.out, HO.out⟩, by simp [intOf]; omega⟩
      | false =>
        go_wp2_with fail
        go_ret
        exact ⟨by rw [HL.out (HBAD.out (by trivial))]; rfl, HO.out⟩
    · have d1 : decide ((k : Int) < (n : Int)) = false := decide_eq_false (by omega)
      have htk : l.take k = l := List.take_of_length_le (by rw [HN.out]; omega)
      have h2 := HALL.out
      rw [htk] at h2
      have e : rightLB l = (decide (1 ≤ n) && decide (n ≤ 6)) := by unfold rightLB; rw [h2, HN.out]; rfl
      have HE := Lib.hid e
      clear h2 htk e HALL
      by_cases h1 : 1 ≤ n
      · have d1x : decide ((1 : Int) ≤ (n : Int)) = true := decide_eq_true (by omega)
        have d1n : decide (1 ≤ n) = true := decide_eq_true h1
        by_cases h6 : n ≤ 6
        · have d2 : decide ((n : Int) ≤ 6) = true := decide_eq_true (by omega)
          have d2n : decide (n ≤ 6) = true := decide_eq_true h6
          go_wp2_with fail
          go_ret
          exact ⟨by rw [HE.out, d1n, d2n]; rfl, HOKR.out⟩
        · have d2 : decide ((n : Int) ≤ 6) = false := decide_eq_false (by omega)
          have d2n : decide (n ≤ 6) = false := decide_eq_false h6
          go_wp2_with fail
          go_ret
          exact ⟨by rw [HE.out, d1n, d2n]; rfl, HOKR.out⟩
      · have d1x : decide ((1 : Int) ≤ (n : Int)) = false := decide_eq_false (by omega)
        have d1n : decide (1 ≤ n) = false := decide_eq_false h1
        go_wp2_with fail
        go_ret
        exact ⟨by rw [HE.out, d1n]; rfl, HOKR.out⟩
end Go.Proofs.YthbbbjkgfdnkhaaDoor
