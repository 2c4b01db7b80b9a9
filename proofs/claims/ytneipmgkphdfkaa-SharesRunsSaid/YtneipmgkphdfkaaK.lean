/- The guard of the layer's statements, walked: it is awake. -/
import Derived.Test.YtneipmgkphdfkaaJ
namespace Go.Proofs.Ytneipmgkphdfkaa
open Go.RowKit

theorem cut_one : cutM allS (sortS [⟨#[109]⟩]) = [⟨⟨#[]⟩, ⟨#[109]⟩⟩, ⟨⟨#[109]⟩, ⟨#[]⟩⟩] := by
  have h : sortS [⟨#[109]⟩] = [⟨#[109]⟩] := List.perm_singleton.1 (sortS_perm _)
  have h1 : hasB allS ⟨#[109]⟩ = true := by decide +kernel
  have h2 : ltB allS.lo ⟨#[109]⟩ = true := by decide +kernel
  have h3 : rightB allS = true := by decide +kernel
  rw [h]
  simp [cutM, cutSt, cutStep, h1, h2, h3]
  exact ⟨rfl, rfl⟩
theorem meet_one : meetV ⟨⟨#[97]⟩, ⟨#[99]⟩⟩ ⟨⟨#[98]⟩, ⟨#[]⟩⟩ = .tuple #[.agg #[.string ⟨#[98]⟩, .string ⟨#[99]⟩], .bool true] := by
  have h1 : rightB ⟨⟨#[97]⟩, ⟨#[99]⟩⟩ = true := by decide +kernel
  have h2 : rightB ⟨⟨#[98]⟩, ⟨#[]⟩⟩ = true := by decide +kernel
  have h3 : ltB ⟨#[97]⟩ ⟨#[98]⟩ = true := by decide +kernel
  have h4 : inB ⟨#[]⟩ ⟨#[99]⟩ = false := by decide +kernel
  have h5 : rightB ⟨⟨#[98]⟩, ⟨#[99]⟩⟩ = true := by decide +kernel
  simp [meetV, meetB, meetM, h1, h2, h3, h4, h5, spV]
theorem parts_one : partsM [⟨⟨#[]⟩, ⟨#[109]⟩⟩, ⟨⟨#[109]⟩, ⟨#[]⟩⟩] = true := by decide +kernel

set_option maxRecDepth 100000 in
set_option maxHeartbeats 2000000 in
theorem awake_w (w : World) : Calls Try.prog 11 #[] w (Ret w (.bool true)) := by
  have hm := meet_w ⟨⟨#[97]⟩, ⟨#[99]⟩⟩ ⟨⟨#[98]⟩, ⟨#[]⟩⟩
  rw [meet_one] at hm
  have HK1 := key_w ⟨#[97, 49]⟩
  have HK2 := key_w ⟨#[65]⟩
  rw [show keyB ⟨#[97, 49]⟩ = true by decide +kernel] at HK1
  rw [show keyB ⟨#[65]⟩ = false by decide +kernel] at HK2
  have HC := cut_w allS
  have HA := all_w
  unfold spV at hm HC HA
  go_enter Try.func11, Try.ntmps11
  go_wp2_with fail
  refine (HA _).mono ?_
  rintro _ w1 ⟨rfl, o1⟩
  have HT : Hid (Strs (w1.alloc (.cells #[.string ⟨#[109]⟩] 9)).heap.size (w1.alloc (.cells #[.string ⟨#[109]⟩] 9)) (.slice (some ⟨w1.heap.size, 0, none⟩) 1 1) [⟨#[109]⟩]) := Lib.hid (by
    refine .inr ⟨w1.heap.size, 0, 1, rfl, by simp, fun j hj => ?_⟩
    obtain rfl : j = 0 := by simpa using hj
    exact cell_one _ _ _)
  go_wp2_with fail
  refine (HC _ _ _ _ (by simp) _ HT.out).mono ?_
  rintro _ w2 ⟨A, c, rfl, hown, o2⟩
  rw [cut_one] at hown ⊢
  have hat := hown.at
  obtain ⟨g, off, rfl, c0, c1⟩ := hat 0 (by simp)
  obtain ⟨g', off', e, c2, c3⟩ := hat 1 (by simp)
  obtain ⟨rfl, rfl⟩ : g = g' ∧ off = off' := by simpa using e
  simp only [at1, List.getElem?_cons_zero, List.getElem?_cons_succ, Option.getD_some, Nat.zero_mul, Nat.one_mul, Nat.add_zero] at c0 c1 c2 c3
  have HAT := Lib.hid hat
  have ok2 : Hid (Ok w w2) := Lib.hid (Ok.call (Ok.alloc o1 _) o2)
  clear e hat hown o1 o2 HT
  go_wp2_with fail
  refine (hm _).mono ?_
  rintro _ w3 ⟨rfl, o3⟩
  have c0 := Ok.cell o3 c0
  have c1 := Ok.cell o3 c1
  have c2 := Ok.cell o3 c2
  have c3 := Ok.cell o3 c3
  have HAT3 := Lib.hid (HAT.out.ok (Ok.alloc o3 (.cells #[.string ⟨#[98]⟩, .string ⟨#[99]⟩] 23)))
  have ok3 := Lib.hid (Ok.alloc (Ok.call ok2.out o3) (.cells #[.string ⟨#[98]⟩, .string ⟨#[99]⟩] 23))
  have p0 := Ok.cell (Ok.alloc (Ok.refl w3) (.cells #[.string ⟨#[98]⟩, .string ⟨#[99]⟩] 23)) c0
  have p1 := Ok.cell (Ok.alloc (Ok.refl w3) (.cells #[.string ⟨#[98]⟩, .string ⟨#[99]⟩] 23)) c1
  have p2 := Ok.cell (Ok.alloc (Ok.refl w3) (.cells #[.string ⟨#[98]⟩, .string ⟨#[99]⟩] 23)) c2
  have p3 := Ok.cell (Ok.alloc (Ok.refl w3) (.cells #[.string ⟨#[98]⟩, .string ⟨#[99]⟩] 23)) c3
  clear c0 c1 c2 c3 o3 ok2 HAT
  go_wp2_with fail
  refine (parts_w _ _ _ _ rfl (by decide) _ HAT3.out).mono ?_
  rintro _ w4 ⟨rfl, o4⟩
  rw [parts_one]
  have ok4 := Lib.hid (Ok.call ok3.out o4)
  clear p0 p1 p2 p3 ok3 HAT3 o4
  go_wp2_with fail
  refine (HK1 _).mono ?_
  rintro _ w5 ⟨rfl, o5⟩
  go_wp2_with fail
  refine (HK2 _).mono ?_
  rintro _ w6 ⟨rfl, o6⟩
  go_wp2
  go_ret
  exact ⟨rfl, Ok.call (Ok.call ok4.out o5) o6⟩

end Go.Proofs.Ytneipmgkphdfkaa
