/- Contracts of Has, of Within, of Meet, of few. -/
import Derived.Test.YtebhcadolnjplaaGreatRr
namespace Go.Proofs.YtebhcadolnjplaaGreat
open Go.RowKit

set_option maxRecDepth 100000 in
set_option maxHeartbeats 1000000 in
theorem has_w (s : Sp) (k : Str) (w : World) : Calls Tryz.prog 80 #[spV s, .string k] w (Ret w (.bool (hasB s k))) := by
  have hr := right_w s
  have hk := key_w k
  have hlo := low_w s
  have hhi := high_w s
  have hbe := below_w k s.lo
  have hab := above_w s.hi k
  obtain ⟨R, hR⟩ : ∃ R, hasB s k = R := ⟨_, rfl⟩
  rw [hR]
  have er : Hid (R = (rightB s && keyB k && !ltB k s.lo && aboveB s.hi k)) := Lib.hid hR.symm
  clear hR
  obtain ⟨lo, hi⟩ := s
  unfold spV at *
  cases h1 : rightB ⟨lo, hi⟩ with
  | false =>
    rw [h1] at hr er
    go_enter Tryz.func80, Tryz.ntmps80
    go_wp2_with fail
    refine (hr _).mono ?_
    rintro _ w1 ⟨rfl, o1⟩
    go_wp2
    go_ret
    exact ⟨by rw [er.out]; first | rfl | simp, Ok.call (Ok.alloc (Ok.refl w) _) o1⟩
  | true =>
    rw [h1] at hr er
    cases h2 : keyB k with
    | false =>
      rw [h2] at hk er
      go_enter Tryz.func80, Tryz.ntmps80
      go_wp2_with fail
      refine (hr _).mono ?_
      rintro _ w1 ⟨rfl, o1⟩
      go_wp2_with fail
      refine (hk _).mono ?_
      rintro _ w2 ⟨rfl, o2⟩
      go_wp2
      go_ret
      exact ⟨by rw [er.out]; first | rfl | simp, Ok.call (Ok.call (Ok.alloc (Ok.refl w) _) o1) o2⟩
    | true =>
      rw [h2] at hk er
      cases h3 : ltB k lo with
      | true =>
        rw [h3] at hbe er
        go_enter Tryz.func80, Tryz.ntmps80
        go_wp2_with fail
        refine (hr _).mono ?_
        rintro _ w1 ⟨rfl, o1⟩
        have c1 : w1.cell? ⟨w.heap.size, 0, none⟩ = some (.string lo) := Ok.cell o1 (by go_cell)
        have d1 : w1.cell? ⟨w.heap.size, 1, none⟩ = some (.string hi) := Ok.cell o1 (by go_cell)
        go_wp2_with fail
        refine (hk _).mono ?_
        rintro _ w2 ⟨rfl, o2⟩
        have c2 := Ok.cell o2 c1
        have d2 := Ok.cell o2 d1
        go_wp2_with fail
        refine (hlo _).mono ?_
        rintro _ w3 ⟨rfl, o3⟩
        go_wp2_with fail
        refine (hbe _).mono ?_
        rintro _ w4 ⟨rfl, o4⟩
        go_wp2
        go_ret
        exact ⟨by rw [er.out]; first | rfl | simp, Ok.call (Ok.call (Ok.call (Ok.call (Ok.alloc (Ok.refl w) _) o1) o2) o3) o4⟩
      | false =>
        rw [h3] at hbe er
        go_enter Tryz.func80, Tryz.ntmps80
        go_wp2_with fail
        refine (hr _).mono ?_
        rintro _ w1 ⟨rfl, o1⟩
        have c1 : w1.cell? ⟨w.heap.size, 0, none⟩ = some (.string lo) := Ok.cell o1 (by go_cell)
        have d1 : w1.cell? ⟨w.heap.size, 1, none⟩ = some (.string hi) := Ok.cell o1 (by go_cell)
        go_wp2_with fail
        refine (hk _).mono ?_
        rintro _ w2 ⟨rfl, o2⟩
        have c2 := Ok.cell o2 c1
        have d2 := Ok.cell o2 d1
        go_wp2_with fail
        refine (hlo _).mono ?_
        rintro _ w3 ⟨rfl, o3⟩
        have c3 := Ok.cell o3 c2
        have d3 := Ok.cell o3 d2
        go_wp2_with fail
        refine (hbe _).mono ?_
        rintro _ w4 ⟨rfl, o4⟩
        have c4 := Ok.cell o4 c3
        have d4 := Ok.cell o4 d3
        go_wp2_with fail
        refine (hhi _).mono ?_
        rintro _ w5 ⟨rfl, o5⟩
        go_wp2_with fail
        refine (hab _).mono ?_
        rintro _ w6 ⟨rfl, o6⟩
        go_wp2
        go_ret
        exact ⟨by rw [er.out]; first | rfl | simp, Ok.call (Ok.call (Ok.call (Ok.call (Ok.call (Ok.call (Ok.alloc (Ok.refl w) _) o1) o2) o3) o4) o5) o6⟩

end Go.Proofs.YtebhcadolnjplaaGreat
