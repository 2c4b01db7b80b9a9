/- Whether a handoff is right: one, a row of them. -/
import Derived.Test.YtdabdkedgigjdaaGreatYb
namespace Go.Proofs.YtdabdkedgigjdaaGreat
open Go.RowKit

set_option maxRecDepth 100000 in
set_option maxHeartbeats 8000000 in
theorem right1_w (x : Sc) (w : World) : Calls Tryz.prog 83 #[scV x] w (Ret w (.bool (scB x))) := by
  obtain ⟨num, ⟨lo, hi⟩, fr, to, ep, un, st⟩ := x
  have hu1 := upTo_w 1073741824 num
  have hu2 := upTo_w 4 fr
  have hu3 := upTo_w 4 to
  have hu4 := upTo_w 1073741824 ep
  have hri := right_w ⟨lo, hi⟩
  have hst := stage_w st
  have htu := turned_w ⟨num, ⟨lo, hi⟩, fr, to, ep, un, st⟩
  obtain ⟨R, hR⟩ : ∃ R, scB ⟨num, ⟨lo, hi⟩, fr, to, ep, un, st⟩ = R := ⟨_, rfl⟩
  rw [hR]
  have er : R = ((upM 1073741824 num && rightB ⟨lo, hi⟩ && upM 4 fr && upM 4 to && !(fr == to)) && (upM 1073741824 ep && stB st) && (if tuB st = true then decide (ep < un) && decide (un ≤ 1073741824) else (un == 0))) := hR.symm
  clear hR
  unfold scV at htu ⊢
  unfold spV at hri
  simp only at hri htu ⊢
  have E0 : (w.alloc (.cells #[.int .i64 num, .string lo, .string hi, .int .i64 fr, .int .i64 to, .int .i64 ep, .int .i64 un, .int .u8 st] 114)).cell? ⟨w.heap.size, 0, none⟩ = some (.int .i64 num) := by go_cell
  have E1 : (w.alloc (.cells #[.int .i64 num, .string lo, .string hi, .int .i64 fr, .int .i64 to, .int .i64 ep, .int .i64 un, .int .u8 st] 114)).cell? ⟨w.heap.size, 1, none⟩ = some (.string lo) := by go_cell
  have E2 : (w.alloc (.cells #[.int .i64 num, .string lo, .string hi, .int .i64 fr, .int .i64 to, .int .i64 ep, .int .i64 un, .int .u8 st] 114)).cell? ⟨w.heap.size, 2, none⟩ = some (.string hi) := by go_cell
  have E3 : (w.alloc (.cells #[.int .i64 num, .string lo, .string hi, .int .i64 fr, .int .i64 to, .int .i64 ep, .int .i64 un, .int .u8 st] 114)).cell? ⟨w.heap.size, 3, none⟩ = some (.int .i64 fr) := by go_cell
  have E4 : (w.alloc (.cells #[.int .i64 num, .string lo, .string hi, .int .i64 fr, .int .i64 to, .int .i64 ep, .int .i64 un, .int .u8 st] 114)).cell? ⟨w.heap.size, 4, none⟩ = some (.int .i64 to) := by go_cell
  have E5 : (w.alloc (.cells #[.int .i64 num, .string lo, .string hi, .int .i64 fr, .int .i64 to, .int .i64 ep, .int .i64 un, .int .u8 st] 114)).cell? ⟨w.heap.size, 5, none⟩ = some (.int .i64 ep) := by go_cell
  have E6 : (w.alloc (.cells #[.int .i64 num, .string lo, .string hi, .int .i64 fr, .int .i64 to, .int .i64 ep, .int .i64 un, .int .u8 st] 114)).cell? ⟨w.heap.size, 6, none⟩ = some (.int .i64 un) := by go_cell
  have E7 : (w.alloc (.cells #[.int .i64 num, .string lo, .string hi, .int .i64 fr, .int .i64 to, .int .i64 ep, .int .i64 un, .int .u8 st] 114)).cell? ⟨w.heap.size, 7, none⟩ = some (.int .u8 st) := by go_cell
  have okA : Ok w (w.alloc (.cells #[.int .i64 num, .string lo, .string hi, .int .i64 fr, .int .i64 to, .int .i64 ep, .int .i64 un, .int .u8 st] 114)) := Ok.alloc (Ok.refl w) _
  obtain ⟨ft, hft⟩ : ∃ f, (fr == to) = f := ⟨_, rfl⟩
  rw [hft] at er
  obtain ⟨lt, hlt⟩ : ∃ f, decide (ep < un) = f := ⟨_, rfl⟩
  rw [hlt] at er
  obtain ⟨zu, hzu⟩ : ∃ f, (un == 0) = f := ⟨_, rfl⟩
  rw [hzu] at er
  obtain ⟨lu, hlu⟩ : ∃ f, decide (un ≤ 1073741824) = f := ⟨_, rfl⟩
  rw [hlu] at er
  go_enter Tryz.func83, Tryz.ntmps83
  generalize upM 1073741824 num = u1 at hu1 er ⊢
  generalize rightB ⟨lo, hi⟩ = ri at hri er ⊢
  generalize upM 4 fr = u2 at hu2 er ⊢
  generalize upM 4 to = u3 at hu3 er ⊢
  generalize upM 1073741824 ep = u4 at hu4 er ⊢
  generalize stB st = sb at hst er ⊢
  generalize tuB st = tb at htu er ⊢
  replace er := Lib.hid er
  generalize hW : w.alloc (.cells #[.int .i64 num, .string lo, .string hi, .int .i64 fr, .int .i64 to, .int .i64 ep, .int .i64 un, .int .u8 st] 114) = W at E0 E1 E2 E3 E4 E5 E6 E7 okA
  go_wp2_with fail
  clear hW
  refine (hu1 _).mono ?_
  rintro _ w1 ⟨rfl, o1⟩
  replace E0 := Ok.cell o1 E0; replace E1 := Ok.cell o1 E1; replace E2 := Ok.cell o1 E2; replace E3 := Ok.cell o1 E3; replace E4 := Ok.cell o1 E4; replace E5 := Ok.cell o1 E5; replace E6 := Ok.cell o1 E6; replace E7 := Ok.cell o1 E7
  replace okA := Ok.call okA o1
  clear o1
  cases u1 with
  | false =>
    go_wp2
    go_ret
    exact ⟨by rw [er.out]; simp, okA⟩
  | true =>
  go_wp2_with fail
  refine (hri _).mono ?_
  rintro _ w1 ⟨rfl, o1⟩
  replace E0 := Ok.cell o1 E0; replace E3 := Ok.cell o1 E3; replace E4 := Ok.cell o1 E4; replace E5 := Ok.cell o1 E5; replace E6 := Ok.cell o1 E6; replace E7 := Ok.cell o1 E7; replace E1 := Ok.cell o1 E1; replace E2 := Ok.cell o1 E2
  replace okA := Ok.call okA o1
  clear o1
  cases ri with
  | false =>
    go_wp2
    go_ret
    exact ⟨by rw [er.out]; simp, okA⟩
  | true =>
  go_wp2_with fail
  refine (hu2 _).mono ?_
  rintro _ w1 ⟨rfl, o1⟩
  replace E0 := Ok.cell o1 E0; replace E3 := Ok.cell o1 E3; replace E4 := Ok.cell o1 E4; replace E5 := Ok.cell o1 E5; replace E6 := Ok.cell o1 E6; replace E7 := Ok.cell o1 E7; replace E1 := Ok.cell o1 E1; replace E2 := Ok.cell o1 E2
  replace okA := Ok.call okA o1
  clear o1
  cases u2 with
  | false =>
    go_wp2
    go_ret
    exact ⟨by rw [er.out]; simp, okA⟩
  | true =>
  go_wp2_with fail
  refine (hu3 _).mono ?_
  rintro _ w1 ⟨rfl, o1⟩
  replace E0 := Ok.cell o1 E0; replace E3 := Ok.cell o1 E3; replace E4 := Ok.cell o1 E4; replace E5 := Ok.cell o1 E5; replace E6 := Ok.cell o1 E6; replace E7 := Ok.cell o1 E7; replace E1 := Ok.cell o1 E1; replace E2 := Ok.cell o1 E2
  replace okA := Ok.call okA o1
  clear o1
  cases u3 with
  | false =>
    go_wp2
    go_ret
    exact ⟨by rw [er.out]; simp, okA⟩
  | true =>
  cases ft with
  | true =>
    go_wp2
    go_ret
    exact ⟨by rw [er.out]; simp, okA⟩
  | false =>
  go_wp2_with fail
  refine (hu4 _).mono ?_
  rintro _ w1 ⟨rfl, o1⟩
  replace E0 := Ok.cell o1 E0; replace E3 := Ok.cell o1 E3; replace E4 := Ok.cell o1 E4; replace E5 := Ok.cell o1 E5; replace E6 := Ok.cell o1 E6; replace E7 := Ok.cell o1 E7; replace E1 := Ok.cell o1 E1; replace E2 := Ok.cell o1 E2
  replace okA := Ok.call okA o1
  clear o1
  cases u4 with
  | false =>
    go_wp2
    go_ret
    exact ⟨by rw [er.out]; simp, okA⟩
  | true =>
  go_wp2_with fail
  refine (hst _).mono ?_
  rintro _ w1 ⟨rfl, o1⟩
  replace E0 := Ok.cell o1 E0; replace E3 := Ok.cell o1 E3; replace E4 := Ok.cell o1 E4; replace E5 := Ok.cell o1 E5; replace E6 := Ok.cell o1 E6; replace E7 := Ok.cell o1 E7; replace E1 := Ok.cell o1 E1; replace E2 := Ok.cell o1 E2
  replace okA := Ok.call okA o1
  clear o1
  cases sb with
  | false =>
    go_wp2
    go_ret
    exact ⟨by rw [er.out]; simp, okA⟩
  | true =>
  go_wp2_with fail
  refine (htu _).mono ?_
  rintro _ w1 ⟨rfl, o1⟩
  replace E5 := Ok.cell o1 E5; replace E6 := Ok.cell o1 E6; replace E7 := Ok.cell o1 E7
  replace okA := Ok.call okA o1
  clear o1
  cases tb with
  | false =>
    go_wp2
    go_ret
    exact ⟨by rw [er.out]; simp, okA⟩
  | true =>
    cases lt with
    | false =>
      go_wp2
      go_ret
      exact ⟨by rw [er.out]; simp, okA⟩
    | true =>
      go_wp2
      go_ret
      exact ⟨by rw [er.out]; simp, okA⟩
set_option maxRecDepth 100000 in
set_option maxHeartbeats 4000000 in
theorem notSc_c (x : Sc) (w : World) : Calls Tryz.prog 82 #[scV x] w (Ret w (.bool (!scB x))) := by
  have hr := right1_w x
  obtain ⟨num, ⟨lo, hi⟩, fr, to, ep, un, st⟩ := x
  generalize scB ⟨num, ⟨lo, hi⟩, fr, to, ep, un, st⟩ = r at hr ⊢
  unfold scV at hr ⊢
  simp only at hr ⊢
  go_enter Tryz.func82, Tryz.ntmps82
  go_wp2_with fail
  refine (hr _).mono ?_
  rintro _ w1 ⟨rfl, o1⟩
  go_wp2
  go_ret
  exact ⟨rfl, Ok.call (Ok.alloc (Ok.refl w) _) o1⟩
end Go.Proofs.YtdabdkedgigjdaaGreat
