/- Writers and readers that are none. -/
import Derived.Test.YtolfdncmlfnbdaaHn
namespace Go.Proofs.Ytolfdncmlfnbdaa
open Go.RowKit

/-- What is told, and nothing turned. -/
def Still (w : World) (v : Value) (e : Ending) (w' : World) : Prop := e = .returned v ∧ w = w'
set_option maxHeartbeats 400000 in
theorem none_n (w : World) : Calls Try.prog 83 #[.pointer none] w (Still w (.bool true)) := by
  go_enter Try.func83, Try.ntmps83
  go_wp2
  go_ret
  exact ⟨rfl, rfl⟩
set_option maxHeartbeats 400000 in
theorem nums_n (w : World) (v : Value) : Calls Try.prog 14 #[.pointer none, v] w (Still w (.pointer none)) := by
  go_enter Try.func14, Try.ntmps14
  go_wp2_with fail
  refine (none_n w).mono ?_
  rintro _ w1 ⟨rfl, rfl⟩
  go_wp2_with fail
  go_ret
  exact ⟨rfl, rfl⟩
set_option maxHeartbeats 400000 in
theorem flags_n (w : World) (v : Value) : Calls Try.prog 15 #[.pointer none, v] w (Still w (.pointer none)) := by
  go_enter Try.func15, Try.ntmps15
  go_wp2_with fail
  refine (none_n w).mono ?_
  rintro _ w1 ⟨rfl, rfl⟩
  go_wp2_with fail
  go_ret
  exact ⟨rfl, rfl⟩
set_option maxHeartbeats 400000 in
theorem texts_n (w : World) (v : Value) : Calls Try.prog 16 #[.pointer none, v] w (Still w (.pointer none)) := by
  go_enter Try.func16, Try.ntmps16
  go_wp2_with fail
  refine (none_n w).mono ?_
  rintro _ w1 ⟨rfl, rfl⟩
  go_wp2_with fail
  go_ret
  exact ⟨rfl, rfl⟩
set_option maxHeartbeats 400000 in
theorem rows_n (w : World) (v : Value) : Calls Try.prog 17 #[.pointer none, v] w (Still w (.pointer none)) := by
  go_enter Try.func17, Try.ntmps17
  go_wp2_with fail
  refine (none_n w).mono ?_
  rintro _ w1 ⟨rfl, rfl⟩
  go_wp2_with fail
  go_ret
  exact ⟨rfl, rfl⟩
set_option maxHeartbeats 400000 in
theorem done_n (w : World) : Calls Try.prog 18 #[.pointer none] w (Still w (.tuple #[.slice none 0 0, .int .i64 1])) := by
  go_enter Try.func18, Try.ntmps18
  go_wp2_with fail
  refine (none_n w).mono ?_
  rintro _ w1 ⟨rfl, rfl⟩
  go_wp2_with fail
  go_ret2
  exact ⟨rfl, rfl⟩
set_option maxHeartbeats 400000 in
theorem none_v (w : World) (g : Nat) (h2 : w.cell? ⟨g, 2, none⟩ = some (.bool false)) : Calls Try.prog 83 #[.pointer (some ⟨g, 0, none⟩)] w (Still w (.bool true)) := by
  go_enter Try.func83, Try.ntmps83
  go_wp2
  go_ret
  exact ⟨rfl, rfl⟩
set_option maxHeartbeats 400000 in
theorem nums_v (w : World) (v : Value) (g : Nat) (h2 : w.cell? ⟨g, 2, none⟩ = some (.bool false)) : Calls Try.prog 14 #[.pointer (some ⟨g, 0, none⟩), v] w (Still w (.pointer (some ⟨g, 0, none⟩))) := by
  go_enter Try.func14, Try.ntmps14
  go_wp2_with fail
  refine (none_v w g h2).mono ?_
  rintro _ w1 ⟨rfl, rfl⟩
  go_wp2_with fail
  go_ret
  exact ⟨rfl, rfl⟩
set_option maxHeartbeats 400000 in
theorem flags_v (w : World) (v : Value) (g : Nat) (h2 : w.cell? ⟨g, 2, none⟩ = some (.bool false)) : Calls Try.prog 15 #[.pointer (some ⟨g, 0, none⟩), v] w (Still w (.pointer (some ⟨g, 0, none⟩))) := by
  go_enter Try.func15, Try.ntmps15
  go_wp2_with fail
  refine (none_v w g h2).mono ?_
  rintro _ w1 ⟨rfl, rfl⟩
  go_wp2_with fail
  go_ret
  exact ⟨rfl, rfl⟩
set_option maxHeartbeats 400000 in
theorem texts_v (w : World) (v : Value) (g : Nat) (h2 : w.cell? ⟨g, 2, none⟩ = some (.bool false)) : Calls Try.prog 16 #[.pointer (some ⟨g, 0, none⟩), v] w (Still w (.pointer (some ⟨g, 0, none⟩))) := by
  go_enter Try.func16, Try.ntmps16
  go_wp2_with fail
  refine (none_v w g h2).mono ?_
  rintro _ w1 ⟨rfl, rfl⟩
  go_wp2_with fail
  go_ret
  exact ⟨rfl, rfl⟩
set_option maxHeartbeats 400000 in
theorem rows_v (w : World) (v : Value) (g : Nat) (h2 : w.cell? ⟨g, 2, none⟩ = some (.bool false)) : Calls Try.prog 17 #[.pointer (some ⟨g, 0, none⟩), v] w (Still w (.pointer (some ⟨g, 0, none⟩))) := by
  go_enter Try.func17, Try.ntmps17
  go_wp2_with fail
  refine (none_v w g h2).mono ?_
  rintro _ w1 ⟨rfl, rfl⟩
  go_wp2_with fail
  go_ret
  exact ⟨rfl, rfl⟩
set_option maxHeartbeats 400000 in
theorem done_v (w : World) (g : Nat) (h2 : w.cell? ⟨g, 2, none⟩ = some (.bool false)) : Calls Try.prog 18 #[.pointer (some ⟨g, 0, none⟩)] w (Still w (.tuple #[.slice none 0 0, .int .i64 1])) := by
  go_enter Try.func18, Try.ntmps18
  go_wp2_with fail
  refine (none_v w g h2).mono ?_
  rintro _ w1 ⟨rfl, rfl⟩
  go_wp2_with fail
  go_ret2
  exact ⟨rfl, rfl⟩
set_option maxHeartbeats 400000 in
theorem dead_n (w : World) : Calls Try.prog 94 #[.pointer none] w (Still w (.bool true)) := by
  go_enter Try.func94, Try.ntmps94
  go_wp2
  go_ret
  exact ⟨rfl, rfl⟩
set_option maxHeartbeats 400000 in
theorem num_n (w : World) (m : Int) : Calls Try.prog 27 #[.pointer none, .int .i64 m] w (Still w (.int .i64 0)) := by
  go_enter Try.func27, Try.ntmps27
  go_wp2_with fail
  refine (dead_n w).mono ?_
  rintro _ w1 ⟨rfl, rfl⟩
  go_wp2_with fail
  go_ret
  exact ⟨rfl, rfl⟩
set_option maxHeartbeats 400000 in
theorem left_n (w : World) : Calls Try.prog 34 #[.pointer none] w (Still w (.int .i64 0)) := by
  go_enter Try.func34, Try.ntmps34
  go_wp2_with fail
  refine (dead_n w).mono ?_
  rintro _ w1 ⟨rfl, rfl⟩
  go_wp2_with fail
  go_ret
  exact ⟨rfl, rfl⟩
set_option maxHeartbeats 400000 in
theorem end_n (w : World) : Calls Try.prog 35 #[.pointer none] w (Still w (.int .i64 1)) := by
  go_enter Try.func35, Try.ntmps35
  go_wp2
  go_ret
  exact ⟨rfl, rfl⟩
set_option maxHeartbeats 400000 in
theorem flag_n (w : World) : Calls Try.prog 29 #[.pointer none] w (Still w (.bool false)) := by
  go_enter Try.func29, Try.ntmps29
  go_wp2_with fail
  refine (dead_n w).mono ?_
  rintro _ w1 ⟨rfl, rfl⟩
  go_wp2_with fail
  go_ret
  exact ⟨rfl, rfl⟩
set_option maxHeartbeats 400000 in
theorem text_n (w : World) (m : Int) : Calls Try.prog 31 #[.pointer none, .int .i64 m] w (Still w (.string ⟨#[]⟩)) := by
  go_enter Try.func31, Try.ntmps31
  go_wp2_with fail
  refine (dead_n w).mono ?_
  rintro _ w1 ⟨rfl, rfl⟩
  go_wp2_with fail
  go_ret
  exact ⟨rfl, rfl⟩
set_option maxHeartbeats 400000 in
theorem row_n (w : World) (m : Int) : Calls Try.prog 33 #[.pointer none, .int .i64 m] w (Still w (.slice none 0 0)) := by
  go_enter Try.func33, Try.ntmps33
  go_wp2_with fail
  refine (dead_n w).mono ?_
  rintro _ w1 ⟨rfl, rfl⟩
  go_wp2_with fail
  go_ret
  exact ⟨rfl, rfl⟩
set_option maxHeartbeats 400000 in
theorem dead_v (w : World) (g : Nat) (h2 : w.cell? ⟨g, 2, none⟩ = some (.bool false)) : Calls Try.prog 94 #[.pointer (some ⟨g, 0, none⟩)] w (Still w (.bool true)) := by
  go_enter Try.func94, Try.ntmps94
  go_wp2
  go_ret
  exact ⟨rfl, rfl⟩
set_option maxHeartbeats 400000 in
theorem num_v (w : World) (m : Int) (g : Nat) (h2 : w.cell? ⟨g, 2, none⟩ = some (.bool false)) : Calls Try.prog 27 #[.pointer (some ⟨g, 0, none⟩), .int .i64 m] w (Still w (.int .i64 0)) := by
  go_enter Try.func27, Try.ntmps27
  go_wp2_with fail
  refine (dead_v w g h2).mono ?_
  rintro _ w1 ⟨rfl, rfl⟩
  go_wp2_with fail
  go_ret
  exact ⟨rfl, rfl⟩
set_option maxHeartbeats 400000 in
theorem left_v (w : World) (g : Nat) (h2 : w.cell? ⟨g, 2, none⟩ = some (.bool false)) : Calls Try.prog 34 #[.pointer (some ⟨g, 0, none⟩)] w (Still w (.int .i64 0)) := by
  go_enter Try.func34, Try.ntmps34
  go_wp2_with fail
  refine (dead_v w g h2).mono ?_
  rintro _ w1 ⟨rfl, rfl⟩
  go_wp2_with fail
  go_ret
  exact ⟨rfl, rfl⟩
set_option maxHeartbeats 400000 in
theorem end_v (w : World) (g : Nat) (h2 : w.cell? ⟨g, 2, none⟩ = some (.bool false)) : Calls Try.prog 35 #[.pointer (some ⟨g, 0, none⟩)] w (Still w (.int .i64 1)) := by
  go_enter Try.func35, Try.ntmps35
  go_wp2
  go_ret
  exact ⟨rfl, rfl⟩
end Go.Proofs.Ytolfdncmlfnbdaa
