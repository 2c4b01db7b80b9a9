/- Rows of shares that are the same. -/
import Derived.Test.YtdabdkedgigjdaaSf
import Derived.BigQuiet
namespace Go.Proofs.Ytdabdkedgigjdaa
open Go.RowKit

set_option maxRecDepth 100000 in
set_option maxHeartbeats 1000000 in
theorem sameRows_w (A B : Option Addr) (n c d : Nat) (xs : List Sh) (hn : xs.length = n) (hn6 : n ≤ 1000) (w : World) (hA : SharesAt w A xs) (hB : SharesAt w B xs) :
    Calls Try.prog 28 #[.slice A n c, .slice B n d] w (Ret w (.bool true)) := by
  have HA := Lib.hid hA
  have HB := Lib.hid hB
  have HN := Lib.hid hn
  clear hA hB hn
  go_enter Try.func28, Try.ntmps28
  go_wp2_with fail
  go_loopw [5] (fun i wr => ∃ k : Nat, k ≤ n ∧ i = .int .i64 k ∧ Ok w wr) (fun i _ => n - (intOf i).toNat)
  case atStart => exact ⟨0, Nat.zero_le _, rfl, Ok.refl _⟩
  case round =>
    obtain ⟨k, hk, rfl, ok⟩ := hrel
    by_cases hlt : k < n
    · have d1 : decide (k < n) = true := decide_eq_true hlt
      obtain ⟨b, o, e1, p0, p1, p2, p3⟩ := HA.out k (by rw [HN.out]; exact hlt)
      obtain ⟨b2, o2, e2, q0, q1, q2, q3⟩ := HB.out k (by rw [HN.out]; exact hlt)
      subst e1 e2
      replace p0 := Ok.cell ok p0; replace p1 := Ok.cell ok p1; replace p2 := Ok.cell ok p2; replace p3 := Ok.cell ok p3; replace q0 := Ok.cell ok q0; replace q1 := Ok.cell ok q1; replace q2 := Ok.cell ok q2; replace q3 := Ok.cell ok q3
      have OK := Lib.hid ok
      clear ok
      generalize (at2 xs k).sp.lo = lo at p0 q0
      generalize (at2 xs k).sp.hi = hi at p1 q1
      generalize (at2 xs k).g = g at p2 q2
      generalize (at2 xs k).e = e at p3 q3
      have hj0 : (0 : Int) ≤ (k : Int) := Int.natCast_nonneg _
      have hj1 : (k : Int) < (n : Int) := by omega
      go_wp2_with fail
      go_quiet (fail)
      go_wp2
      refine ⟨⟨k + 1, hlt, by go_num, Ok.trans' OK.out ⟨rfl, rfl, rfl, Nat.le_refl _, fun _ _ => rfl⟩⟩, ?_⟩
      rw [show Value.int IntKind.i64 ((k : Int) + 1) = Value.int .i64 ((k + 1 : Nat) : Int) by go_num]
      simp only [intOf]
      omega
    · have d1 : decide (k < n) = false := decide_eq_false hlt
      have OK := Lib.hid ok
      clear ok
      go_wp2
      go_ret
      exact ⟨rfl, OK.out⟩
set_option maxRecDepth 100000 in
set_option maxHeartbeats 1000000 in
theorem sameSh_w (ep : Int) (A B : Option Addr) (n c d : Nat) (xs : List Sh) (hn : xs.length = n) (hn6 : n ≤ 1000) (w : World) (hA : SharesAt w A xs) (hB : SharesAt w B xs) :
    Calls Try.prog 12 #[.agg #[.int .i64 ep, .slice A n c], .agg #[.int .i64 ep, .slice B n d]] w (Ret w (.bool true)) := by
  have HR := Lib.hid (fun w' (k : Ok w w') => sameRows_w A B n c d xs hn hn6 w' (hA.ok k) (hB.ok k))
  clear hA hB hn
  go_enter Try.func12, Try.ntmps12
  go_wp2_with fail
  have OK := Lib.hid (Ok.alloc (Ok.alloc (Ok.refl w) (.cells #[.int .i64 ep, .slice A n c] 24)) (.cells #[.int .i64 ep, .slice B n d] 24))
  (with_reducible refine (HR.out _ OK.out).mono ?_)
  rintro _ w1 ⟨rfl, o1⟩
  go_wp2
  go_ret
  exact ⟨rfl, Ok.call OK.out o1⟩
end Go.Proofs.Ytdabdkedgigjdaa
