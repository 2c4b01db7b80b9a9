/- Handoffs as values; the small functions of scheme. -/
import Derived.Test.YtdabdkedgigjdaaGreatSi
namespace Go.Proofs.YtdabdkedgigjdaaGreat
open Go.RowKit

structure Sc where
  num : Int
  sp : Sp
  fr : Int
  to : Int
  ep : Int
  un : Int
  st : Int
def scV (x : Sc) : Value := .agg #[.int .i64 x.num, .string x.sp.lo, .string x.sp.hi, .int .i64 x.fr, .int .i64 x.to, .int .i64 x.ep, .int .i64 x.un, .int .u8 x.st]
def sc0 : Sc := ⟨0, allS, 0, 0, 0, 0, 0⟩
def upM (m n : Int) : Bool := decide (1 ≤ n) && decide (n ≤ m)
def stB (s : Int) : Bool := decide (1 ≤ s) && decide (s ≤ 9)
def tuB (s : Int) : Bool := decide (4 ≤ s) && decide (s ≤ 6)
def unB (x : Sc) : Bool := if tuB x.st = true then decide (x.ep < x.un) && decide (x.un ≤ 1073741824) else (x.un == 0)
def sc1 (x : Sc) : Bool := upM 1073741824 x.num && rightB x.sp && upM 4 x.fr && upM 4 x.to && !(x.fr == x.to)
def sc2 (x : Sc) : Bool := upM 1073741824 x.ep && stB x.st
def scB (x : Sc) : Bool := sc1 x && sc2 x && unB x
def overB (s : Int) : Bool := (s == 6) || (s == 9)

set_option maxHeartbeats 400000 in
theorem upTo_w (m n : Int) (w : World) : Calls Tryz.prog 80 #[.int .i64 m, .int .i64 n] w (Ret w (.bool (upM m n))) := by
  unfold upM
  cases h1 : decide (1 ≤ n) with
  | true =>
    go_enter Tryz.func80, Tryz.ntmps80
    go_wp2
    go_ret
    exact ⟨by first | rfl | simp, Ok.refl w⟩
  | false =>
    go_enter Tryz.func80, Tryz.ntmps80
    go_wp2
    go_ret
    exact ⟨by first | rfl | simp, Ok.refl w⟩
set_option maxHeartbeats 400000 in
theorem stage_w (s : Int) (w : World) : Calls Tryz.prog 111 #[.int .u8 s] w (Ret w (.bool (stB s))) := by
  unfold stB
  cases h1 : decide (1 ≤ s) with
  | true =>
    go_enter Tryz.func111, Tryz.ntmps111
    go_wp2
    go_ret
    exact ⟨by first | rfl | simp, Ok.refl w⟩
  | false =>
    go_enter Tryz.func111, Tryz.ntmps111
    go_wp2
    go_ret
    exact ⟨by first | rfl | simp, Ok.refl w⟩
set_option maxRecDepth 100000 in
set_option maxHeartbeats 4000000 in
theorem over_w (x : Sc) (w : World) : Calls Tryz.prog 35 #[scV x] w (Ret w (.bool (overB x.st))) := by
  obtain ⟨num, ⟨lo, hi⟩, fr, to, ep, un, st⟩ := x
  unfold overB scV
  simp only
  cases h1 : st == 6 with
  | true =>
    go_enter Tryz.func35, Tryz.ntmps35
    go_wp2
    go_ret
    exact ⟨by first | rfl | simp, Ok.alloc (Ok.refl w) _⟩
  | false =>
    go_enter Tryz.func35, Tryz.ntmps35
    go_wp2
    go_ret
    exact ⟨by first | rfl | simp, Ok.alloc (Ok.refl w) _⟩
set_option maxRecDepth 100000 in
set_option maxHeartbeats 4000000 in
theorem turned_w (x : Sc) (w : World) : Calls Tryz.prog 112 #[scV x] w (Ret w (.bool (tuB x.st))) := by
  obtain ⟨num, ⟨lo, hi⟩, fr, to, ep, un, st⟩ := x
  unfold tuB scV
  simp only
  cases h1 : decide (4 ≤ st) with
  | true =>
    go_enter Tryz.func112, Tryz.ntmps112
    go_wp2
    go_ret
    exact ⟨by first | rfl | simp, Ok.alloc (Ok.refl w) _⟩
  | false =>
    go_enter Tryz.func112, Tryz.ntmps112
    go_wp2
    go_ret
    exact ⟨by first | rfl | simp, Ok.alloc (Ok.refl w) _⟩
end Go.Proofs.YtdabdkedgigjdaaGreat
