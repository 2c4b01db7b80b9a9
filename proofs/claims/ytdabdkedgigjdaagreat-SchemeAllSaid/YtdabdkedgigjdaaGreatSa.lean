/- Shares: what they are as values and in memory; contracts of the small functions and of the closures. -/
import Derived.Test.YtdabdkedgigjdaaGreatU
import Derived.Test.YtdabdkedgigjdaaGreatO
namespace Go.Proofs.YtdabdkedgigjdaaGreat
open Go.RowKit

structure Sh where
  sp : Sp
  g : Int
  e : Int
def shV (x : Sh) : Value := .agg #[.string x.sp.lo, .string x.sp.hi, .int .i64 x.g, .int .i64 x.e]
def sh0 : Sh := ⟨allS, 0, 0⟩
def groupB (g : Int) : Bool := decide (1 ≤ g) && decide (g ≤ 4)
def shOkB (ep : Int) (x : Sh) : Bool := groupB x.g && decide (1 ≤ x.e) && decide (x.e ≤ ep)
def sharesB (ep : Int) (xs : List Sh) : Bool := decide (xs.length ≤ 40) && decide (1 ≤ ep) && decide (ep ≤ 1073741824) && partsM (xs.map (·.sp)) && xs.all (shOkB ep)
def at2 (xs : List Sh) (j : Nat) : Sh := xs[j]?.getD sh0
/-- These shares, from an address on. -/
def SharesAt (W : World) (A : Option Addr) (xs : List Sh) : Prop := ∀ j, j < xs.length → ∃ b off, A = some ⟨b, off, none⟩ ∧ W.cell? ⟨b, off + j * 4, none⟩ = some (.string (at2 xs j).sp.lo) ∧ W.cell? ⟨b, off + j * 4 + 1, none⟩ = some (.string (at2 xs j).sp.hi) ∧
  W.cell? ⟨b, off + j * 4 + 2, none⟩ = some (.int .i64 (at2 xs j).g) ∧ W.cell? ⟨b, off + j * 4 + 3, none⟩ = some (.int .i64 (at2 xs j).e)
theorem SharesAt.ok {W W' : World} {A : Option Addr} {xs : List Sh} (h : SharesAt W A xs) (k : Ok W W') : SharesAt W' A xs := fun j hj => by
  obtain ⟨b, off, e, c0, c1, c2, c3⟩ := h j hj
  exact ⟨b, off, e, Ok.cell k c0, Ok.cell k c1, Ok.cell k c2, Ok.cell k c3⟩

set_option maxHeartbeats 400000 in
theorem group_w (g : Int) (w : World) : Calls Tryz.prog 50 #[.int .i64 g] w (Ret w (.bool (groupB g))) := by
  unfold groupB
  cases h1 : decide (1 ≤ g) with
  | true =>
    go_enter Tryz.func50, Tryz.ntmps50
    go_wp2
    go_ret
    exact ⟨by first | rfl | simp, Ok.refl w⟩
  | false =>
    go_enter Tryz.func50, Tryz.ntmps50
    go_wp2
    go_ret
    exact ⟨by first | rfl | simp, Ok.refl w⟩

set_option maxRecDepth 100000 in
set_option maxHeartbeats 4000000 in
theorem rightOne_w (ep : Int) (v : Value) (x : Sh) (A : Option Addr) (n c : Nat) (hv : v = .slice A n c) (w : World) : Calls Tryz.prog 68 #[.agg #[.int .i64 ep, v], shV x] w (Ret w (.bool (shOkB ep x))) := by
  subst hv
  obtain ⟨R, hR⟩ : ∃ R, shOkB ep x = R := ⟨_, rfl⟩
  rw [hR]
  have er : Hid (R = (groupB x.g && decide (1 ≤ x.e) && decide (x.e ≤ ep))) := Lib.hid hR.symm
  clear hR
  obtain ⟨⟨xl, xh⟩, g, e⟩ := x
  simp only at er
  have hg := group_w g
  unfold shV
  simp only
  cases h1 : groupB g with
  | false =>
    rw [h1] at hg er
    go_enter Tryz.func68, Tryz.ntmps68
    go_wp2_with fail
    refine (hg _).mono ?_
    rintro _ w1 ⟨rfl, o1⟩
    go_wp2
    go_ret
    exact ⟨by rw [er.out]; first | rfl | simp, Ok.call (Ok.alloc (Ok.alloc (Ok.refl w) _) _) o1⟩
  | true =>
    rw [h1] at hg er
    cases h2 : decide (1 ≤ e) with
    | false =>
      rw [h2] at er
      go_enter Tryz.func68, Tryz.ntmps68
      go_wp2_with fail
      refine (hg _).mono ?_
      rintro _ w1 ⟨rfl, o1⟩
      have E2 : w1.cell? ⟨w.heap.size + 1, 3, none⟩ = some (.int .i64 e) := Ok.cell o1 (by go_cell)
      go_wp2
      go_ret
      exact ⟨by rw [er.out]; first | rfl | simp, Ok.call (Ok.alloc (Ok.alloc (Ok.refl w) _) _) o1⟩
    | true =>
      rw [h2] at er
      go_enter Tryz.func68, Tryz.ntmps68
      go_wp2_with fail
      refine (hg _).mono ?_
      rintro _ w1 ⟨rfl, o1⟩
      have E2 : w1.cell? ⟨w.heap.size + 1, 3, none⟩ = some (.int .i64 e) := Ok.cell o1 (by go_cell)
      have E0 : w1.cell? ⟨w.heap.size, 0, none⟩ = some (.int .i64 ep) := Ok.cell o1 (by go_cell)
      go_wp2
      go_ret
      exact ⟨by rw [er.out]; first | rfl | simp, Ok.call (Ok.alloc (Ok.alloc (Ok.refl w) _) _) o1⟩

set_option maxRecDepth 100000 in
set_option maxHeartbeats 4000000 in
theorem notRight_c (ep : Int) (A : Option Addr) (n c p : Nat) (x : Sh) (w : World) (h0 : w.cell? ⟨p, 0, none⟩ = some (.int .i64 ep)) (h1 : w.cell? ⟨p, 1, none⟩ = some (.slice A n c)) :
    Calls Tryz.prog 67 #[shV x, .pointer (some ⟨p, 0, none⟩)] w (Ret w (.bool (!shOkB ep x))) := by
  have hr := rightOne_w ep _ x A n c rfl
  obtain ⟨⟨xl, xh⟩, g, e⟩ := x
  unfold shV at hr ⊢
  simp only at hr ⊢
  go_enter Tryz.func67, Tryz.ntmps67
  have hp := World.block_lt_of_cell? _ _ h0
  go_wp2_with fail
  refine (hr _).mono ?_
  rintro _ w1 ⟨rfl, o1⟩
  go_wp2
  go_ret
  exact ⟨rfl, Ok.call (Ok.alloc (Ok.refl w) _) o1⟩

set_option maxRecDepth 100000 in
set_option maxHeartbeats 4000000 in
theorem of_c (k : Str) (p : Nat) (x : Sh) (w : World) (h0 : w.cell? ⟨p, 0, none⟩ = some (.string k)) :
    Calls Tryz.prog 71 #[shV x, .pointer (some ⟨p, 0, none⟩)] w (Ret w (.bool (hasB x.sp k))) := by
  have hr := has_w x.sp k
  obtain ⟨⟨xl, xh⟩, g, e⟩ := x
  unfold spV at hr
  unfold shV
  simp only at hr ⊢
  go_enter Tryz.func71, Tryz.ntmps71
  have hp := World.block_lt_of_cell? _ _ h0
  go_wp2_with fail
  refine (hr _).mono ?_
  rintro _ w1 ⟨rfl, o1⟩
  go_wp2
  go_ret
  exact ⟨rfl, Ok.call (Ok.alloc (Ok.refl w) _) o1⟩

set_option maxRecDepth 100000 in
set_option maxHeartbeats 4000000 in
theorem in_c (s : Sp) (p : Nat) (x : Sh) (w : World) (h0 : w.cell? ⟨p, 0, none⟩ = some (.string s.lo)) (h1 : w.cell? ⟨p, 1, none⟩ = some (.string s.hi)) :
    Calls Tryz.prog 59 #[shV x, .pointer (some ⟨p, 0, none⟩)] w (Ret w (.bool (withinB s x.sp))) := by
  have hr := within_w s x.sp
  obtain ⟨⟨xl, xh⟩, g, e⟩ := x
  obtain ⟨sl, sh⟩ := s
  unfold spV at hr
  unfold shV
  simp only at hr h0 h1 ⊢
  go_enter Tryz.func59, Tryz.ntmps59
  have hp := World.block_lt_of_cell? _ _ h0
  go_wp2_with fail
  refine (hr _).mono ?_
  rintro _ w1 ⟨rfl, o1⟩
  go_wp2
  go_ret
  exact ⟨rfl, Ok.call (Ok.alloc (Ok.refl w) _) o1⟩

set_option maxRecDepth 100000 in
set_option maxHeartbeats 4000000 in
theorem turn_c (s : Sp) (p : Nat) (x : Sh) (w : World) (h0 : w.cell? ⟨p, 0, none⟩ = some (.string s.lo)) (h1 : w.cell? ⟨p, 1, none⟩ = some (.string s.hi)) :
    Calls Tryz.prog 52 #[shV x, .pointer (some ⟨p, 0, none⟩)] w (Ret w (.bool (withinB s x.sp))) := by
  have hr := within_w s x.sp
  obtain ⟨⟨xl, xh⟩, g, e⟩ := x
  obtain ⟨sl, sh⟩ := s
  unfold spV at hr
  unfold shV
  simp only at hr h0 h1 ⊢
  go_enter Tryz.func52, Tryz.ntmps52
  have hp := World.block_lt_of_cell? _ _ h0
  go_wp2_with fail
  refine (hr _).mono ?_
  rintro _ w1 ⟨rfl, o1⟩
  go_wp2
  go_ret
  exact ⟨rfl, Ok.call (Ok.alloc (Ok.refl w) _) o1⟩
end Go.Proofs.YtdabdkedgigjdaaGreat
