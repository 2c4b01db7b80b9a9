/- slices.Backward over numbers: told from behind. -/
import Derived.RangeFuncBox
import Derived.RangeFuncLeaves
import Derived.RangeFuncCalls
import Derived.Shelf.Abstract
import Derived.WalkKit
import Derived.OwnWalkIn
import Derived.TacticsInMore
import Derived.LoopNIn
import Derived.LoopIn
import Derived.Maps.AppendAt
import Derived.Test.YtebhcadolnjplaaGp
namespace Go.Proofs.Ytebhcadolnjplaa
open Go.RowKit Go.Shelf

attribute [local go_sem] Oper.semAt_some

def zAt (zs : List Int) (q : Nat) : Int := zs.getD q 0
/-- Places of a list, from behind. -/
abbrev Pl (n : Nat) := { q : Nat // q < n }
def Dn (n : Nat) (pre : List (Pl n)) : Prop := ∀ j, (hj : j < pre.length) → (pre[j]'hj).1 + 1 + j = n
theorem Dn.nil (n : Nat) : Dn n [] := fun _ hj => absurd hj (Nat.not_lt_zero _)
theorem Dn.snoc {n : Nat} {pre : List (Pl n)} (h : Dn n pre) (x : Pl n) (hx : x.1 + 1 + pre.length = n) : Dn n (pre ++ [x]) := fun j hj => by
  by_cases hlt : j < pre.length
  · rw [List.getElem_append_left hlt]; exact h j hlt
  · have : j = pre.length := by simp at hj; omega
    subst this
    rw [List.getElem_append_right (Nat.le_refl _)]
    simpa using hx
set_option maxRecDepth 100000 in
set_option maxHeartbeats 2000000 in
theorem back_in (n : Nat) (hn : 1 ≤ n) (l Bs n₀ b off len cap : Nat) (zs : List Int) (hreach : len ≤ 1000000) (hb : b < n₀) (hB : Bs < n₀) (J Jx : List (Pl len) → World → Prop)
    (hY : ∀ pre x W, J pre W → pre.length < len → YieldAt Fence.wide (n - 1) Try.prog l #[.int .i64 (x.1 : Int), .int .i64 (zAt zs x.1)] W fun e W' =>
      (e = .returned (.bool true) ∧ J (pre ++ [x]) W' ∧ Below n₀ W W') ∨ (e = .returned (.bool false) ∧ Jx (pre ++ [x]) W'))
    (W : World) (hBs : W.cell? ⟨Bs, 0, none⟩ = some (.slice (some ⟨b, off, none⟩) len cap)) (hc : ∀ j, j < len → W.cell? ⟨b, off + j, none⟩ = some (.int .i64 (zAt zs j))) (h0 : J [] W) :
    CallsIn Fence.wide n Try.prog 151 #[.func (.yield l) #[] #[], .pointer (some ⟨Bs, 0, none⟩)] W fun e W' => (∃ v, e = .returned v) ∧
      ((∃ ys, (Dn len ys ∧ ys.length = len) ∧ J ys W') ∨ (∃ pre, Dn len pre ∧ Jx pre W')) := by
  have e0 : IntKind.i64.wrap ((len : Int) - 1) = (len : Int) - 1 := IntWalk.i64_in _ (by omega)
  refine callsIn_of_wp Try.func151 rfl trivial ?_ rfl
  simp only [Try.ntmps151, List.size_toArray, List.length_cons, List.length_nil, Nat.reduceAdd, Nat.reduceSub, Array.replicate_succ, Array.replicate_zero, List.push_toArray, List.append_toArray, List.nil_append, List.cons_append]
  gi_wp2
  gi_loopw [3] (fun i wr => ∃ (k : Nat) (z : Int) (pre : List (Pl len)), k ≤ len ∧ i = .int .i64 z ∧ z = (k : Int) - 1 ∧ pre.length + k = len ∧ Dn len pre ∧ J pre wr ∧ Below n₀ W wr)
    (fun i _ => (intOf i + 1).toNat)
  case atStart => exact ⟨len, _, [], Nat.le_refl _, rfl, rfl, by simp, Dn.nil _, h0, Below.refl _ _⟩
  case round =>
    obtain ⟨k, z, pre, hk, rfl, hz, hpl, hdn, hJs, hnx⟩ := hrel
    cases k with
    | zero =>
      have d1 : decide (z ≥ 0) = false := decide_eq_false (by omega)
      have d2 : decide (0 ≤ z) = false := decide_eq_false (by omega)
      gi_wp2
      go_end0
      exact ⟨⟨_, rfl⟩, .inl ⟨pre, ⟨hdn, by omega⟩, hJs⟩⟩
    | succ q =>
      obtain rfl : z = (q : Int) := by omega
      clear hz
      have hcb : wr.cell? ⟨Bs, 0, none⟩ = some (.slice (some ⟨b, off, none⟩) len cap) := (hnx.cell (p := ⟨Bs, 0, none⟩) hB).trans hBs
      have hcx : wr.cell? ⟨b, off + q, none⟩ = some (.int .i64 (zAt zs q)) := (hnx.cell (p := ⟨b, off + q, none⟩) hb).trans (hc q (by omega))
      have hi0 : (0 : Int) ≤ (q : Int) := Int.natCast_nonneg _
      have hi1 : (q : Int) < (len : Int) := by omega
      have d1 : decide ((q : Int) ≥ 0) = true := decide_eq_true hi0
      have HNX := Lib.hid hnx
      have HHC := Lib.hid hc
      clear hnx hc
      have e1 : IntKind.i64.wrap ((q : Int) - 1) = (q : Int) - 1 := IntWalk.i64_in _ (by omega)
      obtain ⟨fn, tmps, assign, body, hy, hR⟩ := hY pre ⟨q, by omega⟩ wr hJs (by omega)
      generalize zAt zs q = zq at *
      gi_wp2
      refine hR.mono ?_
      rintro e W3 (⟨rfl, hJ3, hk3⟩ | ⟨rfl, hJx3⟩)
      · gi_wp2
        go_roundw
        case rel => exact ⟨q, _, pre ++ [⟨q, by omega⟩], by omega, rfl, rfl, by simp; omega, hdn.snoc _ (by show q + 1 + pre.length = len; omega), hJ3, HNX.out.trans hk3⟩
        case measure => first | (simp [intOf]; done) | (simp [intOf]; omega)
      · gi_wp2
        refine bodyPost_ret (results_none rfl _ _ _) rfl ?_
        exact ⟨⟨_, rfl⟩, .inr ⟨_, hdn.snoc _ (by show q + 1 + pre.length = len; omega), hJx3⟩⟩
set_option maxRecDepth 100000 in
set_option maxHeartbeats 1000000 in
theorem back_none (n : Nat) (l Bs : Nat) (A : Option Addr) (c : Nat) (J : List (Pl 0) → World → Prop) (W : World) (hBs : W.cell? ⟨Bs, 0, none⟩ = some (.slice A 0 c)) (h0 : J [] W) :
    CallsIn Fence.wide n Try.prog 151 #[.func (.yield l) #[] #[], .pointer (some ⟨Bs, 0, none⟩)] W fun e W' => (∃ v, e = .returned v) ∧ J [] W' := by
  refine callsIn_of_wp Try.func151 rfl trivial ?_ rfl
  simp only [Try.ntmps151, List.size_toArray, List.length_cons, List.length_nil, Nat.reduceAdd, Nat.reduceSub, Array.replicate_succ, Array.replicate_zero, List.push_toArray, List.append_toArray, List.nil_append, List.cons_append]
  gi_wp2
  gi_loopw [3] (fun i wr => (∃ z : Int, z < 0 ∧ i = .int .i64 z) ∧ J [] wr) (fun _ _ => 0)
  case atStart => exact ⟨⟨_, by decide, rfl⟩, h0⟩
  case round =>
    obtain ⟨⟨z, hz, rfl⟩, hJs⟩ := hrel
    have d1 : decide (z ≥ 0) = false := decide_eq_false (by omega)
    have d2 : decide (0 ≤ z) = false := decide_eq_false (by omega)
    gi_wp2
    go_end0
    exact ⟨⟨_, rfl⟩, hJs⟩
theorem back_stops (n : Nat) (hn : 1 ≤ n) (Bs n₀ : Nat) (sv : Value) (zs : List Int) (hreach : zs.length ≤ 1000000) (w : World) (hBs : Bs < n₀) (hn₀ : n₀ ≤ w.heap.size)
    (hc : w.cell? ⟨Bs, 0, none⟩ = some sv) (hI : InI w sv zs) (hlt : ∀ b o k c, sv = .slice (some ⟨b, o, none⟩) k c → 0 < k → b < n₀) :
    SeqStopsK Fence.wide n Try.prog 151 #[.pointer (some ⟨Bs, 0, none⟩)] (fun x : Pl zs.length => #[.int .i64 (x.1 : Int), .int .i64 (zAt zs x.1)]) (Below n₀) (fun ys => Dn zs.length ys ∧ ys.length = zs.length) (fun pre => Dn zs.length pre) zs.length w := fun l J Jx W hW _ _ hY h0 => by
  have hc' := (hW.cell (p := ⟨Bs, 0, none⟩) (by show Bs < w.heap.size; omega)).trans hc
  rcases hI with ⟨he, A, c, rfl, _⟩ | ⟨b, off, cap, rfl, hcap, hr, hcs⟩
  · subst he
    exact (back_none n l Bs A c J W hc' h0).mono fun e W' ⟨he, hj⟩ => ⟨he, .inl ⟨_, ⟨Dn.nil _, rfl⟩, hj⟩⟩
  · by_cases h0' : zs.length = 0
    · obtain rfl : zs = [] := List.eq_nil_of_length_eq_zero h0'
      exact (back_none n l Bs _ _ J W hc' h0).mono fun e W' ⟨he, hj⟩ => ⟨he, .inl ⟨_, ⟨Dn.nil _, rfl⟩, hj⟩⟩
    · have hb := hlt b off _ cap rfl (by omega)
      exact back_in n hn l Bs n₀ b off zs.length cap zs hreach hb hBs J Jx hY W hc' (fun j hj => (hW.cell (p := ⟨b, off + j, none⟩) (by show b < w.heap.size; omega)).trans (hcs j hj)) h0
end Go.Proofs.Ytebhcadolnjplaa
