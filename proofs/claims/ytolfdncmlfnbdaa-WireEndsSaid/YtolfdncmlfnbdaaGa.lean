/- Marks of bytes, walked. -/
import Derived.Test.YtolfdncmlfnbdaaD
namespace Go.Proofs.Ytolfdncmlfnbdaa
open Go.RowKit
theorem cell_of_heap {w : World} {b ty : Nat} {cs : Array Value} {fz : Nat × Nat} (h : w.heap[b]? = some (.cells cs ty fz)) (i : Nat) : w.cell? ⟨b, i, none⟩ = cs[i]? := by
  rw [cell_of_row _ _ _ _ _ _ h]
def Ret (w : World) (v : Value) (e : Ending) (w' : World) : Prop := e = .returned v ∧ Ok w w'
def mB (k i : Nat) : B8 := BitVec.ofNat 8 ((1000003 * (k + 7) + i) * 11400714819323198485 % 18446744073709551616 / 72057594037927936)
theorem ret_i64 {a b : Int} (h : a = b) : Ending.returned (.int .i64 a) = .returned (.int .i64 b) := by rw [h]
theorem ret_u8 {a b : Int} (h : a = b) : Ending.returned (.int .u8 a) = .returned (.int .u8 b) := by rw [h]
theorem mB_val (m : Nat) : IntKind.u64.wrap ((m : Int) * 11400714819323198485) / 72057594037927936 % 256 = ub (BitVec.ofNat 8 (m * 11400714819323198485 % 18446744073709551616 / 72057594037927936)) := by
  rw [IntKind.wrap_u64, ub, BitVec.toNat_ofNat]
  have e : ((m : Int) * 11400714819323198485) = ((m * 11400714819323198485 : Nat) : Int) := by simp
  rw [e]
  generalize m * 11400714819323198485 = q
  omega
set_option maxHeartbeats 1000000 in
theorem mark_w (k i : Nat) (hk : k ≤ 1000000000) (hi : i ≤ 1000000000000) (w : World) : Calls Try.prog 101 #[.int .i64 (k : Int), .int .i64 (i : Int)] w fun e w' => e = .returned (.int .i64 ((1000003 * (k + 7) + i : Nat) : Int)) ∧ w = w' := by
  have k0 : (0 : Int) ≤ (k : Int) := Int.natCast_nonneg _
  have k1 : (k : Int) ≤ 1000000000 := by omega
  have i0 : (0 : Int) ≤ (i : Int) := Int.natCast_nonneg _
  have i1 : (i : Int) ≤ 1000000000000 := by omega
  go_enter Try.func101, Try.ntmps101
  go_wp2_with fail
  go_ret
  exact ⟨ret_i64 (by omega), rfl⟩
set_option maxHeartbeats 1000000 in
theorem markByte_w (k i : Nat) (hk : k ≤ 1000000000) (hi : i ≤ 1000000000000) (w : World) : Calls Try.prog 93 #[.int .i64 (k : Int), .int .i64 (i : Int)] w fun e w' => e = .returned (.int .u8 (ub (mB k i))) ∧ w = w' := by
  have HM := Lib.hid (fun V => mark_w k i hk hi V)
  have hb : 1000003 * (k + 7) + i ≤ 1001004003007000000 := by omega
  have HB := Lib.hid (mB_val (1000003 * (k + 7) + i))
  have HE : Hid (mB k i = BitVec.ofNat 8 ((1000003 * (k + 7) + i) * 11400714819323198485 % 18446744073709551616 / 72057594037927936)) := Lib.hid rfl
  generalize 1000003 * (k + 7) + i = m at *
  have m0 : (0 : Int) ≤ (m : Int) := Int.natCast_nonneg _
  have m1 : (m : Int) ≤ 1001004003007000000 := by omega
  clear hk hi hb
  go_enter Try.func93, Try.ntmps93
  go_wp2_with fail
  (with_reducible refine (HM.out _).mono ?_)
  rintro _ w2 ⟨rfl, rfl⟩
  go_wp2_with fail
  go_ret
  exact ⟨ret_u8 (by rw [HE.out]; exact HB.out), rfl⟩
end Go.Proofs.Ytolfdncmlfnbdaa
