/- Contracts of the document's own answers for sums, bit by bit, and of small helpers: each returns what the plain mathematics says. -/
import Derived.Test.YtpebnlddmjfomaaDoorGa
import Derived.Test.YtpebnlddmjfomaaDoorFl
namespace Go.Proofs.YtpebnlddmjfomaaDoor
open Go.RowKit

theorem and1_v (a : B32) : bits .and .u32 (u a) 1 = u (a &&& 1#32) := and_v a 1#32
theorem shr1_v (a : B32) : u a / (2 : Int) = u (a >>> 1) := shr_v a 1
theorem xorP_v (a : B32) : bits .xor .u32 (u a) 3988292384 = u (a ^^^ 3988292384#32) := xor_v a 3988292384#32
theorem eq1_v (a : B32) : (u a == 1) = decide (a = 1#32) := by
  rw [show (1 : Int) = u 1#32 from rfl, u_eq]; rfl

set_option maxHeartbeats 400000 in
theorem bit_v (r d : B32) (w : World) : Calls Tryd.prog 87 #[.int .u32 (u r), .int .u32 (u d)] w fun e w' => e = .returned (.int .u32 (u (bit r d))) ∧ w = w' := by
  have h1 := and1_v r
  have h2 := xor_v (r &&& 1#32) d
  have h3 := shr1_v r
  have h4 := xorP_v (r >>> 1)
  have h5 := eq1_v (r &&& 1#32 ^^^ d)
  have hlo := u_lo r
  have HF : Hid (bit r d = if (r &&& 1#32) ^^^ d = 1#32 then (r >>> 1) ^^^ 3988292384#32 else r >>> 1) := Lib.hid rfl
  generalize bit r d = res at *
  generalize (r &&& 1#32) ^^^ d = t at *
  generalize (r &&& 1#32) = r1 at *
  generalize (r >>> 1) ^^^ 3988292384#32 = r3 at *
  generalize r >>> 1 = r2 at *
  by_cases ht : t = 1#32
  · have ht' : (u t == 1) = true := by rw [h5]; exact decide_eq_true ht
    have HR : Hid (res = r3) := Lib.hid (by rw [HF.out, if_pos ht])
    clear h5 ht HF
    go_enter Tryd.func87, Tryd.ntmps87
    go_wp2
    go_ret
    exact ⟨by rw [HR.out]; rfl, rfl⟩
  · have ht' : (u t == 1) = false := by rw [h5]; exact decide_eq_false ht
    have HR : Hid (res = r2) := Lib.hid (by rw [HF.out, if_neg ht])
    clear h5 ht HF
    go_enter Tryd.func87, Tryd.ntmps87
    go_wp2
    go_ret
    exact ⟨by rw [HR.out]; rfl, rfl⟩

/-- The i-th bit of a byte, as Go takes it. -/
theorem shrb_v (b : B8) (n : Nat) : ub b / ((2 ^ n : Nat) : Int) = ub (b >>> n) := by
  rw [ub, ub, BitVec.toNat_ushiftRight, Nat.shiftRight_eq_div_pow]; simp
theorem shrb_pow (b : B8) (n : Nat) : ub b / (2 : Int) ^ n = ub (b >>> n) := by
  rw [← shrb_v]; simp
theorem bitOf_v (b : B8) (n : Nat) : bits .and .u32 (ub (b >>> n)) 1 = u (bitOf b n) := by
  rw [byte_v, and1_v]; rfl

set_option maxRecDepth 100000 in
set_option maxHeartbeats 400000 in
theorem rfeed_v (r : B32) (b : B8) (w : World) : Calls Tryd.prog 58 #[.int .u32 (u r), .int .u8 (ub b)] w fun e w' => e = .returned (.int .u32 (u (fd r b))) ∧ w = w' := by
  have HF := Lib.hid (rfeed8 r b)
  go_enter Tryd.func58, Tryd.ntmps58
  go_wp2_with fail
  go_loop [0, 5] (fun x i => ∃ k : Nat, k ≤ 8 ∧ i = .int .i64 k ∧ x = .int .u32 (u (rfeed r b k))) (fun _ i => 8 - (intOf i).toNat)
  case atStart => exact ⟨0, by omega, rfl, rfl⟩
  case round =>
    obtain ⟨k, hk, rfl, rfl⟩ := hrel
    have HS : Hid (rfeed r b (k + 1) = bit (rfeed r b k) (bitOf b k)) := Lib.hid rfl
    by_cases hlt : k < 8
    · have hb0 := ub_lo b
      have hb1 := ub_hi b
      have h1 := shrb_pow b k
      have h2 := bitOf_v b k
      have h3 : ub (b >>> k) % 4294967296 = ub (b >>> k) := by have := ub_lo (b >>> k); have := ub_hi (b >>> k); omega
      generalize hq : bitOf b k = q at *
      clear hq
      go_wp2_with fail
      refine (bit_v _ q _).mono ?_
      rintro e w' ⟨rfl, rfl⟩
      go_wp2_with fail
      go_round
      case rel => exact ⟨k + 1, by omega, by go_num, by rw [HS.out]⟩
      case measure => simp [intOf]; omega
    · have : k = 8 := by omega
      subst this
      go_wp2_with fail
      go_ret
      exact ⟨congrArg (fun x => Ending.returned (.int .u32 (u x))) HF.out, rfl⟩


/-- Some place below n. -/
def SomePlace (n : Int) (w : World) (e : Ending) (w' : World) : Prop := ∃ k : Int, 0 ≤ k ∧ k < n ∧ e = .returned (.int .i64 k) ∧ w = w'
set_option maxHeartbeats 400000 in
theorem pick_v (x n : Int) (w : World) (_hx : -9223372036854775808 ≤ x) (_hx' : x ≤ 9223372036854775807) (h1 : 1 ≤ n) (h2 : n ≤ 9223372036854775807) :
    Calls Tryd.prog 21 #[.int .i64 x, .int .i64 n] w (SomePlace n w) := by
  have hb : -n < x.tmod n ∧ x.tmod n < n := by
    have h3 := Int.lt_tmod_of_pos x (b := n) (by omega)
    have h4 := Int.tmod_lt_of_pos x (b := n) (by omega)
    exact ⟨h3, h4⟩
  obtain ⟨hb1, hb2⟩ := hb
  by_cases h0 : 0 ≤ x
  · have hm : x.tmod n = x % n := Int.tmod_eq_emod_of_nonneg h0
    have h5 : 0 ≤ x % n := Int.emod_nonneg _ (by omega)
    have h6 : x % n < n := Int.emod_lt_of_pos _ (by omega)
    generalize hz : x % n = z at *
    go_enter Tryd.func21, Tryd.ntmps21
    go_wp2_with fail
    go_ret
    exact ⟨z, h5, h6, rfl, rfl⟩
  · generalize hz : x.tmod n = z at *
    by_cases h7 : z < 0
    · go_enter Tryd.func21, Tryd.ntmps21
      go_wp2_with fail
      go_ret
      exact ⟨z + n, by omega, by omega, rfl, rfl⟩
    · go_enter Tryd.func21, Tryd.ntmps21
      go_wp2_with fail
      go_ret
      exact ⟨z, by omega, by omega, rfl, rfl⟩

end Go.Proofs.YtpebnlddmjfomaaDoor
