/- slices.Grow of nil; slices.Concat of three rows of shares. -/
import Derived.Test.YtdabdkedgigjdaaGreatSf
namespace Go.Proofs.YtdabdkedgigjdaaGreat
open Go.RowKit

theorem grow_zero (w : World) (ty n : Nat) (h0 : 0 < n) (hn : n ≤ 100000) : ∃ c w', (Builtin.append_ #[22, 3] ty #[.slice none 0 0, .int .i64 n]).run Tryz.prog w = .ok (.slice (some ⟨w.heap.size, 0, none⟩) n c) w' ∧ n ≤ c ∧
    w'.ownsRow w.heap.size 35 4 (.slice (some ⟨w.heap.size, 0, none⟩) 0 c) 0 [] ∧ Ok w w' := by
  obtain ⟨i0, hi, hz0, hz1, hz2⟩ := info_parts info60
  have hge := grownCap_ge w n 0 35
  have hle := grownCap_le_maxLen w n 0 35 (by unfold maxLen; omega)
  have hns : Builtin.nextslicecap n 0 * i0.bytes ≤ 281474976710656 := by
    rw [hz2]
    exact growslice_fits (need := n) (old := 0) (bytes := 48) (by omega) (by omega)
  have h := Lib.run_append_grow_zeros (P := Tryz.prog) w 22 3 ty 35 i0 (.agg #[.string ⟨#[]⟩, .string ⟨#[]⟩, .int .i64 0, .int .i64 0]) .i64 .i64 Tryz.underlying22 Tryz.underlying3 hi hz0 none 0 0 [] (run_firstCells_none w.drew i0.size 0 0 0) n h0 (by rw [hz1]; decide) (by omega) (by omega) (by rw [hz2]; omega) (by simpa using hns)
  simp only [Nat.zero_add] at h
  refine ⟨_, _, h, hge, ?_, Ok.alloc (Ok.drew (Ok.refl w)) _⟩
  refine World.ownsRow_made w.drew _ _ (Nat.le_refl _) hle ?_
  rw [Array.size_append, Array.size_append, size_zeroCells, size_zeroCells]
  show 0 + n * 4 + (grownCap w n 0 35 - n) * 4 = grownCap w n 0 35 * 4
  omega
theorem wpList_growZero {ops : Array Oper} {rest : List Oper} {o : Oper} {a : Act} {w : World} {Q : Exit → Act → World → Prop} (hgd : o.guard = none) (s x : Operand)
    (ho : o.op = .call { callee := .builtin .append, args := #[s, x], argTypes := #[22, 3] }) (n : Nat) (hs : a.eval s = .slice none 0 0) (hx : a.eval x = .int .i64 n) (h0 : 0 < n) (hn : n ≤ 100000)
    (hk : ∀ c w', n ≤ c → w'.ownsRow w.heap.size 35 4 (.slice (some ⟨w.heap.size, 0, none⟩) 0 c) 0 [] → Ok w w' → wpList Tryz.prog ops Q rest (a.put o.dst (.slice (some ⟨w.heap.size, 0, none⟩) n c)) w') : wpList Tryz.prog ops Q (o :: rest) a w := by
  refine wpList_plain hgd fun K hK => ?_
  obtain ⟨c, w', hr, h1, h2, h3⟩ := grow_zero w o.type n h0 hn
  unfold Oper.wp execOp
  simp only [ho, resolve, invoke, builtin, Sem.run_bind, Sem.run_pure, Result.andThen_ok, List.map_toArray, List.map_cons, List.map_nil, hs, hx, hr]
  exact hK _ _ (hk c w' h1 h2 h3)

set_option maxRecDepth 100000 in
set_option maxHeartbeats 4000000 in
theorem grow_w (n : Nat) (hn : n ≤ 100000) (w : World) : Calls Tryz.prog 103 #[.slice none 0 0, .int .i64 (n : Int)] w (SharesPost w []) := by
  cases n with
  | zero =>
    go_enter Tryz.func103, Tryz.ntmps103
    go_wp2
    go_ret
    exact SharesPost.mk none 0 0 rfl (OwnSh.nil _ _) (Ok.refl w)
  | succ m =>
    have d1 : decide (((m + 1 : Nat) : Int) < 0) = false := decide_eq_false (by omega)
    have d2 : decide (0 < ((m + 1 : Nat) : Int)) = true := decide_eq_true (by omega)
    obtain ⟨k, hk⟩ : ∃ k : Nat, k = m + 1 := ⟨_, rfl⟩
    rw [← hk] at d1 d2 hn ⊢
    have hk0 : 0 < k := by omega
    clear hk
    have hkz : (k : Int) - 0 = (k : Int) := by omega
    go_enter Tryz.func103, Tryz.ntmps103
    go_wp2_with (at_builtin; go_must (refine wpList_growZero rfl (.tmp 20) (.tmp 21) rfl k rfl rfl hk0 hn ?_; intro c w2 hc hown ok2))
    go_ret
    exact SharesPost.mk (some ⟨w.heap.size, 0, none⟩) 0 c rfl ⟨hown, rfl⟩ ok2

/-- The sum of the first lengths; the first rows. -/
def sum3 (a b c : Nat) : Nat → Nat
  | 0 => 0
  | 1 => a
  | 2 => a + b
  | _ => a + b + c
def acc3 (a b c : List Sh) : Nat → List Sh
  | 0 => []
  | 1 => a
  | 2 => a ++ b
  | _ => a ++ (b ++ c)

set_option maxRecDepth 100000 in
set_option maxHeartbeats 8000000 in
theorem concat_w (h : Nat) (a0 a1 a2 : Addr) (n0 n1 n2 c0 c1 c2 : Nat) (x0 x1 x2 : List Sh) (e0 : x0.length = n0) (e1 : x1.length = n1) (e2 : x2.length = n2) (b0 : n0 ≤ 1000) (b1 : n1 ≤ 1000) (b2 : n2 ≤ 1000) (w : World)
    (h0 : w.cell? ⟨h, 0, none⟩ = some (.slice (some a0) n0 c0)) (h1 : w.cell? ⟨h, 1, none⟩ = some (.slice (some a1) n1 c1)) (h2 : w.cell? ⟨h, 2, none⟩ = some (.slice (some a2) n2 c2))
    (s0 : ShIn w a0 x0) (s1 : ShIn w a1 x1) (s2 : ShIn w a2 x2) : Calls Tryz.prog 54 #[.slice (some ⟨h, 0, none⟩) 3 3] w (SharesPost w (x0 ++ (x1 ++ x2))) := by
  have S0 := Lib.hid s0
  have S1 := Lib.hid s1
  have S2 := Lib.hid s2
  have E0 := Lib.hid e0
  have E1 := Lib.hid e1
  have E2 := Lib.hid e2
  clear s0 s1 s2 e0 e1 e2
  go_enter Tryz.func54, Tryz.ntmps54
  go_wp2_with fail
  go_loopw [3, 5, 11] (fun t _ i wr => ∃ k : Nat, k ≤ 3 ∧ i = .int .i64 k ∧ t = .int .i64 (sum3 n0 n1 n2 k : Nat) ∧ wr = w) (fun _ _ i _ => 3 - (intOf i).toNat)
  case atStart => exact ⟨0, Nat.zero_le _, rfl, rfl, rfl⟩
  case round =>
    obtain ⟨k, hk, rfl, rfl, rfl⟩ := hrel
    by_cases hlt : k < 3
    · have hk3 : k = 0 ∨ k = 1 ∨ k = 2 := by omega
      rcases hk3 with rfl | rfl | rfl
      · have d1 : decide ((n0 : Int) < 0) = false := decide_eq_false (by omega)
        simp only [sum3]
        go_wp2
        go_roundw
        case rel => exact ⟨1, by omega, by first | go_num | simp, by first | rfl | trivial | go_num, trivial⟩
        case measure => simp [intOf]
      · have d1 : decide (((n0 : Int) + (n1 : Int)) < 0) = false := decide_eq_false (by omega)
        simp only [sum3]
        go_wp2
        go_roundw
        case rel => exact ⟨2, by omega, by first | go_num | simp, by first | rfl | trivial | go_num, trivial⟩
        case measure => simp [intOf]
      · have d1 : decide (((n0 : Int) + (n1 : Int) + (n2 : Int)) < 0) = false := decide_eq_false (by omega)
        simp only [sum3]
        go_wp2
        go_roundw
        case rel => exact ⟨3, by omega, by first | go_num | simp, by first | rfl | trivial | go_num, trivial⟩
        case measure => simp [intOf]
    · obtain rfl : k = 3 := by omega
      simp only [sum3]
      obtain ⟨v0, rfl⟩ : ∃ v0, v0 = wr := ⟨_, rfl⟩
      go_wp2_with fail
      refine (grow_w (n0 + n1 + n2) (by omega) _).mono ?_
      rintro _ w1 ⟨A, c, rfl, hown, o1⟩
      have HOWN := Lib.hid hown
      have HO1 := Lib.hid o1
      have hs1 : v0.heap.size ≤ w1.heap.size := o1.size
      clear hown
      go_wp2_with fail
      go_loopw [6, 8, 27] (fun l _ i wx => ∃ (k : Nat) (A' : Option Addr) (n' c' : Nat), k ≤ 3 ∧ i = .int .i64 k ∧ l = .slice A' n' c' ∧ OwnSh wx v0.heap.size A' n' c' (acc3 x0 x1 x2 k) ∧ Ok v0 wx) (fun _ _ i _ => 3 - (intOf i).toNat)
      case atStart => exact ⟨0, A, 0, c, Nat.zero_le _, rfl, rfl, HOWN.out, HO1.out⟩
      case round =>
        obtain ⟨k, A', n', c', hk, rfl, rfl, hown, okx⟩ := hrel
        have HOW := Lib.hid hown
        have HOX := Lib.hid okx
        clear hown
        by_cases hlt : k < 3
        · have hk3 : k = 0 ∨ k = 1 ∨ k = 2 := by omega
          rcases hk3 with rfl | rfl | rfl
          · have C0 := Ok.cell okx h0
            have HS := Lib.hid (S0.out.ok okx)
            go_wp2_with (at_builtin; go_must (refine wpList_appSh rfl (.tmp 31) (.tmp 32) rfl v0.heap.size A' n' c' [] rfl HOW.out a0 n0 c0 x0 rfl E0.out HS.out (by simp; omega) HOX.out.size ?_; intro A2 n2' c2' w2 hown2 hb2; have HOW2 := Lib.hid hown2; have HB2 := Lib.hid hb2; clear hown2 hb2))
            go_roundw
            case rel => exact ⟨1, A2, n2', c2', by omega, by first | go_num | simp, rfl, HOW2.out, Below.trans HOX.out HB2.out⟩
            case measure => simp [intOf]
          · have C0 := Ok.cell okx h1
            have HS := Lib.hid (S1.out.ok okx)
            go_wp2_with (at_builtin; go_must (refine wpList_appSh rfl (.tmp 31) (.tmp 32) rfl v0.heap.size A' n' c' x0 rfl HOW.out a1 n1 c1 x1 rfl E1.out HS.out (by rw [E0.out]; omega) HOX.out.size ?_; intro A2 n2' c2' w2 hown2 hb2; have HOW2 := Lib.hid hown2; have HB2 := Lib.hid hb2; clear hown2 hb2))
            go_roundw
            case rel => exact ⟨2, A2, n2', c2', by omega, by first | go_num | simp, rfl, HOW2.out, Below.trans HOX.out HB2.out⟩
            case measure => simp [intOf]
          · have C0 := Ok.cell okx h2
            have HS := Lib.hid (S2.out.ok okx)
            go_wp2_with (at_builtin; go_must (refine wpList_appSh rfl (.tmp 31) (.tmp 32) rfl v0.heap.size A' n' c' (x0 ++ x1) rfl HOW.out a2 n2 c2 x2 rfl E2.out HS.out (by rw [List.length_append, E0.out, E1.out]; omega) HOX.out.size ?_; intro A2 n2' c2' w2 hown2 hb2; have HOW2 := Lib.hid hown2; have HB2 := Lib.hid hb2; clear hown2 hb2))
            go_roundw
            case rel => exact ⟨3, A2, n2', c2', by omega, by first | go_num | simp, rfl, by have := HOW2.out; rw [List.append_assoc] at this; exact this, Below.trans HOX.out HB2.out⟩
            case measure => simp [intOf]
        · obtain rfl : k = 3 := by omega
          go_wp2
          go_ret
          exact SharesPost.mk A' n' c' rfl HOW.out HOX.out
end Go.Proofs.YtdabdkedgigjdaaGreat
