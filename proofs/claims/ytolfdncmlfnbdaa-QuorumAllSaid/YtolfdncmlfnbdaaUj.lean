/- The program's nodes of a configuration: one row of all, sorted, each once. -/
import Derived.Test.YtolfdncmlfnbdaaUi
import Derived.Lib.AppendZerosOnto
namespace Go.Proofs.Ytolfdncmlfnbdaa
open Go.RowKit Go.Sort

theorem growZ_zero (w : World) (ty n : Nat) (h0 : 0 < n) (hn : n ≤ 100000) : ∃ c w', (Builtin.append_ #[22, 3] ty #[.slice none 0 0, .int .i64 n]).run Try.prog w = .ok (.slice (some ⟨w.heap.size, 0, none⟩) n c) w' ∧ n ≤ c ∧
    w'.ownsRow w.heap.size 3 1 (.slice (some ⟨w.heap.size, 0, none⟩) 0 c) 0 [] ∧ Ok w w' := by
  obtain ⟨i0, hi, hz0, hz1, hz2⟩ := info_parts info3z
  have hge := grownCap_ge w n 0 3
  have hle := grownCap_le_maxLen w n 0 3 (by unfold maxLen; omega)
  have hns : Builtin.nextslicecap n 0 * i0.bytes ≤ 281474976710656 := by
    rw [hz2]
    exact growslice_fits (need := n) (old := 0) (bytes := 8) (by omega) (by omega)
  have h := Lib.run_append_grow_zeros (P := Try.prog) w 22 3 ty 3 i0 (.int .i64 0) .i64 .i64 Try.underlying22 Try.underlying3 hi hz0 none 0 0 [] (run_firstCells_none w.drew i0.size 0 0 0) n h0 (by rw [hz1]; decide) (by omega) (by omega) (by rw [hz2]; omega) (by simpa using hns)
  simp only [Nat.zero_add] at h
  refine ⟨_, _, h, hge, ?_, Ok.alloc (Ok.drew (Ok.refl w)) _⟩
  refine World.ownsRow_made w.drew _ _ (Nat.le_refl _) hle ?_
  rw [Array.size_append, Array.size_append, size_zeroCells, size_zeroCells]
  show 0 + n * 1 + (grownCap w n 0 3 - n) * 1 = grownCap w n 0 3 * 1
  omega
theorem wpList_growZero {ops : Array Oper} {rest : List Oper} {o : Oper} {a : Act} {w : World} {Q : Exit → Act → World → Prop} (hgd : o.guard = none) (s x : Operand)
    (ho : o.op = .call { callee := .builtin .append, args := #[s, x], argTypes := #[22, 3] }) (n : Nat) (hs : a.eval s = .slice none 0 0) (hx : a.eval x = .int .i64 n) (h0 : 0 < n) (hn : n ≤ 100000)
    (hk : ∀ c w', n ≤ c → w'.ownsRow w.heap.size 3 1 (.slice (some ⟨w.heap.size, 0, none⟩) 0 c) 0 [] → Ok w w' → wpList Try.prog ops Q rest (a.put o.dst (.slice (some ⟨w.heap.size, 0, none⟩) n c)) w') : wpList Try.prog ops Q (o :: rest) a w := by
  refine wpList_plain hgd fun K hK => ?_
  obtain ⟨c, w', hr, h1, h2, h3⟩ := growZ_zero w o.type n h0 hn
  unfold Oper.wp execOp
  simp only [ho, resolve, invoke, builtin, Sem.run_bind, Sem.run_pure, Result.andThen_ok, List.map_toArray, List.map_cons, List.map_nil, hs, hx, hr]
  exact hK _ _ (hk c w' h1 h2 h3)
/-- A row of numbers of the call's own comes out. -/
def RowP (w : World) (xs : List Int) (e : Ending) (w' : World) : Prop := ∃ A c, e = .returned (.slice A xs.length c) ∧ OwnZ w' w.heap.size (.slice A xs.length c) xs ∧ Ok w w'

set_option maxRecDepth 100000 in
set_option maxHeartbeats 4000000 in
theorem growI_w (n : Nat) (hn : n ≤ 100000) (w : World) : Calls Try.prog 163 #[.slice none 0 0, .int .i64 (n : Int)] w (RowP w []) := by
  cases n with
  | zero =>
    go_enter Try.func163, Try.ntmps163
    go_wp2
    go_ret
    exact ⟨none, 0, rfl, OwnZ.nil _ _, Ok.refl w⟩
  | succ m =>
    have d1 : decide (((m + 1 : Nat) : Int) < 0) = false := decide_eq_false (by omega)
    have d2 : decide (0 < ((m + 1 : Nat) : Int)) = true := decide_eq_true (by omega)
    obtain ⟨k, hk⟩ : ∃ k : Nat, k = m + 1 := ⟨_, rfl⟩
    rw [← hk] at d1 d2 hn ⊢
    have hk0 : 0 < k := by omega
    clear hk
    have hkz : (k : Int) - 0 = (k : Int) := by omega
    go_enter Try.func163, Try.ntmps163
    go_wp2_with (at_builtin; go_must (refine wpList_growZero rfl (.tmp 20) (.tmp 21) rfl k rfl rfl hk0 hn ?_; intro c w2 hc hown ok2))
    go_ret
    exact ⟨some ⟨w.heap.size, 0, none⟩, c, rfl, hown, ok2⟩

/-- The sum of the first lengths; the first rows. -/
def sum3 (a b c : Nat) : Nat → Nat
  | 0 => 0
  | 1 => a
  | 2 => a + b
  | _ => a + b + c
def acc3 (a b c : List Int) : Nat → List Int
  | 0 => []
  | 1 => a
  | 2 => a ++ b
  | _ => a ++ (b ++ c)

set_option maxRecDepth 100000 in
set_option maxHeartbeats 8000000 in
theorem concatI_w (h : Nat) (A0 A1 A2 : Option Addr) (n0 n1 n2 c0 c1 c2 : Nat) (x0 x1 x2 : List Int) (e0 : x0.length = n0) (e1 : x1.length = n1) (e2 : x2.length = n2) (b0 : n0 ≤ 1000) (b1 : n1 ≤ 1000) (b2 : n2 ≤ 1000) (w : World)
    (h0 : w.cell? ⟨h, 0, none⟩ = some (.slice A0 n0 c0)) (h1 : w.cell? ⟨h, 1, none⟩ = some (.slice A1 n1 c1)) (h2 : w.cell? ⟨h, 2, none⟩ = some (.slice A2 n2 c2))
    (s0 : InI w (.slice A0 n0 c0) x0) (s1 : InI w (.slice A1 n1 c1) x1) (s2 : InI w (.slice A2 n2 c2) x2) : Calls Try.prog 117 #[.slice (some ⟨h, 0, none⟩) 3 3] w (RowP w (x0 ++ (x1 ++ x2))) := by
  have S0 := Lib.hid s0
  have S1 := Lib.hid s1
  have S2 := Lib.hid s2
  have E0 := Lib.hid e0
  have E1 := Lib.hid e1
  have E2 := Lib.hid e2
  clear s0 s1 s2 e0 e1 e2
  go_enter Try.func117, Try.ntmps117
  go_wp2_with fail
  go_loopw [3, 5, 11] (fun t _ i wr => ∃ k : Nat, k ≤ 3 ∧ i = .int .i64 k ∧ t = .int .i64 (sum3 n0 n1 n2 k : Nat) ∧ wr = w) (fun _ _ i _ => 3 - (intOf i).toNat)
  case atStart => exact ⟨0, Nat.zero_le _, rfl, rfl, rfl⟩
  case round =>
    obtain ⟨k, hk, rfl, rfl, rfl⟩ := hrel
    by_cases hlt : k < 3
    · have hk3 : k = 0 ∨ k = 1 ∨ k = 2 := by omega
      rcases hk3 with rfl | rfl | rfl
      · have d1 : decide ((n0 : Int) < 0) = false := decide_eq_false (by omega)
        simp only [sum3]
        go_wp2
        go_roundw
        case rel => exact ⟨1, by omega, by first | go_num | simp, by first | rfl | trivial | go_num, trivial⟩
        case measure => simp [intOf]
      · have d1 : decide (((n0 : Int) + (n1 : Int)) < 0) = false := decide_eq_false (by omega)
        simp only [sum3]
        go_wp2
        go_roundw
        case rel => exact ⟨2, by omega, by first | go_num | simp, by first | rfl | trivial | go_num, trivial⟩
        case measure => simp [intOf]
      · have d1 : decide (((n0 : Int) + (n1 : Int) + (n2 : Int)) < 0) = false := decide_eq_false (by omega)
        simp only [sum3]
        go_wp2
        go_roundw
        case rel => exact ⟨3, by omega, by first | go_num | simp, by first | rfl | trivial | go_num, trivial⟩
        case measure => simp [intOf]
    · obtain rfl : k = 3 := by omega
      simp only [sum3]
      obtain ⟨v0, rfl⟩ : ∃ v0, v0 = wr := ⟨_, rfl⟩
      go_wp2_with fail
      refine (growI_w (n0 + n1 + n2) (by omega) _).mono ?_
      rintro _ w1 ⟨A, c, rfl, hown, o1⟩
      have HOWN := Lib.hid hown
      have HO1 := Lib.hid o1
      have hs1 : v0.heap.size ≤ w1.heap.size := o1.size
      clear hown
      go_wp2_with fail
      go_loopw [6, 8, 27] (fun l _ i wx => ∃ (k : Nat) (A' : Option Addr) (n' c' : Nat), k ≤ 3 ∧ i = .int .i64 k ∧ l = .slice A' n' c' ∧ OwnZ wx v0.heap.size (.slice A' n' c') (acc3 x0 x1 x2 k) ∧ Ok v0 wx) (fun _ _ i _ => 3 - (intOf i).toNat)
      case atStart => exact ⟨0, A, 0, c, Nat.zero_le _, rfl, rfl, HOWN.out, HO1.out⟩
      case round =>
        obtain ⟨k, A', n', c', hk, rfl, rfl, hown, okx⟩ := hrel
        have HOW := Lib.hid hown
        have HOX := Lib.hid okx
        clear hown
        by_cases hlt : k < 3
        · have hk3 : k = 0 ∨ k = 1 ∨ k = 2 := by omega
          rcases hk3 with rfl | rfl | rfl
          · have C0 := Ok.cell okx h0
            have HS := Lib.hid (okx.ints S0.out)
            go_wp2_with (at_builtin; go_must (refine wpList_appZ rfl (.tmp 31) (.tmp 32) rfl v0.heap.size (.slice A' n' c') [] x0 (.slice A0 n0 c0) rfl rfl HOW.out HS.out (by rw [E0.out]; simp; omega) HOX.out.size ?_; intro B2 c2' w2 hown2 hb2; have HOW2 := Lib.hid hown2; have HB2 := Lib.hid hb2; clear hown2 hb2))
            go_roundw
            case rel => exact ⟨1, B2, _, c2', by omega, by first | go_num | simp, rfl, by have := HOW2.out; simpa [acc3] using this, Below.trans HOX.out HB2.out⟩
            case measure => simp [intOf]
          · have C0 := Ok.cell okx h1
            have HS := Lib.hid (okx.ints S1.out)
            go_wp2_with (at_builtin; go_must (refine wpList_appZ rfl (.tmp 31) (.tmp 32) rfl v0.heap.size (.slice A' n' c') x0 x1 (.slice A1 n1 c1) rfl rfl HOW.out HS.out (by rw [E0.out, E1.out]; omega) HOX.out.size ?_; intro B2 c2' w2 hown2 hb2; have HOW2 := Lib.hid hown2; have HB2 := Lib.hid hb2; clear hown2 hb2))
            go_roundw
            case rel => exact ⟨2, B2, _, c2', by omega, by first | go_num | simp, rfl, HOW2.out, Below.trans HOX.out HB2.out⟩
            case measure => simp [intOf]
          · have C0 := Ok.cell okx h2
            have HS := Lib.hid (okx.ints S2.out)
            go_wp2_with (at_builtin; go_must (refine wpList_appZ rfl (.tmp 31) (.tmp 32) rfl v0.heap.size (.slice A' n' c') (x0 ++ x1) x2 (.slice A2 n2 c2) rfl rfl HOW.out HS.out (by rw [List.length_append, E0.out, E1.out, E2.out]; omega) HOX.out.size ?_; intro B2 c2' w2 hown2 hb2; have HOW2 := Lib.hid hown2; have HB2 := Lib.hid hb2; clear hown2 hb2))
            go_roundw
            case rel => exact ⟨3, B2, _, c2', by omega, by first | go_num | simp, rfl, by have := HOW2.out; rw [List.append_assoc, List.length_append] at this; exact this, Below.trans HOX.out HB2.out⟩
            case measure => simp [intOf]
        · obtain rfl : k = 3 := by omega
          obtain ⟨_, _, he⟩ := HOW.out.form
          simp only [Value.slice.injEq] at he
          obtain ⟨-, rfl, -⟩ := he
          go_wp2
          go_ret
          exact ⟨A', c', rfl, HOW.out, HOX.out⟩

theorem sortI_w (A : Option Addr) (n c : Nat) (zs : List Int) (base : Nat) (w : World) (hl : zs.length ≤ 1000000) (h : OwnZ w base (.slice A n c) zs) :
    Calls Try.prog 118 #[.slice A n c] w fun e w' => e = .returned (.tuple #[]) ∧ OwnZ w' base (.slice A n c) (sortI zs) ∧ Below base w w' := by
  have hrow : w.ownsRow base 3 1 (.slice A n c) zs.length (zs.map (Value.int .i64)) := h
  rcases hrow.2 with ⟨e, hz⟩ | ⟨gb, cap, cur, e, hbase, hgb, r1, r2, r3, r4⟩
  · have hss : zs = [] := List.eq_nil_of_length_eq_zero hz
    subst hss
    simp only [Value.slice.injEq] at e
    obtain ⟨rfl, rfl, rfl⟩ := e
    refine (Try.slices_Sort_int_none none 0 w).mono ?_
    rintro e' w' ⟨rfl, rfl⟩
    exact ⟨rfl, by simpa [sortI] using h, Below.refl _ _⟩
  · simp only [Value.slice.injEq] at e
    obtain ⟨rfl, rfl, rfl⟩ := e
    have hH := holds_of_blockI (ss := zs) hgb (by simpa using r4)
    have hgl : gb < w.heap.size := (Array.getElem?_eq_some_iff.1 hgb).1
    refine (Try.slices_Sort_int gb 0 c zs w hH hgl (by omega)).mono ?_
    rintro e' w' ⟨rfl, nn, os, rfl⟩
    have hrw := ownsRow_sortedI (n := nn) (os := os) (ss := zs) (ts := sortI zs) (sortI_len zs) hbase hgb r1 r2 r3
    refine ⟨rfl, ?_, ?_⟩
    · unfold OwnZ; rw [sortI_len]; exact hrw
    · exact (Below.refl base w).grown (grownBy_sortedI _) (by omega) (fun j hj => by cases hj; exact hbase)
theorem compact_none : Lib.compact ([] : List Int) = [] := by
  have := Lib.compact_length_le ([] : List Int)
  exact List.eq_nil_of_length_eq_zero (by simpa using this)
theorem compactI_w (A : Option Addr) (n c : Nat) (zs : List Int) (base : Nat) (w : World) (hl : zs.length ≤ 1000000) (h : OwnZ w base (.slice A n c) zs) :
    Calls Try.prog 119 #[.slice A n c] w fun e w' => e = .returned (.slice A (Lib.compact zs).length c) ∧ OwnZ w' base (.slice A (Lib.compact zs).length c) (Lib.compact zs) ∧ Below base w w' := by
  have hrow : w.ownsRow base 3 1 (.slice A n c) zs.length (zs.map (Value.int .i64)) := h
  rcases hrow.2 with ⟨e, hz⟩ | ⟨gb, cap, cur, e, hbase, hgb, r1, r2, r3, r4⟩
  · have hss : zs = [] := List.eq_nil_of_length_eq_zero hz
    subst hss
    simp only [Value.slice.injEq] at e
    obtain ⟨rfl, rfl, rfl⟩ := e
    rw [compact_none]
    refine (Try.slices_Compact_int_empty none 0 w).mono ?_
    rintro e' w' ⟨rfl, rfl⟩
    exact ⟨rfl, h, Below.refl _ _⟩
  · simp only [Value.slice.injEq] at e
    obtain ⟨rfl, rfl, rfl⟩ := e
    have hH := holds_of_blockI (ss := zs) hgb (by simpa using r4)
    have hgl : gb < w.heap.size := (Array.getElem?_eq_some_iff.1 hgb).1
    refine (Try.slices_Compact_int gb 0 c zs w hH (by omega) r1).mono ?_
    rintro e' w' ⟨rfl, q, rfl⟩
    have hcl := Lib.compact_length_le zs
    have hlen : (Lib.compact zs ++ List.replicate (zs.length - (Lib.compact zs).length) 0).length = zs.length := by
      rw [List.length_append, List.length_replicate]; omega
    have hrw := ownsRow_sortedI (n := q) (os := #[]) (ss := zs) (ts := Lib.compact zs ++ List.replicate (zs.length - (Lib.compact zs).length) 0) hlen hbase hgb r1 r2 r3
    rw [grow_empty] at hrw
    have hgr := grownBy_sortedI (w := w) (g := gb) (n := q) (os := #[]) (Lib.compact zs ++ List.replicate (zs.length - (Lib.compact zs).length) 0).toArray
    rw [grow_empty] at hgr
    refine ⟨rfl, ?_, (Below.refl base w).grown hgr (by omega) (fun j hj => by cases hj; exact hbase)⟩
    rcases hrw.2 with ⟨e, _⟩ | ⟨g', cap', cur', e, hb', hg', q1, q2, q3, q4⟩
    · simp at e
    · simp only [Value.slice.injEq, Option.some.injEq, Addr.mk.injEq, and_true, true_and] at e
      obtain ⟨rfl, rfl⟩ := e
      refine ⟨by simp, .inr ⟨gb, c, cur', rfl, hbase, hg', by omega, q2, q3, ?_⟩⟩
      have h1 : (cur'.toList.take (zs.length * 1)).take ((Lib.compact zs).length * 1) = (Lib.compact zs).map (Value.int .i64) := by
        rw [q4, List.map_append, List.take_left' (by simp)]
      rw [List.take_take, Nat.min_eq_left (by omega)] at h1
      exact h1

end Go.Proofs.Ytolfdncmlfnbdaa
