/- ways, Index, Contains, Goes. -/
import Derived.Test.YtdabdkedgigjdaaGreatYa
namespace Go.Proofs.YtdabdkedgigjdaaGreat
open Go.RowKit

def waysL : List (Int × List Int) := [(1, [2, 7]), (2, [3, 7]), (3, [4, 7]), (4, [5]), (5, [6]), (7, [8]), (8, [9])]
def toL (k : Int) : List Int := ((waysL.find? (fun p => p.1 == k)).map (·.2)).getD []
def goesB (a b : Int) : Bool := (toL a).any (fun s => b == s)
def TabPost (w : World) : Ending → World → Prop := fun e w' => ∃ b, e = .returned (.map (some b)) ∧ Tab w' b waysL ∧ Ok w w'

theorem st2 (w : World) (a b : Int) : StN (w.alloc (.cells #[Value.int .u8 a, .int .u8 b] 50)) (.slice (some ⟨w.heap.size, 0, none⟩) 2 2) [a, b] := by
  refine ⟨_, 2, rfl, fun j hj => ⟨_, _, rfl, ?_⟩⟩
  have hj2 : j < 2 := hj
  obtain rfl | rfl : j = 0 ∨ j = 1 := by omega
  · show _ = some (Value.int .u8 a); go_cell
  · show _ = some (Value.int .u8 b); go_cell
theorem st1 (w : World) (a : Int) : StN (w.alloc (.cells #[Value.int .u8 a] 50)) (.slice (some ⟨w.heap.size, 0, none⟩) 1 1) [a] := by
  refine ⟨_, 1, rfl, fun j hj => ⟨_, _, rfl, ?_⟩⟩
  have hj2 : j < 1 := hj
  obtain rfl : j = 0 := by omega
  show _ = some (Value.int .u8 a); go_cell

set_option maxRecDepth 100000 in
set_option maxHeartbeats 2000000 in
theorem ways_w (w : World) : Calls Tryz.prog 85 #[] w (TabPost w) := by
  have hmm := @run_makeMap Tryz.prog
  have T0 : Hid (Tab (w.alloc (.map #[] 0)) w.heap.size []) := Lib.hid (Tab.new w)
  have OK0 : Hid (Ok w (w.alloc (.map #[] 0))) := Lib.hid (Ok.alloc (Ok.refl w) _)
  have tk0 : True := trivial
  obtain ⟨m, hm⟩ : ∃ m, w.heap.size = m := ⟨_, rfl⟩
  have hbase : w.heap.size ≤ m := by omega
  rw [hm] at T0
  go_enter Tryz.func85, Tryz.ntmps85
  go_wp2_with (first
    | (have _t := tk0; refine wpList_ins rfl _ _ _ rfl m [] (T0.out.lit _) 1 _ 2 2 [2, 7] rfl rfl rfl (by omega) (by simpa [hm] using st2 (w.alloc (.map #[] 0)) 2 7) rfl w.heap.size hbase ?_; intro w1 t1 b1; have l1 := t1.lt; have T1 := Lib.hid t1; have OK1 : Hid (Ok w w1) := Lib.hid (Below.trans (Ok.alloc OK0.out (.cells #[Value.int .u8 2, .int .u8 7] 50)) b1); have tk1 : True := trivial; clear t1 b1 tk0)
    | (have _t := tk1; refine wpList_ins rfl _ _ _ rfl m [(1, [2, 7])] (T1.out.lit _) 2 _ 2 2 [3, 7] rfl rfl rfl (by omega) (st2 w1 3 7) rfl w.heap.size hbase ?_; intro w2 t2 b2; have l2 := t2.lt; have T2 := Lib.hid t2; have OK2 : Hid (Ok w w2) := Lib.hid (Below.trans (Ok.alloc OK1.out (.cells #[Value.int .u8 3, .int .u8 7] 50)) b2); have tk2 : True := trivial; clear t2 b2 tk1)
    | (have _t := tk2; refine wpList_ins rfl _ _ _ rfl m [(1, [2, 7]), (2, [3, 7])] (T2.out.lit _) 3 _ 2 2 [4, 7] rfl rfl rfl (by omega) (st2 w2 4 7) rfl w.heap.size hbase ?_; intro w3 t3 b3; have l3 := t3.lt; have T3 := Lib.hid t3; have OK3 : Hid (Ok w w3) := Lib.hid (Below.trans (Ok.alloc OK2.out (.cells #[Value.int .u8 4, .int .u8 7] 50)) b3); have tk3 : True := trivial; clear t3 b3 tk2)
    | (have _t := tk3; refine wpList_ins rfl _ _ _ rfl m [(1, [2, 7]), (2, [3, 7]), (3, [4, 7])] (T3.out.lit _) 4 _ 1 1 [5] rfl rfl rfl (by omega) (st1 w3 5) rfl w.heap.size hbase ?_; intro w4 t4 b4; have l4 := t4.lt; have T4 := Lib.hid t4; have OK4 : Hid (Ok w w4) := Lib.hid (Below.trans (Ok.alloc OK3.out (.cells #[Value.int .u8 5] 50)) b4); have tk4 : True := trivial; clear t4 b4 tk3)
    | (have _t := tk4; refine wpList_ins rfl _ _ _ rfl m [(1, [2, 7]), (2, [3, 7]), (3, [4, 7]), (4, [5])] (T4.out.lit _) 5 _ 1 1 [6] rfl rfl rfl (by omega) (st1 w4 6) rfl w.heap.size hbase ?_; intro w5 t5 b5; have l5 := t5.lt; have T5 := Lib.hid t5; have OK5 : Hid (Ok w w5) := Lib.hid (Below.trans (Ok.alloc OK4.out (.cells #[Value.int .u8 6] 50)) b5); have tk5 : True := trivial; clear t5 b5 tk4)
    | (have _t := tk5; refine wpList_ins rfl _ _ _ rfl m [(1, [2, 7]), (2, [3, 7]), (3, [4, 7]), (4, [5]), (5, [6])] (T5.out.lit _) 7 _ 1 1 [8] rfl rfl rfl (by omega) (st1 w5 8) rfl w.heap.size hbase ?_; intro w6 t6 b6; have l6 := t6.lt; have T6 := Lib.hid t6; have OK6 : Hid (Ok w w6) := Lib.hid (Below.trans (Ok.alloc OK5.out (.cells #[Value.int .u8 8] 50)) b6); have tk6 : True := trivial; clear t6 b6 tk5)
    | (have _t := tk6; refine wpList_ins rfl _ _ _ rfl m [(1, [2, 7]), (2, [3, 7]), (3, [4, 7]), (4, [5]), (5, [6]), (7, [8])] (T6.out.lit _) 8 _ 1 1 [9] rfl rfl rfl (by omega) (st1 w6 9) rfl w.heap.size hbase ?_; intro w7 t7 b7; have l7 := t7.lt; have T7 := Lib.hid t7; have OK7 : Hid (Ok w w7) := Lib.hid (Below.trans (Ok.alloc OK6.out (.cells #[Value.int .u8 9] 50)) b7); have tk7 : True := trivial; clear t7 b7 tk6))
  go_ret
  exact ⟨m, rfl, T7.out, OK7.out⟩

set_option maxRecDepth 100000 in
set_option maxHeartbeats 2000000 in
theorem index_w (v : Value) (ss : List Int) (k : Int) (hn6 : ss.length ≤ 1000000) (w : World) (hI : StN w v ss) : Calls Tryz.prog 113 #[v, .int .u8 k] w (Ret w (.int .i64 (match ss.findIdx? (fun s => k == s) with | some i => (i : Int) | none => -1))) := by
  obtain ⟨A, c, rfl, hc⟩ := hI
  obtain ⟨R, hR⟩ : ∃ R : Int, (match ss.findIdx? (fun s => k == s) with | some i => (i : Int) | none => -1) = R := ⟨_, rfl⟩
  rw [hR]
  obtain ⟨n, hn⟩ : ∃ n, ss.length = n := ⟨_, rfl⟩
  have HC := Lib.hid hc
  have HN := Lib.hid hn
  have HS : Hid (∀ j (h : j < ss.length), (k == ss[j]) = true → (∀ i (h : i < ss.length), i < j → (k == ss[i]) = false) → R = (j : Int)) := Lib.hid fun j h h1 h2 => by
    have e : ss.findIdx? (fun s => k == s) = some j := by
      rw [List.findIdx?_eq_some_iff_getElem]
      exact ⟨h, h1, fun i hi => by rw [h2 i (by omega) hi]; simp⟩
    rw [← hR, e]
  have HZ : Hid ((∀ i (h : i < ss.length), (k == ss[i]) = false) → R = -1) := Lib.hid fun h2 => by
    have e : ss.findIdx? (fun s => k == s) = none := by
      rw [List.findIdx?_eq_none_iff]
      intro x hx
      obtain ⟨j, hj, rfl⟩ := List.mem_iff_getElem.1 hx
      exact h2 j hj
    rw [← hR, e]
  rw [hn] at hn6 ⊢
  clear hR hc hn
  go_enter Tryz.func113, Tryz.ntmps113
  go_wp2_with fail
  go_loopw [5, 8] (fun _ i wr => ∃ q : Nat, q ≤ n ∧ i = .int .i64 q ∧ (∀ i (h : i < ss.length), i < q → (k == ss[i]) = false) ∧ wr = w) (fun _ i _ => n - (intOf i).toNat)
  case atStart => exact ⟨0, Nat.zero_le _, rfl, fun j _ hj => absurd hj (Nat.not_lt_zero _), rfl⟩
  case round =>
    obtain ⟨q, hq, rfl, hb, rfl⟩ := hrel
    have HB := Lib.hid hb
    clear hb
    by_cases hlt : q < n
    · have d1 : decide ((q : Int) < (n : Int)) = true := decide_eq_true (by omega)
      obtain ⟨b, off, rfl, C0⟩ := HC.out q (by rw [HN.out]; exact hlt)
      have HS := Lib.hid (HS.out q (by rw [HN.out]; exact hlt))
      have HX : Hid (∀ z : Int, z = ss[q]'(by rw [HN.out]; exact hlt) → (k == z) = false → ∀ i (h : i < ss.length), i < q + 1 → (k == ss[i]) = false) := Lib.hid fun z hz h i hi hiq => by
        by_cases hik : i < q
        · exact HB.out i hi hik
        · obtain rfl : i = q := by omega
          rw [← hz]; exact h
      have HZQ := Lib.hid (HX.out _ rfl)
      obtain ⟨z, hz⟩ : ∃ z, ss[q]'(by rw [HN.out]; exact hlt) = z := ⟨_, rfl⟩
      rw [hz] at C0
      have HS2 : Hid ((k == z) = true → R = (q : Int)) := Lib.hid fun h => HS.out (by rw [hz]; exact h) (fun i h2 hi => HB.out i h2 hi)
      have HX2 : Hid ((k == z) = false → ∀ i (h : i < ss.length), i < q + 1 → (k == ss[i]) = false) := Lib.hid fun h => HX.out z hz.symm h
      clear HS HX HZQ hz
      have hi0 : (0 : Int) ≤ (q : Int) := Int.natCast_nonneg _
      have hi1 : (q : Int) < (n : Int) := by omega
      cases hk : k == z with
      | true =>
        have hr := HS2.out hk
        go_wp2
        go_ret
        exact ⟨by rw [hr]; rfl, Ok.refl _⟩
      | false =>
        have HNX := Lib.hid (HX2.out hk)
        go_wp2
        refine ⟨⟨q + 1, hlt, rfl, HNX.out, by first | rfl | trivial⟩, ?_⟩
        show n - ((q : Int) + 1).toNat < n - (q : Int).toNat
        omega
    · have d1 : decide ((q : Int) < (n : Int)) = false := decide_eq_false (by omega)
      have hr := HZ.out fun i hi => HB.out i hi (by rw [HN.out] at hi; omega)
      go_wp2
      go_ret
      exact ⟨by rw [hr]; rfl, Ok.refl _⟩
theorem find_any (ss : List Int) (k : Int) : decide (0 ≤ (match ss.findIdx? (fun s => k == s) with | some i => (i : Int) | none => -1)) = ss.any (fun s => k == s) := by
  cases h : ss.findIdx? (fun s => k == s) with
  | none =>
    rw [List.findIdx?_eq_none_iff] at h
    have : ss.any (fun s => k == s) = false := by rw [List.any_eq_false]; intro x hx; rw [h x hx]; simp
    rw [this]; rfl
  | some i =>
    rw [List.findIdx?_eq_some_iff_getElem] at h
    obtain ⟨hi, hq, _⟩ := h
    have : ss.any (fun s => k == s) = true := List.any_eq_true.2 ⟨ss[i], List.getElem_mem hi, hq⟩
    rw [this]
    simp
set_option maxRecDepth 100000 in
set_option maxHeartbeats 2000000 in
theorem containsS_w (v : Value) (ss : List Int) (k : Int) (hn6 : ss.length ≤ 1000000) (w : World) (hI : StN w v ss) : Calls Tryz.prog 84 #[v, .int .u8 k] w (Ret w (.bool (ss.any (fun s => k == s)))) := by
  have hx := index_w v ss k hn6 w hI
  rw [← find_any]
  generalize (match ss.findIdx? (fun s => k == s) with | some i => (i : Int) | none => -1) = r at hx ⊢
  obtain ⟨A, c, rfl, _⟩ := hI
  generalize ss.length = n at hx ⊢
  go_enter Tryz.func84, Tryz.ntmps84
  go_wp2_with fail
  refine hx.mono ?_
  rintro _ w1 ⟨rfl, o1⟩
  go_wp2
  go_ret
  exact ⟨rfl, o1⟩
theorem toL_len (k : Int) : (toL k).length ≤ 1000000 := by
  unfold toL waysL
  simp only [List.find?_cons, List.find?_nil]
  repeat' split
  all_goals simp
set_option maxRecDepth 100000 in
set_option maxHeartbeats 2000000 in
theorem goes_w (a b : Int) (w : World) : Calls Tryz.prog 37 #[.int .u8 a, .int .u8 b] w (Ret w (.bool (goesB a b))) := by
  have HW := Lib.hid ways_w
  have HCN := Lib.hid (fun v w hI => containsS_w v (toL a) b (toL_len a) w hI)
  unfold goesB
  generalize (toL a).any (fun s => b == s) = r at HCN ⊢
  go_enter Tryz.func37, Tryz.ntmps37
  go_wp2_with fail
  refine (HW.out _).mono ?_
  rintro _ w1 ⟨m, rfl, tb, o1⟩
  have TB := Lib.hid tb
  clear tb
  go_wp2_with (first
    | (at_lookup; refine wpList_look rfl _ _ rfl m waysL TB.out a rfl rfl ?_; intro v hv; obtain ⟨A, c, rfl, hc⟩ := hv; have HV : Hid (StN w1 (.slice A (((waysL.find? (fun p => p.1 == a)).map (·.2)).getD []).length c) (toL a)) := Lib.hid ⟨A, c, rfl, hc⟩; generalize (((waysL.find? (fun p => p.1 == a)).map (·.2)).getD []).length = n at HV ⊢; clear hc))
  refine (HCN.out _ _ HV.out).mono ?_
  rintro _ w2 ⟨rfl, o2⟩
  go_wp2
  go_ret
  exact ⟨rfl, Ok.call o1 o2⟩
end Go.Proofs.YtdabdkedgigjdaaGreat
