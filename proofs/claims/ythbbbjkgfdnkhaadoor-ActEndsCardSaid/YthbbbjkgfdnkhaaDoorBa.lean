/- Names; texts and acts compared; the reference's Older and Of. -/
import Derived.Test.YthbbbjkgfdnkhaaDoorAt
import Derived.Test.YthbbbjkgfdnkhaaDoorAq
namespace Go.Proofs.YthbbbjkgfdnkhaaDoor
open Go.RowKit
def nameB (a : Nm) : Bool := if 1 ≤ a.c then (if a.c ≤ 8 then (if 1 ≤ a.n then decide (a.n ≤ 1073741824) else false) else false) else false
set_option maxHeartbeats 1000000 in
theorem name16_w (a : Nm) (w : World) : Calls Tryd.prog 16 #[nmV a] w (Ret w (.bool (nameB a))) := by
  obtain ⟨ac, an⟩ := a
  have hO := Lib.hid ((Ok.refl w).alloc (.cells #[.int .i64 ac, .int .i64 an] 24))
  unfold nmV nameB
  simp only
  by_cases h1 : 1 ≤ ac
  · have d1 : decide (1 ≤ ac) = true := decide_eq_true h1
    rw [if_pos h1]
    clear h1
    by_cases h2 : ac ≤ 8
    · have d2 : decide (ac ≤ 8) = true := decide_eq_true h2
      rw [if_pos h2]
      clear h2
      by_cases h3 : 1 ≤ an
      · have d3 : decide (1 ≤ an) = true := decide_eq_true h3
        rw [if_pos h3]
        clear h3
        generalize hb : decide (an ≤ 1073741824) = bb
        go_enter Tryd.func16, Tryd.ntmps16
        go_wp2_with fail
        go_ret
        exact ⟨by simp, hO.out⟩
      · have d3 : decide (1 ≤ an) = false := decide_eq_false h3
        rw [if_neg h3]
        clear h3
        go_enter Tryd.func16, Tryd.ntmps16
        go_wp2_with fail
        go_ret
        exact ⟨rfl, hO.out⟩
    · have d2 : decide (ac ≤ 8) = false := decide_eq_false h2
      rw [if_neg h2]
      clear h2
      go_enter Tryd.func16, Tryd.ntmps16
      go_wp2_with fail
      go_ret
      exact ⟨rfl, hO.out⟩
  · have d1 : decide (1 ≤ ac) = false := decide_eq_false h1
    rw [if_neg h1]
    clear h1
    go_enter Tryd.func16, Tryd.ntmps16
    go_wp2_with fail
    go_ret
    exact ⟨rfl, hO.out⟩
set_option maxHeartbeats 1000000 in
theorem name17_w (a : Nm) (w : World) : Calls Tryd.prog 17 #[nmV a] w (Ret w (.bool (nameB a))) := by
  obtain ⟨ac, an⟩ := a
  have hO := Lib.hid ((Ok.refl w).alloc (.cells #[.int .i64 ac, .int .i64 an] 24))
  unfold nmV nameB
  simp only
  by_cases h1 : 1 ≤ ac
  · have d1 : decide (1 ≤ ac) = true := decide_eq_true h1
    rw [if_pos h1]
    clear h1
    by_cases h2 : ac ≤ 8
    · have d2 : decide (ac ≤ 8) = true := decide_eq_true h2
      rw [if_pos h2]
      clear h2
      by_cases h3 : 1 ≤ an
      · have d3 : decide (1 ≤ an) = true := decide_eq_true h3
        rw [if_pos h3]
        clear h3
        generalize hb : decide (an ≤ 1073741824) = bb
        go_enter Tryd.func17, Tryd.ntmps17
        go_wp2_with fail
        go_ret
        exact ⟨by simp, hO.out⟩
      · have d3 : decide (1 ≤ an) = false := decide_eq_false h3
        rw [if_neg h3]
        clear h3
        go_enter Tryd.func17, Tryd.ntmps17
        go_wp2_with fail
        go_ret
        exact ⟨rfl, hO.out⟩
    · have d2 : decide (ac ≤ 8) = false := decide_eq_false h2
      rw [if_neg h2]
      clear h2
      go_enter Tryd.func17, Tryd.ntmps17
      go_wp2_with fail
      go_ret
      exact ⟨rfl, hO.out⟩
  · have d1 : decide (1 ≤ ac) = false := decide_eq_false h1
    rw [if_neg h1]
    clear h1
    go_enter Tryd.func17, Tryd.ntmps17
    go_wp2_with fail
    go_ret
    exact ⟨rfl, hO.out⟩
set_option maxHeartbeats 1000000 in
theorem rolder_w (a b : Nm) (w : World) : Calls Tryd.prog 19 #[nmV a, nmV b] w (Ret w (.bool (oldB a b))) := by
  obtain ⟨ac, an⟩ := a
  obtain ⟨bc, bn⟩ := b
  have hO := Lib.hid ((Ok.refl w).alloc (.cells #[.int .i64 ac, .int .i64 an] 24))
  unfold nmV oldB
  simp only
  by_cases h1 : an < bn
  · have d1 : decide (an < bn) = true := decide_eq_true h1
    rw [if_pos h1]
    clear h1
    go_enter Tryd.func19, Tryd.ntmps19
    go_wp2_with fail
    go_ret
    exact ⟨rfl, hO.out.alloc _⟩
  · have d1 : decide (an < bn) = false := decide_eq_false h1
    rw [if_neg h1]
    clear h1
    by_cases h2 : an = bn
    · subst h2
      have d2 : (an == an) = true := by simp
      by_cases h3 : ac < bc
      · have d3 : decide (ac < bc) = true := decide_eq_true h3
        rw [d3]
        clear h3
        go_enter Tryd.func19, Tryd.ntmps19
        go_wp2_with fail
        go_ret
        exact ⟨by simp, hO.out.alloc _⟩
      · have d3 : decide (ac < bc) = false := decide_eq_false h3
        rw [d3]
        clear h3
        go_enter Tryd.func19, Tryd.ntmps19
        go_wp2_with fail
        go_ret
        exact ⟨by simp, hO.out.alloc _⟩
    · have d2 : (an == bn) = false := by simpa using h2
      rw [show decide (an = bn) = false from decide_eq_false h2]
      clear h2
      go_enter Tryd.func19, Tryd.ntmps19
      go_wp2_with fail
      go_ret
      exact ⟨by simp, hO.out.alloc _⟩
set_option maxRecDepth 100000 in
set_option maxHeartbeats 4000000 in
theorem sameTx_w (A B : Option Addr) (n c d : Nat) (l : List Tx) (hn : l.length = n) (hn5 : n ≤ 100000) (w : World) (hA : TxAt w A l) (hB : TxAt w B l) :
    Calls Tryd.prog 21 #[.slice A n c, .slice B n d] w (Ret w (.bool true)) := by
  have HA := Lib.hid hA
  have HB := Lib.hid hB
  have HN := Lib.hid hn
  have d0 : ((n : Int) != (n : Int)) = false := by simp
  clear hA hB hn
  go_enter Tryd.func21, Tryd.ntmps21
  go_wp2_with fail
  go_loopw [5] (fun i wr => ∃ k : Nat, k ≤ n ∧ i = .int .i64 k ∧ Ok w wr) (fun i _ => n - (intOf i).toNat)
  case atStart => exact ⟨0, Nat.zero_le _, rfl, Ok.refl _⟩
  case round =>
    obtain ⟨k, hk, rfl, okr⟩ := hrel
    have HOKR := Lib.hid okr
    clear okr
    by_cases hlt : k < n
    · have d1 : decide ((k : Int) < (n : Int)) = true := decide_eq_true (by omega)
      obtain ⟨b, off, rfl, C0⟩ := HA.out.ok HOKR.out k (by rw [HN.out]; exact hlt)
      obtain ⟨b', off', rfl, D0⟩ := HB.out.ok HOKR.out k (by rw [HN.out]; exact hlt)
      generalize (⟨(l.getD k []).toArray⟩ : ByteArray) = x at *
      have hi0 : (0 : Int) ≤ (k : Int) := Int.natCast_nonneg _
      have hi1 : (k : Int) < (n : Int) := by omega
      have d2 : (x.toList != x.toList) = false := by simp
      go_wp2_with fail
      go_quiet (fail)
      go_wp2_with fail
      refine ⟨⟨k + 1, hlt, by go_num, Below.trans HOKR.out ⟨rfl, rfl, rfl, Nat.le_refl _, fun _ _ => rfl⟩⟩, by simp [intOf]; omega⟩
    · have d1 : decide ((k : Int) < (n : Int)) = false := decide_eq_false (by omega)
      go_wp2_with fail
      go_ret
      exact ⟨rfl, HOKR.out⟩
theorem eq52 (a d : Int) (b c : Str) (w : World) : (Op.equalIn 10000 52 (.agg #[.int .u8 a, .string b, .string c, .int .i64 d]) (.agg #[.int .u8 a, .string b, .string c, .int .i64 d])).run Tryd.prog w = .ok true w := by
  have u9 := Tryd.underlying9
  have u3 := Tryd.underlying3
  have u50 := Tryd.underlying50
  have a9 := Tryd.isAgg9
  have a3 := Tryd.isAgg3
  have a50 := Tryd.isAgg50
  have z9 := Tryd.sizeOf9
  have z3 := Tryd.sizeOf3
  have z50 := Tryd.sizeOf50
  have hS : Tryd.prog.underlying 52 = some (.struct (Tryd.prog.fieldsOf 52)) := by kernel_rfl
  have hp : Tryd.prog.stoodInHeld 52 = false := by kernel_rfl
  rw [show (10000 : Nat) = 9999 + 1 from rfl, run_equalIn_agg w 9999 52 _ _ hS hp]
  simp only [Program.fieldsOf, Tryd.underlying52]
  go_simp
set_option maxRecDepth 100000 in
set_option maxHeartbeats 4000000 in
theorem sameAc_w (A B : Option Addr) (n c d : Nat) (l : List Ac) (hn : l.length = n) (hn5 : n ≤ 100000) (w : World) (hA : ActsAt w A l) (hB : ActsAt w B l) :
    Calls Tryd.prog 24 #[.slice A n c, .slice B n d] w (Ret w (.bool true)) := by
  have HA := Lib.hid hA
  have HB := Lib.hid hB
  have HN := Lib.hid hn
  have d0 : ((n : Int) != (n : Int)) = false := by simp
  have heq := eq52
  clear hA hB hn
  go_enter Tryd.func24, Tryd.ntmps24
  go_wp2_with fail
  go_loopw [5] (fun i wr => ∃ k : Nat, k ≤ n ∧ i = .int .i64 k ∧ Ok w wr) (fun i _ => n - (intOf i).toNat)
  case atStart => exact ⟨0, Nat.zero_le _, rfl, Ok.refl _⟩
  case round =>
    obtain ⟨k, hk, rfl, okr⟩ := hrel
    have HOKR := Lib.hid okr
    clear okr
    by_cases hlt : k < n
    · have d1 : decide ((k : Int) < (n : Int)) = true := decide_eq_true (by omega)
      obtain ⟨b, off, rfl, C0, C1, C2, C3⟩ := HA.out.ok HOKR.out k (by rw [HN.out]; exact hlt)
      obtain ⟨b', off', rfl, D0, D1, D2, D3⟩ := HB.out.ok HOKR.out k (by rw [HN.out]; exact hlt)
      generalize atA l k = x at *
      obtain ⟨kind, key, value, num⟩ := x
      simp only at C0 C1 C2 C3 D0 D1 D2 D3
      have hi0 : (0 : Int) ≤ (k : Int) := Int.natCast_nonneg _
      have hi1 : (k : Int) < (n : Int) := by omega
      go_wp2_with fail
      go_quiet (fail)
      go_wp2_with fail
      refine ⟨⟨k + 1, hlt, by go_num, Below.trans HOKR.out ⟨rfl, rfl, rfl, Nat.le_refl _, fun _ _ => rfl⟩⟩, by simp [intOf]; omega⟩
    · have d1 : decide ((k : Int) < (n : Int)) = false := decide_eq_false (by omega)
      go_wp2_with fail
      go_ret
      exact ⟨rfl, HOKR.out⟩
set_option maxRecDepth 100000 in
set_option maxHeartbeats 4000000 in
theorem rof_w (k : Str) (A : Option Addr) (n c : Nat) (l : List Ac) (hn : l.length = n) (hn6 : n ≤ 100000) (w : World) (hI : ActsAt w A l) :
    Calls Tryd.prog 25 #[.string k, .slice A n c] w (OfP w (ofL k.data.toList l)) := by
  have HI := Lib.hid hI
  have HN := Lib.hid hn
  clear hI hn
  go_enter Tryd.func25, Tryd.ntmps25
  go_wp2_with fail
  go_loopw [5, 6] (fun v i wr => ∃ (q : Nat) (A' : Option Addr) (n' c' : Nat), q ≤ n ∧ i = .int .i64 q ∧ v = .slice A' n' c' ∧ OwnA wr w.heap.size A' n' c' (ofL k.data.toList (l.take q)) ∧ Ok w wr) (fun _ i _ => n - (intOf i).toNat)
  case atStart => exact ⟨0, none, 0, 0, Nat.zero_le _, rfl, rfl, OwnA.nil _ _, Ok.refl _⟩
  case round =>
    obtain ⟨q, A', n', c', hq, rfl, rfl, hown, okr⟩ := hrel
    have HOW := Lib.hid hown
    have HOKR := Lib.hid okr
    clear hown okr
    by_cases hlt : q < n
    · have d1 : decide ((q : Int) < (n : Int)) = true := decide_eq_true (by omega)
      obtain ⟨b, off, rfl, C0, C1, C2, C3⟩ := (HI.out.ok HOKR.out) q (by rw [HN.out]; exact hlt)
      have HT := Lib.hid (ofL_take k.data.toList l q (by rw [HN.out]; exact hlt))
      have HLE : Hid ((ofL k.data.toList (l.take q)).length ≤ 100000) := Lib.hid (by have := ofL_le k.data.toList (l.take q); rw [List.length_take] at this; omega)
      generalize atA l q = a at *
      obtain ⟨kind, key, value, num⟩ := a
      simp only at C0 C1 C2 C3
      have hi0 : (0 : Int) ≤ (q : Int) := Int.natCast_nonneg _
      have hi1 : (q : Int) < (n : Int) := by omega
      by_cases he : key.data.toList = k.data.toList
      · have d2 : (key.toList == k.toList) = true := by rw [Go.ByteArray.toList_eq, Go.ByteArray.toList_eq, he]; simp
        have HT2 : Hid (ofL k.data.toList (l.take (q + 1)) = ofL k.data.toList (l.take q) ++ [⟨kind, key, value, num⟩]) := Lib.hid (by rw [HT.out, if_pos he])
        have okA : Hid (Ok w (wr.alloc (.cells #[.int .u8 kind, .string key, .string value, .int .i64 num] 52))) := Lib.hid (HOKR.out.alloc _)
        have HOWA : Hid (OwnA (wr.alloc (.cells #[.int .u8 kind, .string key, .string value, .int .i64 num] 52)) w.heap.size A' n' c' (ofL k.data.toList (l.take q))) := Lib.hid (HOW.out.alloc _)
        have HB : Hid ((wr.alloc (.cells #[.int .u8 kind, .string key, .string value, .int .i64 num] 52)).heap[wr.heap.size]? = some (.cells #[.int .u8 kind, .string key, .string value, .int .i64 num] 52 (0, 0))) := Lib.hid (blk_new rfl)
        clear he HT
        go_wp2_with (at_builtin; go_must (refine wpList_appA rfl (.tmp 20) (.tmp 25) rfl w.heap.size A' n' c' _ rfl HOWA.out wr.heap.size ⟨kind, key, value, num⟩ rfl HB.out HLE.out okA.out.size ?_; intro A3 c3 w3 hown3 hb3; have HOW3 := Lib.hid hown3; have HB3 := Lib.hid hb3; clear hown3 hb3))
        refine ⟨⟨q + 1, A3, n' + 1, c3, hlt, by go_num, rfl, ?_, Below.trans okA.out HB3.out⟩, by simp [intOf]; omega⟩
        rw [HT2.out]; exact HOW3.out
      · have d2 : (key.toList == k.toList) = false := by rw [Go.ByteArray.toList_eq, Go.ByteArray.toList_eq]; simpa using he
        have HT2 : Hid (ofL k.data.toList (l.take (q + 1)) = ofL k.data.toList (l.take q)) := Lib.hid (by rw [HT.out, if_neg he, List.append_nil])
        clear he HT
        go_wp2_with fail
        refine ⟨⟨q + 1, A', n', c', hlt, by go_num, rfl, ?_, HOKR.out⟩, by simp [intOf]; omega⟩
        rw [HT2.out]; exact HOW.out
    · have d1 : decide ((q : Int) < (n : Int)) = false := decide_eq_false (by omega)
      have htk : l.take q = l := List.take_of_length_le (by rw [HN.out]; omega)
      rw [htk] at HOW
      go_wp2_with fail
      go_ret
      exact ⟨A', n', c', rfl, HOW.out, HOKR.out⟩
end Go.Proofs.YthbbbjkgfdnkhaaDoor
