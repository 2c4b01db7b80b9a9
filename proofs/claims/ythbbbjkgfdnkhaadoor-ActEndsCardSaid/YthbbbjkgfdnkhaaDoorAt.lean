/- Of, walked: the acts of a key, in a row of the call's own. -/
import Derived.Test.YthbbbjkgfdnkhaaDoorAs
import Derived.Test.YthbbbjkgfdnkhaaDoorAn
namespace Go.Proofs.YthbbbjkgfdnkhaaDoor
open Go.RowKit Go.Sort
def flat4 (xs : List Ac) : List Value := xs.flatMap fun a => [.int .u8 a.kind, .string a.key, .string a.value, .int .i64 a.num]
theorem flat4_append (xs ys : List Ac) : flat4 (xs ++ ys) = flat4 xs ++ flat4 ys := List.flatMap_append
theorem flat4_len (xs : List Ac) : (flat4 xs).length = xs.length * 4 := by
  induction xs with
  | nil => rfl
  | cons x xs ih =>
    have : flat4 (x :: xs) = [.int .u8 x.kind, .string x.key, .string x.value, .int .i64 x.num] ++ flat4 xs := rfl
    rw [this, List.length_append, ih, List.length_cons]
    simp only [List.length_cons, List.length_nil]
    omega
theorem flat4_one (xs : List Ac) : ∀ v ∈ flat4 xs, v.oneCell' = true := fun v hv => by
  obtain ⟨r, _, h⟩ := List.mem_flatMap.1 hv
  simp only [List.mem_cons, List.not_mem_nil, or_false] at h
  rcases h with rfl | rfl | rfl | rfl <;> rfl
/-- A row of acts of the call's own; it may be nil. -/
def OwnA (w : World) (base : Nat) (A : Option Addr) (n c : Nat) (xs : List Ac) : Prop := w.ownsRow base 52 4 (.slice A n c) xs.length (flat4 xs) ∧ n = xs.length
theorem OwnA.nil (w : World) (base : Nat) : OwnA w base none 0 0 [] := ⟨World.ownsRow_nil _ _ _ _, rfl⟩
theorem OwnA.alloc {w : World} {B : Nat} {A : Option Addr} {n c : Nat} {xs : List Ac} (h : OwnA w B A n c xs) (o : Obj) : OwnA (w.alloc o) B A n c xs := ⟨h.1.alloc o, h.2⟩
theorem OwnA.ok {w w' : World} {B : Nat} {A : Option Addr} {n c : Nat} {xs : List Ac} (h : OwnA w B A n c xs) (k : Ok w w') : OwnA w' B A n c xs := by
  refine ⟨h.1.kept (row := none) ⟨k.os, k.tape, k.output, k.size, fun i hi _ => k.block i hi⟩ ?_, h.2⟩
  cases Value.ownBlock (.slice A n c) with
  | none => exact .inl rfl
  | some b => exact .inr (fun e => by cases e)
/-- An act appended. -/
theorem wpList_appA {ops : Array Oper} {rest : List Oper} {o : Oper} {a : Act} {w : World} {Q : Exit → Act → World → Prop} (hgd : o.guard = none) (s x : Operand)
    (ho : o.op = .call { callee := .builtin .append, args := #[s, x], argTypes := #[22, 22] })
    (base : Nat) (A : Option Addr) (n c : Nat) (xs : List Ac) (hs : a.eval s = .slice A n c) (hown : OwnA w base A n c xs)
    (b : Nat) (y : Ac) (hx : a.eval x = .slice (some ⟨b, 0, none⟩) 1 1) (hc : w.heap[b]? = some (.cells #[.int .u8 y.kind, .string y.key, .string y.value, .int .i64 y.num] 52 (0, 0))) (hlen : xs.length ≤ 100000) (hbase : base ≤ w.heap.size)
    (hk : ∀ A' c' w', OwnA w' base A' (n + 1) c' (xs ++ [y]) → Below base w w' → wpList Tryd.prog ops Q rest (a.put o.dst (.slice A' (n + 1) c')) w') : wpList Tryd.prog ops Q (o :: rest) a w := by
  obtain ⟨i0, hi, hz0, hz1, hz2⟩ := info_parts info52
  obtain ⟨hown, rfl⟩ := hown
  refine wpList_append_own_at _ hgd s x 22 ho base 52 i0 (.agg #[.int .u8 0, .string ⟨#[]⟩, .string ⟨#[]⟩, .int .i64 0]) 4 48 Tryd.underlying22 hi hz0 hz1 hz2 rfl (by decide) _ xs.length (flat4 xs) hs hown ⟨b, 0, none⟩ 1 1 (flat4 [y]) hx rfl ?_ (flat4_one [y]) (by unfold maxLen; omega) (by omega) hbase ?_
  · intro j u hu
    rw [add_off, Nat.zero_add, cell_of_heap hc, ← Array.getElem?_toList]
    exact hu
  intro v' w' h2 h3 _ _
  have hb : Below base w w' := (Below.refl base w).grown h3 hbase (fun k hk => (World.ownsRow.lt hown k hk).1)
  rw [← flat4_append] at h2
  rcases h2.2 with ⟨_, h5⟩ | ⟨g', cap', cur, rfl, _⟩
  · omega
  · exact hk _ _ w' ⟨by rw [List.length_append]; exact h2, by simp⟩ hb
theorem ofL_take (k : Tx) (l : List Ac) (i : Nat) (h : i < l.length) : ofL k (l.take (i + 1)) = ofL k (l.take i) ++ (if (atA l i).key.data.toList = k then [atA l i] else []) := by
  have e : atA l i = l[i] := by simp [atA, List.getD, h]
  rw [List.take_succ_eq_append_getElem h, e]
  unfold ofL
  rw [List.filter_append]
  congr 1
  by_cases hk : l[i].key.data.toList = k
  · rw [if_pos hk]; simp [hk]
  · rw [if_neg hk]; simp [hk]
theorem ofL_le (k : Tx) (l : List Ac) : (ofL k l).length ≤ l.length := List.length_filter_le _ _
def OfP (w : World) (xs : List Ac) (e : Ending) (w' : World) : Prop := ∃ (A : Option Addr) (n c : Nat), e = .returned (.slice A n c) ∧ OwnA w' w.heap.size A n c xs ∧ Ok w w'
set_option maxRecDepth 100000 in
set_option maxHeartbeats 4000000 in
theorem of_w (k : Str) (A : Option Addr) (n c : Nat) (l : List Ac) (hn : l.length = n) (hn6 : n ≤ 100000) (w : World) (hI : ActsAt w A l) :
    Calls Tryd.prog 20 #[.string k, .slice A n c] w (OfP w (ofL k.data.toList l)) := by
  have HI := Lib.hid hI
  have HN := Lib.hid hn
  clear hI hn
  go_enter Tryd.func20, Tryd.ntmps20
  go_wp2_with fail
  go_loopw [5, 10] (fun v i wr => ∃ (q : Nat) (A' : Option Addr) (n' c' : Nat), q ≤ n ∧ i = .int .i64 q ∧ v = .slice A' n' c' ∧ OwnA wr w.heap.size A' n' c' (ofL k.data.toList (l.take q)) ∧ Ok w wr) (fun _ i _ => n - (intOf i).toNat)
  case atStart => exact ⟨0, none, 0, 0, Nat.zero_le _, rfl, rfl, OwnA.nil _ _, Ok.refl _⟩
  case round =>
    obtain ⟨q, A', n', c', hq, rfl, rfl, hown, okr⟩ := hrel
    have HOW := Lib.hid hown
    have HOKR := Lib.hid okr
    clear hown okr
    by_cases hlt : q < n
    · have d1 : decide ((q : Int) < (n : Int)) = true := decide_eq_true (by omega)
      obtain ⟨b, off, rfl, C0, C1, C2, C3⟩ := (HI.out.ok HOKR.out) q (by rw [HN.out]; exact hlt)
      have HT := Lib.hid (ofL_take k.data.toList l q (by rw [HN.out]; exact hlt))
      have HLE : Hid ((ofL k.data.toList (l.take q)).length ≤ 100000) := Lib.hid (by have := ofL_le k.data.toList (l.take q); rw [List.length_take] at this; omega)
      generalize atA l q = a at *
      obtain ⟨kind, key, value, num⟩ := a
      simp only at C0 C1 C2 C3
      have hi0 : (0 : Int) ≤ (q : Int) := Int.natCast_nonneg _
      have hi1 : (q : Int) < (n : Int) := by omega
      by_cases he : key.data.toList = k.data.toList
      · have d2 : (key.toList == k.toList) = true := by rw [Go.ByteArray.toList_eq, Go.ByteArray.toList_eq, he]; simp
        have HT2 : Hid (ofL k.data.toList (l.take (q + 1)) = ofL k.data.toList (l.take q) ++ [⟨kind, key, value, num⟩]) := Lib.hid (by rw [HT.out, if_pos he])
        have okA : Hid (Ok w ((wr.alloc (.cells #[.int .u8 kind, .string key, .string value, .int .i64 num] 52)).alloc (.cells #[.int .u8 kind, .string key, .string value, .int .i64 num] 52))) := Lib.hid ((HOKR.out.alloc _).alloc _)
        have HOWA : Hid (OwnA ((wr.alloc (.cells #[.int .u8 kind, .string key, .string value, .int .i64 num] 52)).alloc (.cells #[.int .u8 kind, .string key, .string value, .int .i64 num] 52)) w.heap.size A' n' c' (ofL k.data.toList (l.take q))) := Lib.hid ((HOW.out.alloc _).alloc _)
        have HB : Hid (((wr.alloc (.cells #[.int .u8 kind, .string key, .string value, .int .i64 num] 52)).alloc (.cells #[.int .u8 kind, .string key, .string value, .int .i64 num] 52)).heap[wr.heap.size + 1]? = some (.cells #[.int .u8 kind, .string key, .string value, .int .i64 num] 52 (0, 0))) := Lib.hid (blk_new (by simp))
        clear he HT
        go_wp2_with (at_builtin; go_must (refine wpList_appA rfl (.tmp 18) (.tmp 20) rfl w.heap.size A' n' c' _ rfl HOWA.out (wr.heap.size + 1) ⟨kind, key, value, num⟩ rfl HB.out HLE.out okA.out.size ?_; intro A3 c3 w3 hown3 hb3; have HOW3 := Lib.hid hown3; have HB3 := Lib.hid hb3; clear hown3 hb3))
        refine ⟨⟨q + 1, A3, n' + 1, c3, hlt, by go_num, rfl, ?_, Below.trans okA.out HB3.out⟩, by simp [intOf]; omega⟩
        rw [HT2.out]; exact HOW3.out
      · have d2 : (key.toList == k.toList) = false := by rw [Go.ByteArray.toList_eq, Go.ByteArray.toList_eq]; simpa using he
        have HT2 : Hid (ofL k.data.toList (l.take (q + 1)) = ofL k.data.toList (l.take q)) := Lib.hid (by rw [HT.out, if_neg he, List.append_nil])
        clear he HT
        go_wp2_with fail
        refine ⟨⟨q + 1, A', n', c', hlt, by go_num, rfl, ?_, HOKR.out.alloc _⟩, by simp [intOf]; omega⟩
        rw [HT2.out]; exact HOW.out.alloc _
    · have d1 : decide ((q : Int) < (n : Int)) = false := decide_eq_false (by omega)
      have htk : l.take q = l := List.take_of_length_le (by rw [HN.out]; omega)
      rw [htk] at HOW
      go_wp2_with fail
      go_ret
      exact ⟨A', n', c', rfl, HOW.out, HOKR.out⟩
end Go.Proofs.YthbbbjkgfdnkhaaDoor
