/- Keys and Of, walked. -/
import Derived.Test.YthbbbjkgfdnkhaaDoorAr
namespace Go.Proofs.YthbbbjkgfdnkhaaDoor
open Go.RowKit Go.Sort
theorem enc_str (s : Str) : encStr s.data.toList = .string s := by cases s; simp [encStr]
theorem info9 : (Tryd.prog.info? 9).map (fun i => (i.zero, i.size, i.bytes)) = some (some (.string ⟨#[]⟩), 1, 16) := by kernel_rfl
theorem info52 : (Tryd.prog.info? 52).map (fun i => (i.zero, i.size, i.bytes)) = some (some (.agg #[.int .u8 0, .string ⟨#[]⟩, .string ⟨#[]⟩, .int .i64 0]), 4, 48) := by kernel_rfl
/-- A row of texts of the call's own. -/
def OwnT (w : World) (base : Nat) (A : Option Addr) (n c : Nat) (zs : List Tx) : Prop := w.ownsRow base 9 1 (.slice A n c) zs.length (zs.map encStr) ∧ n = zs.length
theorem OwnT.nil (w : World) (base : Nat) : OwnT w base none 0 0 [] := ⟨World.ownsRow_nil _ _ _ _, rfl⟩
theorem OwnT.alloc {w : World} {B : Nat} {A : Option Addr} {n c : Nat} {zs : List Tx} (h : OwnT w B A n c zs) (o : Obj) : OwnT (w.alloc o) B A n c zs := ⟨h.1.alloc o, h.2⟩
theorem OwnT.ok {w w' : World} {B : Nat} {A : Option Addr} {n c : Nat} {zs : List Tx} (h : OwnT w B A n c zs) (k : Ok w w') : OwnT w' B A n c zs := by
  refine ⟨h.1.kept (row := none) ⟨k.os, k.tape, k.output, k.size, fun i hi _ => k.block i hi⟩ ?_, h.2⟩
  cases Value.ownBlock (.slice A n c) with
  | none => exact .inl rfl
  | some b => exact .inr (fun e => by cases e)
theorem wpList_appT {ops : Array Oper} {rest : List Oper} {o : Oper} {a : Act} {w : World} {Q : Exit → Act → World → Prop} (hgd : o.guard = none) (s x : Operand)
    (ho : o.op = .call { callee := .builtin .append, args := #[s, x], argTypes := #[39, 39] })
    (base : Nat) (A : Option Addr) (n c : Nat) (zs : List Tx) (h : Nat) (z : Str) (hs : a.eval s = .slice A n c) (hx : a.eval x = .slice (some ⟨h, 0, none⟩) 1 1) (hown : OwnT w base A n c zs)
    (hc0 : w.cell? ⟨h, 0, none⟩ = some (.string z)) (hlen : zs.length ≤ 1000000) (hbase : base ≤ w.heap.size)
    (hk : ∀ A' c' w', OwnT w' base A' (n + 1) c' (zs ++ [z.data.toList]) → Below base w w' → wpList Tryd.prog ops Q rest (a.put o.dst (.slice A' (n + 1) c')) w') : wpList Tryd.prog ops Q (o :: rest) a w := by
  obtain ⟨i0, hi, hz0, hz1, hz2⟩ := info_parts info9
  obtain ⟨hown, rfl⟩ := hown
  refine wpList_append_own_at _ hgd s x 39 ho base 9 i0 (.string ⟨#[]⟩) 1 16 Tryd.underlying39 hi hz0 hz1 hz2 rfl (by decide) _ zs.length (zs.map encStr) hs hown ⟨h, 0, none⟩ 1 1 [.string z] hx rfl ?_ ?_ (by unfold maxLen; omega) (by omega) hbase ?_
  · intro j u hu
    match j, hu with
    | 0, hu =>
      obtain rfl : u = .string z := by simpa using hu.symm
      exact hc0
  · intro u hu
    obtain rfl : u = .string z := by simpa using hu
    rfl
  · intro v' w' h2 h3 _ _
    have hb : Below base w w' := (Below.refl base w).grown h3 hbase (fun k hk => (World.ownsRow.lt hown k hk).1)
    obtain ⟨A', c', rfl⟩ : ∃ A' c', v' = .slice A' (zs.length + 1) c' := by
      rcases h2.2 with ⟨_, h5⟩ | ⟨g', cap', cur, rfl, _⟩
      · omega
      · exact ⟨_, _, rfl⟩
    refine hk A' c' w' ⟨?_, by simp⟩ hb
    rw [List.map_append, List.length_append, List.map_singleton, enc_str]; exact h2
/-- slices.Sort of a row of texts of the call's own. -/
theorem sortT_w (A : Option Addr) (n c : Nat) (zs : List Tx) (base : Nat) (w : World) (hl : zs.length ≤ 1000000) (h : OwnT w base A n c zs) :
    Calls Tryd.prog 41 #[.slice A n c] w fun e w' => e = .returned (.tuple #[]) ∧ OwnT w' base A n c (sortT zs) ∧ Below base w w' := by
  obtain ⟨hrow, rfl⟩ := h
  rcases hrow.2 with ⟨e, hz⟩ | ⟨gb, cap, cur, e, hbase, hgb, r1, r2, r3, r4⟩
  · have hss : zs = [] := List.eq_nil_of_length_eq_zero hz
    subst hss
    refine (Tryd.slices_Sort_string_none A c w).mono ?_
    rintro e' w' ⟨rfl, rfl⟩
    exact ⟨rfl, ⟨by simpa [sortT] using hrow, by simp [sortT]⟩, Below.refl _ _⟩
  · simp only [Value.slice.injEq] at e
    obtain ⟨rfl, _, rfl⟩ := e
    have hH := holds_of_block (ss := zs) hgb (by simpa using r4)
    have hgl : gb < w.heap.size := (Array.getElem?_eq_some_iff.1 hgb).1
    refine (Tryd.slices_Sort_string gb 0 c zs w hH hgl (by omega)).mono ?_
    rintro e' w' ⟨rfl, nn, os, rfl⟩
    have hrw := ownsRow_sorted (n := nn) (os := os) (ss := zs) (ts := sortT zs) (sortT_len zs) hbase hgb r1 r2 r3
    refine ⟨rfl, ⟨by rw [sortT_len]; exact hrw, (sortT_len zs).symm⟩, ?_⟩
    exact (Below.refl base w).grown (grownBy_sorted _) (by omega) (fun j hj => by cases hj; exact hbase)
theorem compact_le (zs : List Tx) : (Lib.compact zs).length ≤ zs.length := Lib.compact_length_le zs
theorem compact_none : Lib.compact ([] : List Tx) = [] := by
  have := compact_le []
  exact List.eq_nil_of_length_eq_zero (by simpa using this)
/-- slices.Compact of a row of texts of the call's own. -/
theorem compactT_w (A : Option Addr) (n c : Nat) (zs : List Tx) (base : Nat) (w : World) (hl : zs.length ≤ 1000000) (h : OwnT w base A n c zs) :
    Calls Tryd.prog 42 #[.slice A n c] w fun e w' => e = .returned (.slice A (Lib.compact zs).length c) ∧ OwnT w' base A (Lib.compact zs).length c (Lib.compact zs) ∧ Below base w w' := by
  obtain ⟨hrow, rfl⟩ := h
  rcases hrow.2 with ⟨e, hz⟩ | ⟨gb, cap, cur, e, hbase, hgb, r1, r2, r3, r4⟩
  · have hss : zs = [] := List.eq_nil_of_length_eq_zero hz
    subst hss
    rw [compact_none]
    refine (Tryd.slices_Compact_string_empty A c w).mono ?_
    rintro e' w' ⟨rfl, rfl⟩
    exact ⟨rfl, ⟨hrow, rfl⟩, Below.refl _ _⟩
  · simp only [Value.slice.injEq] at e
    obtain ⟨rfl, _, rfl⟩ := e
    have hH := holds_of_block (ss := zs) hgb (by simpa using r4)
    have hgl : gb < w.heap.size := (Array.getElem?_eq_some_iff.1 hgb).1
    refine (Tryd.slices_Compact_string gb 0 c zs w hH (by omega) r1).mono ?_
    rintro e' w' ⟨rfl, q, rfl⟩
    have hcl := compact_le zs
    have hlen : (Lib.compact zs ++ List.replicate (zs.length - (Lib.compact zs).length) []).length = zs.length := by
      rw [List.length_append, List.length_replicate]; omega
    have hrw := ownsRow_sorted (n := q) (os := #[]) (ss := zs) (ts := Lib.compact zs ++ List.replicate (zs.length - (Lib.compact zs).length) []) hlen hbase hgb r1 r2 r3
    rw [grow_empty] at hrw
    have hgr := grownBy_sorted (w := w) (g := gb) (n := q) (os := #[]) (Lib.compact zs ++ List.replicate (zs.length - (Lib.compact zs).length) []).toArray
    rw [grow_empty] at hgr
    refine ⟨rfl, ⟨?_, rfl⟩, (Below.refl base w).grown hgr (by omega) (fun j hj => by cases hj; exact hbase)⟩
    rcases hrw.2 with ⟨e, _⟩ | ⟨g', cap', cur', e, hb', hg', q1, q2, q3, q4⟩
    · simp at e
    · simp only [Value.slice.injEq, Option.some.injEq, Addr.mk.injEq, and_true, true_and] at e
      obtain ⟨rfl, rfl⟩ := e
      refine ⟨by simp, .inr ⟨gb, c, cur', rfl, hbase, hg', by omega, q2, q3, ?_⟩⟩
      have h1 : (cur'.toList.take (zs.length * 1)).take ((Lib.compact zs).length * 1) = (Lib.compact zs).map encStr := by
        rw [q4, List.map_append, List.take_left' (by simp)]
      rw [List.take_take, Nat.min_eq_left (by omega)] at h1
      exact h1
def TxAt (w : World) (A : Option Addr) (zs : List Tx) : Prop := ∀ j, j < zs.length → ∃ b off, A = some ⟨b, off, none⟩ ∧ w.cell? ⟨b, off + j, none⟩ = some (.string ⟨(zs.getD j []).toArray⟩)
theorem TxAt.ok {w w' : World} {A : Option Addr} {zs : List Tx} (h : TxAt w A zs) (k : Ok w w') : TxAt w' A zs := fun j hj => by
  obtain ⟨b, off, e, h0⟩ := h j hj
  exact ⟨b, off, e, k.cell h0⟩
theorem OwnT.at {w : World} {B : Nat} {A : Option Addr} {n c : Nat} {zs : List Tx} (h : OwnT w B A n c zs) : TxAt w A zs := fun j hj => by
  obtain ⟨h1, rfl⟩ := h
  rcases h1.2 with ⟨_, h5⟩ | ⟨g, cap, cur, e, r⟩
  · rw [h5] at hj; exact absurd hj (Nat.not_lt_zero _)
  · simp only [Value.slice.injEq] at e
    obtain ⟨rfl, -, rfl⟩ := e
    refine ⟨g, 0, rfl, ?_⟩
    rw [Nat.zero_add, World.ownsRow.cellAt h1 j (by omega)]
    simp [hj, List.getD, encStr]
def KeysP (w : World) (zs : List Tx) (e : Ending) (w' : World) : Prop := ∃ (A : Option Addr) (n c : Nat), e = .returned (.slice A n c) ∧ n = zs.length ∧ TxAt w' A zs ∧ Ok w w'
theorem at_take (l : List Ac) (k : Nat) (h : k < l.length) : (l.take (k + 1)).map (fun a => a.key.data.toList) = (l.take k).map (fun a => a.key.data.toList) ++ [(atA l k).key.data.toList] := by
  have e : atA l k = l[k] := by simp [atA, List.getD, h]
  rw [List.take_succ_eq_append_getElem h, List.map_append, e]
  rfl
set_option maxRecDepth 100000 in
set_option maxHeartbeats 4000000 in
theorem keys_w (A : Option Addr) (n c : Nat) (l : List Ac) (hn : l.length = n) (hn6 : n ≤ 100000) (w : World) (hI : ActsAt w A l) :
    Calls Tryd.prog 22 #[.slice A n c] w (KeysP w (keysT l)) := by
  have HI := Lib.hid hI
  have HN := Lib.hid hn
  clear hI hn
  go_enter Tryd.func22, Tryd.ntmps22
  go_wp2_with fail
  go_loopw [3, 8] (fun v i wr => ∃ (k : Nat) (A' : Option Addr) (n' c' : Nat), k ≤ n ∧ i = .int .i64 k ∧ v = .slice A' n' c' ∧ OwnT wr w.heap.size A' n' c' ((l.take k).map fun a => a.key.data.toList) ∧ Ok w wr) (fun _ i _ => n - (intOf i).toNat)
  case atStart => exact ⟨0, none, 0, 0, Nat.zero_le _, rfl, rfl, OwnT.nil _ _, Ok.refl _⟩
  case round =>
    obtain ⟨k, A', n', c', hk, rfl, rfl, hown, okr⟩ := hrel
    have HOW := Lib.hid hown
    have HOKR := Lib.hid okr
    clear hown okr
    by_cases hlt : k < n
    · have d1 : decide ((k : Int) < (n : Int)) = true := decide_eq_true (by omega)
      obtain ⟨b, off, rfl, C0, C1, C2, C3⟩ := (HI.out.ok HOKR.out) k (by rw [HN.out]; exact hlt)
      have HT := Lib.hid (at_take l k (by rw [HN.out]; exact hlt))
      have HLE : Hid (((l.take k).map fun a => a.key.data.toList).length ≤ 1000000) := Lib.hid (by rw [List.length_map, List.length_take]; omega)
      generalize atA l k = a at *
      obtain ⟨kind, key, value, num⟩ := a
      simp only at C0 C1 C2 C3
      have hi0 : (0 : Int) ≤ (k : Int) := Int.natCast_nonneg _
      have hi1 : (k : Int) < (n : Int) := by omega
      have okA : Hid (Ok w ((wr.alloc (.cells #[.int .u8 kind, .string key, .string value, .int .i64 num] 52)).alloc (.cells #[.string key] 9))) := Lib.hid ((HOKR.out.alloc _).alloc _)
      have HOWA : Hid (OwnT ((wr.alloc (.cells #[.int .u8 kind, .string key, .string value, .int .i64 num] 52)).alloc (.cells #[.string key] 9)) w.heap.size A' n' c' ((l.take k).map fun a => a.key.data.toList)) := Lib.hid ((HOW.out.alloc _).alloc _)
      have HK : Hid (((wr.alloc (.cells #[.int .u8 kind, .string key, .string value, .int .i64 num] 52)).alloc (.cells #[.string key] 9)).cell? ⟨wr.heap.size + 1, 0, none⟩ = some (.string key)) := Lib.hid (by go_cell)
      go_wp2_with (at_builtin; go_must (refine wpList_appT rfl (.tmp 12) (.tmp 15) rfl w.heap.size A' n' c' _ (wr.heap.size + 1) key rfl rfl HOWA.out HK.out HLE.out okA.out.size ?_; intro A3 c3 w3 hown3 hb3; have HOW3 := Lib.hid hown3; have HB3 := Lib.hid hb3; clear hown3 hb3))
      refine ⟨⟨k + 1, A3, n' + 1, c3, hlt, by go_num, rfl, ?_, Below.trans okA.out HB3.out⟩, by simp [intOf]; omega⟩
      rw [HT.out]; exact HOW3.out
    · have d1 : decide ((k : Int) < (n : Int)) = false := decide_eq_false (by omega)
      have htk : l.take k = l := List.take_of_length_le (by rw [HN.out]; omega)
      have HOW2 := HOW.out
      rw [htk] at HOW2
      have hsl := sortT_len (l.map fun a => a.key.data.toList)
      rw [List.length_map, HN.out] at hsl
      have HS := Lib.hid (sortT_w A' n' c' _ w.heap.size wr (by rw [List.length_map, HN.out]; omega) HOW2)
      clear HOW2
      go_wp2_with fail
      (with_reducible refine HS.out.mono ?_)
      rintro _ w2 ⟨rfl, hown2, hb2⟩
      have HC := Lib.hid (compactT_w A' n' c' _ w.heap.size w2 (by omega) hown2)
      have HB2 := Lib.hid hb2
      clear hown2 hb2
      go_wp2_with fail
      (with_reducible refine HC.out.mono ?_)
      rintro _ w3 ⟨rfl, hown3, hb3⟩
      have okF : Hid (Ok w w3) := Lib.hid (Below.trans (Below.trans HOKR.out HB2.out) hb3)
      have HAT := Lib.hid hown3.at
      clear hown3 hb3
      go_wp2_with fail
      go_ret
      exact ⟨A', _, c', rfl, rfl, HAT.out, okF.out⟩
end Go.Proofs.YthbbbjkgfdnkhaaDoor
