/- A ferry takes a piece, whatever it had: nothing is taken; of its crossing; a beginning. -/
import Derived.Test.YtolfdncmlfnbdaaKr
import Derived.Maps.AppendAt
import Derived.Deep.MidRow
import Derived.Lib.QuietBelow
namespace Go.Proofs.Ytolfdncmlfnbdaa
open Go.RowKit

/-- A ferry at block p: its crossing, the bytes that it has; these lie behind it. -/
structure FAt (p : Nat) (tm i t sz : Int) (u : Bool) (A : Option Addr) (n c : Nat) (xs : List B8) (w : World) : Prop where
  c0 : w.cell? ⟨p, 0, none⟩ = some (.int .i64 tm)
  c1 : w.cell? ⟨p, 1, none⟩ = some (.int .i64 i)
  c2 : w.cell? ⟨p, 2, none⟩ = some (.int .i64 t)
  c3 : w.cell? ⟨p, 3, none⟩ = some (.int .i64 sz)
  c4 : w.cell? ⟨p, 4, none⟩ = some (.bool u)
  c5 : w.cell? ⟨p, 5, none⟩ = some (.slice A n c)
  c6 : w.cell? ⟨p, 6, none⟩ = some (.bool true)
  own : OwnN w (p + 1) (.slice A n c) xs
  f : ∀ k, w.frozen? ⟨p, k, none⟩ = false
theorem FAt.ok {p : Nat} {tm i t sz : Int} {u : Bool} {A : Option Addr} {n c : Nat} {xs : List B8} {w w' : World} (h : FAt p tm i t sz u A n c xs w) (k : Ok w w') : FAt p tm i t sz u A n c xs w' := by
  have hg := World.block_lt_of_cell? _ _ h.c0
  exact ⟨k.cell h.c0, k.cell h.c1, k.cell h.c2, k.cell h.c3, k.cell h.c4, k.cell h.c5, k.cell h.c6, h.own.okk k, fun j => by rw [Below.frozen k (p := ⟨p, j, none⟩) hg]; exact h.f j⟩
theorem FAt.lt {p : Nat} {tm i t sz : Int} {u : Bool} {A : Option Addr} {n c : Nat} {xs : List B8} {w : World} (h : FAt p tm i t sz u A n c xs w) : p < w.heap.size := World.block_lt_of_cell? _ _ h.c0
theorem FAt.len {p : Nat} {tm i t sz : Int} {u : Bool} {A : Option Addr} {n c : Nat} {xs : List B8} {w : World} (h : FAt p tm i t sz u A n c xs w) : n = xs.length := by
  obtain ⟨_, _, e⟩ := h.own.form
  simp only [Value.slice.injEq] at e
  exact e.2.1
theorem FAt.ownGe {p : Nat} {tm i t sz : Int} {u : Bool} {A : Option Addr} {n c : Nat} {xs : List B8} {w : World} (h : FAt p tm i t sz u A n c xs w) (k : Nat) (e : (Value.slice A n c).ownBlock = some k) : p + 1 ≤ k ∧ k < w.heap.size := World.ownsRow.lt h.own k e

/-- But for the ferry's block, and the block of its bytes, what was there is as it was. -/
structure Fr (p : Nat) (A : Option Addr) (n c : Nat) (w w' : World) : Prop where
  os : w'.os = w.os
  tape : w'.tape = w.tape
  output : w'.output = w.output
  size : w.heap.size ≤ w'.heap.size
  block : ∀ k, k < w.heap.size → k ≠ p → (Value.slice A n c).ownBlock ≠ some k → w'.heap[k]? = w.heap[k]?
theorem Fr.refl (p : Nat) (A : Option Addr) (n c : Nat) (w : World) : Fr p A n c w w := ⟨rfl, rfl, rfl, Nat.le_refl _, fun _ _ _ _ => rfl⟩
theorem Fr.ok {p : Nat} {A : Option Addr} {n c : Nat} {a b d : World} (h : Fr p A n c a b) (k : Ok b d) : Fr p A n c a d :=
  ⟨k.os.trans h.os, k.tape.trans h.tape, k.output.trans h.output, Nat.le_trans h.size k.size, fun j hj hp ho => (k.block j (Nat.lt_of_lt_of_le hj h.size)).trans (h.block j hj hp ho)⟩
theorem Fr.of {p : Nat} {A : Option Addr} {n c : Nat} {a b d : World} (h : Ok a b) (k : Fr p A n c b d) : Fr p A n c a d :=
  ⟨k.os.trans h.os, k.tape.trans h.tape, k.output.trans h.output, Nat.le_trans h.size k.size, fun j hj hp ho => (k.block j (Nat.lt_of_lt_of_le hj h.size) hp ho).trans (h.block j hj)⟩
theorem Fr.set {p : Nat} {A : Option Addr} {n c : Nat} {a b : World} (h : Fr p A n c a b) (o : Nat) (v : Value) : Fr p A n c a (b.setCell ⟨p, o, none⟩ v) :=
  ⟨h.os, h.tape, h.output, by simpa [World.setCell] using h.size, fun j hj hp ho => by rw [heap_setCell_other b ⟨p, o, none⟩ j v (by simpa using hp)]; exact h.block j hj hp ho⟩
theorem Fr.far {p q : Nat} {A : Option Addr} {n c : Nat} {a b : World} (h : Fr p A n c a b) (hq : a.heap.size ≤ q) (o : Nat) (v : Value) : Fr p A n c a (b.setCell ⟨q, o, none⟩ v) :=
  ⟨h.os, h.tape, h.output, by simpa [World.setCell] using h.size, fun j hj hp ho => by rw [heap_setCell_other b ⟨q, o, none⟩ j v (by simp; omega)]; exact h.block j hj hp ho⟩
theorem Fr.grown {p : Nat} {A : Option Addr} {n c : Nat} {a b : World} (k : a.grownBy b (Value.slice A n c).ownBlock) : Fr p A n c a b :=
  ⟨k.os, k.tape, k.output, k.size, fun j hj _ ho => k.block j hj (fun e => ho e.symm)⟩
theorem Fr.cell {p b o : Nat} {A : Option Addr} {n c : Nat} {w w' : World} {v : Value} (h : Fr p A n c w w') (hc : w.cell? ⟨b, o, none⟩ = some v) (hb : b ≠ p) (ho : (Value.slice A n c).ownBlock ≠ some b) : w'.cell? ⟨b, o, none⟩ = some v := by
  rw [World.cell?_of_block (w := w) (h.block b (World.block_lt_of_cell? _ _ hc) hb ho)]; exact hc
theorem Fr.frozen {p b o : Nat} {A : Option Addr} {n c : Nat} {w w' : World} {f : Bool} (h : Fr p A n c w w') (hf : w.frozen? ⟨b, o, none⟩ = f) (hs : b < w.heap.size) (hb : b ≠ p) (ho : (Value.slice A n c).ownBlock ≠ some b) : w'.frozen? ⟨b, o, none⟩ = f := by
  rw [World.frozen?_of_block (w := w) (h.block b hs hb ho)]; exact hf
/-- One change behind another one, whose ferry's bytes lie in the same block, or in a new one. -/
theorem Fr.trans {p : Nat} {A A' : Option Addr} {n c n' c' : Nat} {a b d : World} (h : Fr p A n c a b) (k : Fr p A' n' c' b d) (hne : ∀ j, j < a.heap.size → (Value.slice A' n' c').ownBlock = some j → (Value.slice A n c).ownBlock = some j) : Fr p A n c a d :=
  ⟨k.os.trans h.os, k.tape.trans h.tape, k.output.trans h.output, Nat.le_trans h.size k.size, fun j hj hp ho =>
    (k.block j (Nat.lt_of_lt_of_le hj h.size) hp (fun e => ho (hne j hj e))).trans (h.block j hj hp ho)⟩
theorem Fr.below {p B : Nat} {tm i t sz : Int} {u : Bool} {A : Option Addr} {n c : Nat} {xs : List B8} {w w' : World} (k : Fr p A n c w w') (h : FAt p tm i t sz u A n c xs w) (hB : B ≤ p) : Below B w w' :=
  ⟨k.os, k.tape, k.output, k.size, fun j hj => k.block j (by have := h.lt; omega) (by omega) (fun e => by have := h.ownGe j e; omega)⟩

/-- Bytes are laid behind the ferry's own. -/
theorem wpList_appN {ops : Array Oper} {rest : List Oper} {o : Oper} {a : Act} {w : World} {Q : Exit → Act → World → Prop} (hgd : o.guard = none) (s x : Operand)
    (ho : o.op = .call { callee := .builtin .append, args := #[s, x], argTypes := #[26, 26] })
    (base : Nat) (A : Option Addr) (n c : Nat) (xs ys : List B8) (B : Option Addr) (m d : Nat) (hs : a.eval s = .slice A n c) (hx : a.eval x = .slice B m d) (hown : OwnN w base (.slice A n c) xs) (hy : BytesIn w (.slice B m d) ys)
    (hlen : xs.length + ys.length ≤ 140737488351232) (hbase : base ≤ w.heap.size)
    (h : ∀ A' c' w', OwnN w' base (.slice A' (n + m) c') (xs ++ ys) → w.grownBy w' (Value.slice A n c).ownBlock → ((Value.slice A' (n + m) c').ownBlock = (Value.slice A n c).ownBlock ∨ (Value.slice A' (n + m) c').ownBlock = some w.heap.size) → wpList Try.prog ops Q rest (a.put o.dst (.slice A' (n + m) c')) w') : wpList Try.prog ops Q (o :: rest) a w := by
  obtain ⟨i0, hi, hz0, hz1, hz2⟩ := info_parts info5
  obtain ⟨_, _, en⟩ := hown.form
  simp only [Value.slice.injEq] at en
  obtain ⟨rfl, rfl, rfl⟩ := en
  have hlate : ∀ v' w', w'.ownsRow base 5 1 v' (xs.length + ys.length) (xs.map bv ++ ys.map bv) → m = ys.length → w.grownBy w' (Value.slice A xs.length c).ownBlock → (v'.ownBlock = (Value.slice A xs.length c).ownBlock ∨ v'.ownBlock = some w.heap.size) → wpList Try.prog ops Q rest (a.put o.dst v') w' := by
    intro v' w' h2 hm h3 h4
    have h2' : OwnN w' base v' (xs ++ ys) := by unfold OwnN; rw [List.map_append, List.length_append]; exact h2
    obtain ⟨A', c', rfl⟩ := h2'.form
    rw [List.length_append, ← hm] at h2' h4 ⊢
    exact h A' c' w' h2' h3 h4
  rcases hy with ⟨rfl, B', d', eB, hB⟩ | ⟨b, off, d', eB, _, hm, hc⟩
  · simp only [Value.slice.injEq] at eB
    obtain ⟨rfl, rfl, rfl⟩ := eB
    cases B with
    | some ad =>
      refine wpList_append_own_at _ hgd s x 26 ho base 5 i0 (.int .u8 0) 1 1 Try.underlying26 hi hz0 hz1 hz2 rfl (by decide) _ xs.length (xs.map bv) hs hown ad 0 d [] hx rfl (fun j u hu => by simp at hu) (fun u hu => by simp at hu) (by unfold maxLen; simp at hlen; omega) (by simp at hlen; omega) hbase ?_
      intro v' w' h2 h3 _ h5
      exact hlate v' w' h2 rfl h3 h5
    | none =>
      obtain rfl := hB rfl
      refine wpList_append_own_none hgd s x 26 ho base 5 i0 1 Try.underlying26 hi _ xs.length (xs.map bv) hs hown hx ?_
      exact hlate _ w (by have := hown; unfold OwnN at this; simpa using this) rfl ⟨rfl, rfl, rfl, Nat.le_refl _, fun _ _ _ => rfl⟩ (.inl rfl)
  · simp only [Value.slice.injEq] at eB
    obtain ⟨rfl, rfl, rfl⟩ := eB
    refine wpList_append_own_at _ hgd s x 26 ho base 5 i0 (.int .u8 0) 1 1 Try.underlying26 hi hz0 hz1 hz2 rfl (by decide) _ xs.length (xs.map bv) hs hown ⟨b, off, none⟩ ys.length d (ys.map bv) hx (by simp) ?_ ?_ (by unfold maxLen; omega) (by omega) hbase ?_
    · intro j u hu
      have hj : j < ys.length := by
        by_cases hl : j < ys.length
        · exact hl
        · rw [List.getElem?_eq_none (by simp; omega)] at hu; cases hu
      have e : (⟨b, off, none⟩ : Addr).add j = ⟨b, off + j, none⟩ := by unfold Addr.add; split <;> simp_all
      rw [e, hc j hj, ← hu]
      simp [hj, bv]
    · intro u hu
      obtain ⟨y, _, rfl⟩ := List.mem_map.1 hu
      rfl
    · intro v' w' h2 h3 _ h5
      exact hlate v' w' h2 rfl h3 h5

set_option maxRecDepth 100000 in
theorem fnew_f (W : World) : Calls Try.prog 73 #[] W fun e w' => e = .returned (.pointer (some ⟨W.heap.size, 0, none⟩)) ∧ FAt W.heap.size 0 0 0 0 false none 0 0 [] w' ∧ Ok W w' ∧ w'.heap.size = W.heap.size + 1 := by
  have HF : Hid (FAt W.heap.size 0 0 0 0 false none 0 0 [] (W.alloc (.cells #[.int .i64 0, .int .i64 0, .int .i64 0, .int .i64 0, .bool false, .slice none 0 0, .bool true] 119))) := Lib.hid
    ⟨box_cell _ _ _ _ _ rfl, box_cell _ _ _ _ _ rfl, box_cell _ _ _ _ _ rfl, box_cell _ _ _ _ _ rfl, box_cell _ _ _ _ _ rfl, box_cell _ _ _ _ _ rfl, box_cell _ _ _ _ _ rfl, OwnN.nil _ _, fun j => by rw [World.frozen?, heap_alloc_new]; simp⟩
  go_enter Try.func73, Try.ntmps73
  go_wp2_with fail
  go_ret
  exact ⟨rfl, HF.out, (Ok.refl W).alloc _, World.size_alloc _ _⟩

theorem fnone_f (p : Nat) (W : World) (c6 : W.cell? ⟨p, 6, none⟩ = some (.bool true)) : Calls Try.prog 134 #[.pointer (some ⟨p, 0, none⟩)] W fun e w' => e = .returned (.bool false) ∧ W = w' := by
  go_enter Try.func134, Try.ntmps134
  go_wp2_with fail
  go_ret
  exact ⟨rfl, rfl⟩

/-- Is it a piece that may be taken? -/
def mayB (x : Lt) (n : Nat) : Bool := (x.kind == 5) && (decide ((0 : Int) ≤ x.size) && (decide (x.size ≤ (131072 : Int)) && (decide ((0 : Int) ≤ x.at_) && (decide (x.at_ ≤ x.size) && decide ((n : Int) ≤ x.size - x.at_)))))
set_option maxRecDepth 100000 in
theorem may_f (r : LR) (x : Lt) (W : World) :
    Calls Try.prog 136 #[r.val x] W fun e w' => e = .returned (.bool (mayB x r.bn)) ∧ Ok W w' := by
  show Calls Try.prog 136 #[.agg #[.int .u8 x.kind, .int .i64 x.group, .int .i64 x.from_, .int .i64 x.to_, .int .i64 x.term, .int .i64 x.index, .int .i64 x.logterm, .int .i64 x.commit, .bool x.ok, .slice r.eA x.es.length r.ec, .int .i64 x.bi, .int .i64 x.bt, .slice r.s.A0 r.s.n0 r.s.c0, .slice r.s.A1 r.s.n1 r.s.c1, .slice r.s.A2 r.s.n2 r.s.c2, .slice r.s.A3 r.s.n3 r.s.c3, .int .i64 x.size, .int .i64 x.at_, .int .i64 x.tag, .slice r.bA r.bn r.bc]] W _
  unfold mayB
  cases k0 : (x.kind == 5) with
  | false =>
    simp only [Bool.false_and]
    go_enter Try.func136, Try.ntmps136
    go_wp2_with fail
    go_ret
    exact ⟨rfl, (Ok.refl W).alloc _⟩
  | true =>
  cases d4 : decide ((0 : Int) ≤ x.size) with
  | false =>
    simp only [Bool.true_and, Bool.false_and]
    go_enter Try.func136, Try.ntmps136
    go_wp2_with fail
    go_ret
    exact ⟨rfl, (Ok.refl W).alloc _⟩
  | true =>
  have hd4 := of_decide_eq_true d4
  cases d1 : decide (x.size ≤ (131072 : Int)) with
  | false =>
    simp only [Bool.true_and, Bool.false_and]
    go_enter Try.func136, Try.ntmps136
    go_wp2_with fail
    go_ret
    exact ⟨rfl, (Ok.refl W).alloc _⟩
  | true =>
  have hd1 := of_decide_eq_true d1
  cases d5 : decide ((0 : Int) ≤ x.at_) with
  | false =>
    simp only [Bool.true_and, Bool.false_and]
    go_enter Try.func136, Try.ntmps136
    go_wp2_with fail
    go_ret
    exact ⟨rfl, (Ok.refl W).alloc _⟩
  | true =>
  have hd5 := of_decide_eq_true d5
  cases d2 : decide (x.at_ ≤ x.size) with
  | false =>
    simp only [Bool.true_and, Bool.false_and]
    go_enter Try.func136, Try.ntmps136
    go_wp2_with fail
    go_ret
    exact ⟨rfl, (Ok.refl W).alloc _⟩
  | true =>
  have hd2 := of_decide_eq_true d2
  cases d3 : decide ((r.bn : Int) ≤ x.size - x.at_) with
  | false =>
    simp only [Bool.true_and]
    go_enter Try.func136, Try.ntmps136
    go_wp2_with fail
    go_ret
    exact ⟨rfl, (Ok.refl W).alloc _⟩
  | true =>
  have hd3 := of_decide_eq_true d3
  simp only [Bool.true_and]
  go_enter Try.func136, Try.ntmps136
  go_wp2_with fail
  go_ret
  exact ⟨rfl, (Ok.refl W).alloc _⟩
set_option maxRecDepth 100000 in
theorem crossingOf_f (r : LR) (x : Lt) (W : World) :
    Calls Try.prog 137 #[r.val x] W fun e w' => e = .returned (.agg #[.int .i64 x.term, .int .i64 x.bi, .int .i64 x.bt, .int .i64 x.size, .bool true]) ∧ Ok W w' := by
  show Calls Try.prog 137 #[.agg #[.int .u8 x.kind, .int .i64 x.group, .int .i64 x.from_, .int .i64 x.to_, .int .i64 x.term, .int .i64 x.index, .int .i64 x.logterm, .int .i64 x.commit, .bool x.ok, .slice r.eA x.es.length r.ec, .int .i64 x.bi, .int .i64 x.bt, .slice r.s.A0 r.s.n0 r.s.c0, .slice r.s.A1 r.s.n1 r.s.c1, .slice r.s.A2 r.s.n2 r.s.c2, .slice r.s.A3 r.s.n3 r.s.c3, .int .i64 x.size, .int .i64 x.at_, .int .i64 x.tag, .slice r.bA r.bn r.bc]] W _
  go_enter Try.func137, Try.ntmps137
  go_wp2_with fail
  refine bodyPost_ret (v := .agg #[.int .i64 x.term, .int .i64 x.bi, .int .i64 x.bt, .int .i64 x.size, .bool true]) (by simp [results, Try.results137, go_sem]; try rfl) rfl ⟨rfl, ((Ok.refl W).alloc _).alloc _⟩

theorem whole_f (tm i t sz : Int) (n : Nat) (W : World) :
    Calls Try.prog 139 #[.agg #[.int .i64 tm, .int .i64 i, .int .i64 t, .int .i64 sz, .bool true], .int .i64 (n : Int)] W fun e w' => e = .returned (.bool (decide ((n : Int) = sz))) ∧ Ok W w' := by
  by_cases h : (n : Int) = sz
  · subst h
    have e1 : ((n : Int) == n) = true := by simp
    rw [decide_eq_true rfl]
    go_enter Try.func139, Try.ntmps139
    go_wp2_with fail
    go_ret
    exact ⟨rfl, (Ok.refl W).alloc _⟩
  · have e1 : ((n : Int) == sz) = false := by simp; omega
    rw [decide_eq_false h]
    go_enter Try.func139, Try.ntmps139
    go_wp2_with fail
    go_ret
    exact ⟨rfl, (Ok.refl W).alloc _⟩

theorem info80 : (Try.prog.info? 95).map (·.size) = some 20 := by kernel_rfl
theorem FAt.begin {p : Nat} {tm i t sz tm' i' t' sz' : Int} {u u' : Bool} {A : Option Addr} {n c : Nat} {xs : List B8} {w : World} (h : FAt p tm i t sz u A n c xs w) :
    FAt p tm' i' t' sz' u' none 0 0 [] ((((((w.setCell ⟨p, 0, none⟩ (.int .i64 tm')).setCell ⟨p, 1, none⟩ (.int .i64 i')).setCell ⟨p, 2, none⟩ (.int .i64 t')).setCell ⟨p, 3, none⟩ (.int .i64 sz')).setCell ⟨p, 4, none⟩ (.bool u')).setCell ⟨p, 5, none⟩ (.slice none 0 0)) := by
  obtain ⟨c0, c1, c2, c3, c4, c5, c6, _, f⟩ := h
  refine ⟨?_, ?_, ?_, ?_, ?_, ?_, ?_, OwnN.nil _ _, fun j => ?_⟩
  · go_cell
  · go_cell
  · go_cell
  · go_cell
  · go_cell
  · go_cell
  · go_cell
  · simp only [World.frozen?_setCell]; exact f j

set_option maxRecDepth 100000 in
theorem begin_f (p : Nat) (tm i t sz tm' i' t' sz' : Int) (u u' : Bool) (A : Option Addr) (n c : Nat) (xs : List B8) (W : World) (h : FAt p tm i t sz u A n c xs W) :
    Calls Try.prog 135 #[.pointer (some ⟨p, 0, none⟩), .agg #[.int .i64 tm', .int .i64 i', .int .i64 t', .int .i64 sz', .bool u']] W fun e w' => e = .returned (.tuple #[]) ∧ FAt p tm' i' t' sz' u' none 0 0 [] w' ∧ Fr p A n c W w' := by
  have HF := Lib.hid (fun w1 (k : Ok W w1) => (h.ok k).begin (tm' := tm') (i' := i') (t' := t') (sz' := sz') (u' := u'))
  have HO := Lib.hid ((Ok.refl W).alloc (.cells #[.int .i64 tm', .int .i64 i', .int .i64 t', .int .i64 sz', .bool u'] 117))
  have HH := Lib.hid (h.ok HO.out)
  clear h
  have c0 := HH.out.c0
  have c1 := HH.out.c1
  have c2 := HH.out.c2
  have c3 := HH.out.c3
  have c4 := HH.out.c4
  have c5 := HH.out.c5
  have f0 := HH.out.f 0
  have f1 := HH.out.f 1
  have f2 := HH.out.f 2
  have f3 := HH.out.f 3
  have f4 := HH.out.f 4
  have f5 := HH.out.f 5
  go_enter Try.func135, Try.ntmps135
  go_wp2_with fail
  go_end0
  exact ⟨rfl, HF.out _ HO.out, Fr.of HO.out ((((((((Fr.refl p A n c _).set 0 _).set 1 _).set 2 _).set 3 _).set 4 _)).set 5 _)⟩

set_option maxRecDepth 100000 in
theorem lay_f (p : Nat) (tm i t sz : Int) (u : Bool) (A B : Option Addr) (n c m d : Nat) (xs ys : List B8) (W : World) (h : FAt p tm i t sz u A n c xs W) (hy : BytesIn W (.slice B m d) ys) (hl : xs.length + ys.length ≤ 1000000) :
    Calls Try.prog 138 #[.pointer (some ⟨p, 0, none⟩), .slice B m d] W fun e w' => e = .returned (.tuple #[]) ∧ (∃ A' c', FAt p tm i t sz u A' (n + m) c' (xs ++ ys) w' ∧ ∀ j, j < W.heap.size → (Value.slice A' (n + m) c').ownBlock = some j → (Value.slice A n c).ownBlock = some j) ∧ Fr p A n c W w' := by
  have HH := Lib.hid h
  have HY := Lib.hid hy
  have c5 := h.c5
  have hpl := h.lt
  clear h hy
  have HGROW : Hid (∀ A' c' w2, OwnN w2 (p + 1) (.slice A' (n + m) c') (xs ++ ys) → W.grownBy w2 (Value.slice A n c).ownBlock → w2.cell? ⟨p, 5, none⟩ = some (.slice A n c) ∧ w2.frozen? ⟨p, 5, none⟩ = false ∧ FAt p tm i t sz u A' (n + m) c' (xs ++ ys) (w2.setCell ⟨p, 5, none⟩ (.slice A' (n + m) c'))) := Lib.hid (by
    intro A' c' w2 ho hg
    have hne : (Value.slice A n c).ownBlock ≠ some p := fun e => by have := HH.out.ownGe p e; omega
    have kb : w2.heap[p]? = W.heap[p]? := hg.block p hpl (fun e => hne e.symm)
    have kc : ∀ o v, W.cell? ⟨p, o, none⟩ = some v → w2.cell? ⟨p, o, none⟩ = some v := fun o v hc => by rw [World.cell?_of_block (w := W) kb]; exact hc
    have kf : ∀ o, w2.frozen? ⟨p, o, none⟩ = false := fun o => by rw [World.frozen?_of_block (w := W) kb]; exact HH.out.f o
    have d0 := kc _ _ HH.out.c0
    have d1 := kc _ _ HH.out.c1
    have d2 := kc _ _ HH.out.c2
    have d3 := kc _ _ HH.out.c3
    have d4 := kc _ _ HH.out.c4
    have d5 := kc _ _ HH.out.c5
    have d6 := kc _ _ HH.out.c6
    refine ⟨d5, kf 5, ?_, ?_, ?_, ?_, ?_, ?_, ?_, ho.set p 5 _ (by omega), fun j => ?_⟩
    · go_cell
    · go_cell
    · go_cell
    · go_cell
    · go_cell
    · go_cell
    · go_cell
    · rw [World.frozen?_setCell]; exact kf j)
  go_enter Try.func138, Try.ntmps138
  go_wp2_with (at_builtin; go_must (refine wpList_appN rfl (.tmp 8) (.tmp 9) rfl (p + 1) A n c xs ys B m d rfl rfl HH.out.own HY.out (by omega) (by omega) ?_; intro A' c' w2 hown2 hgrow2 hob2; have HX := Lib.hid hown2; have HG := Lib.hid hgrow2; have HB := Lib.hid hob2; obtain ⟨hk5, hf5, hfa⟩ := HGROW.out A' c' w2 hown2 hgrow2; have HFA := Lib.hid hfa; clear hown2 hgrow2 hob2 hfa))
  go_end0
  refine ⟨rfl, ⟨A', c', HFA.out, fun j hj e => ?_⟩, (Fr.grown HG.out).set 5 _⟩
  rcases HB.out with e1 | e1
  · rw [← e1]; exact e
  · rw [e1] at e; cases e; omega
end Go.Proofs.Ytolfdncmlfnbdaa
namespace Go.Proofs.Ytolfdncmlfnbdaa
open Go.RowKit

theorem info75 : (Try.prog.info? 97).map (·.size) = some 7 := by kernel_rfl
theorem wpList_load_w {ops : Array Oper} {rest : List Oper} {op : Oper} {a : Act} {w : World} {Q : Exit → Act → World → Prop} (hw : Region.wanted op (yielded ops a.tmps) = true) (ty : TypeId) (x : Operand) (ho : op.op = .load ty x)
    (b o : Nat) (hx : a.eval x = .pointer (some ⟨b, o, none⟩)) (cs : List Value) (d : TypeDesc) (hc : w.rangeAt b o cs)
    (hu : Try.prog.underlying ty = some d) (hd : d.isRow = true) (hi : (Try.prog.info? ty).map (·.size) = some cs.length)
    (h : wpList Try.prog ops Q rest (a.put op.dst (.agg cs.toArray)) w) : wpList Try.prog ops Q (op :: rest) a w :=
  wpList_step fun K hK => by rw [if_pos hw]; exact wp_load_mid ty x ho b o hx cs d hc hu hd hi (hK _ _ h)
theorem FAt.far {p : Nat} {tm i t sz : Int} {u : Bool} {A : Option Addr} {n c : Nat} {xs : List B8} {w : World} (h : FAt p tm i t sz u A n c xs w) (q o : Nat) (v : Value) (hq : q ≠ p) (ho : (Value.slice A n c).ownBlock ≠ some q) : FAt p tm i t sz u A n c xs (w.setCell ⟨q, o, none⟩ v) := by
  obtain ⟨c0, c1, c2, c3, c4, c5, c6, own, f⟩ := h
  have k : ∀ j u, w.cell? ⟨p, j, none⟩ = some u → (w.setCell ⟨q, o, none⟩ v).cell? ⟨p, j, none⟩ = some u := fun j u hc => by
    rw [World.cell?_setCell_other _ _ _ _ (fun e => hq (congrArg Addr.block e))]; exact hc
  refine ⟨k _ _ c0, k _ _ c1, k _ _ c2, k _ _ c3, k _ _ c4, k _ _ c5, k _ _ c6, ⟨own.1, ?_⟩, fun j => by rw [World.frozen?_setCell]; exact f j⟩
  rcases own.2 with h0 | ⟨b, cap, cur, e, hb, hh, hr⟩
  · exact .inl h0
  · refine .inr ⟨b, cap, cur, e, hb, ?_, hr⟩
    rw [heap_setCell_other w ⟨q, o, none⟩ b v (fun e2 => by rw [e] at ho; exact ho (congrArg some e2))]
    exact hh
/-- Seven cells of a block. -/
structure Seven (g : Nat) (v0 v1 v2 v3 v4 v5 v6 : Value) (w : World) : Prop where
  c0 : w.cell? ⟨g, 0, none⟩ = some v0
  c1 : w.cell? ⟨g, 1, none⟩ = some v1
  c2 : w.cell? ⟨g, 2, none⟩ = some v2
  c3 : w.cell? ⟨g, 3, none⟩ = some v3
  c4 : w.cell? ⟨g, 4, none⟩ = some v4
  c5 : w.cell? ⟨g, 5, none⟩ = some v5
  c6 : w.cell? ⟨g, 6, none⟩ = some v6
  f : ∀ k, w.frozen? ⟨g, k, none⟩ = false
theorem Seven.ok {g : Nat} {v0 v1 v2 v3 v4 v5 v6 : Value} {w w' : World} (h : Seven g v0 v1 v2 v3 v4 v5 v6 w) (k : Ok w w') : Seven g v0 v1 v2 v3 v4 v5 v6 w' := by
  have hg := World.block_lt_of_cell? _ _ h.c0
  exact ⟨k.cell h.c0, k.cell h.c1, k.cell h.c2, k.cell h.c3, k.cell h.c4, k.cell h.c5, k.cell h.c6, fun j => by rw [Below.frozen k (p := ⟨g, j, none⟩) hg]; exact h.f j⟩
theorem Seven.new (w : World) (v0 v1 v2 v3 v4 v5 v6 : Value) (t : TypeId) : Seven w.heap.size v0 v1 v2 v3 v4 v5 v6 (w.alloc (.cells #[v0, v1, v2, v3, v4, v5, v6] t)) :=
  ⟨box_cell _ _ _ _ _ rfl, box_cell _ _ _ _ _ rfl, box_cell _ _ _ _ _ rfl, box_cell _ _ _ _ _ rfl, box_cell _ _ _ _ _ rfl, box_cell _ _ _ _ _ rfl, box_cell _ _ _ _ _ rfl, fun j => by rw [World.frozen?, heap_alloc_new]; simp⟩

theorem drop_f (p : Nat) (tm i t sz : Int) (u : Bool) (A : Option Addr) (n c : Nat) (xs : List B8) (W : World) (h : FAt p tm i t sz u A n c xs W) :
    Calls Try.prog 75 #[.pointer (some ⟨p, 0, none⟩)] W fun e w' => e = .returned (.tuple #[]) ∧ FAt p 0 0 0 0 false none 0 0 [] w' ∧ Fr p A n c W w' := by
  have HH := Lib.hid h
  clear h
  go_enter Try.func75, Try.ntmps75
  go_wp2_with fail
  refine (fnone_f p W HH.out.c6).mono ?_
  rintro _ w1 ⟨rfl, rfl⟩
  go_wp2_with fail
  refine (begin_f p tm i t sz 0 0 0 0 u false A n c xs W HH.out).mono ?_
  rintro _ w1 ⟨rfl, hf, hr⟩
  have HF := Lib.hid hf
  have HR := Lib.hid hr
  clear hf hr
  go_wp2_with fail
  go_end0
  exact ⟨rfl, HF.out, HR.out⟩
theorem OwnZ.fr {p base : Nat} {A : Option Addr} {n c : Nat} {w w' : World} {v : Value} {xs : List Int} (h : OwnZ w base v xs) (k : Fr p A n c w w') (hp : p < base) (ho : ∀ j, (Value.slice A n c).ownBlock = some j → j < base) : OwnZ w' base v xs := by
  refine ⟨h.1, ?_⟩
  rcases h.2 with h0 | ⟨b, cap, cur, rfl, hb, hh, hr⟩
  · exact .inl h0
  · refine .inr ⟨b, cap, cur, rfl, hb, ?_, hr⟩
    rw [k.block b (Array.getElem?_eq_some_iff.1 hh).1 (by omega) (fun e => by have := ho b e; omega)]; exact hh
theorem OwnN.fr {p base : Nat} {A : Option Addr} {n c : Nat} {w w' : World} {v : Value} {xs : List B8} (h : OwnN w base v xs) (k : Fr p A n c w w') (hp : p < base) (ho : ∀ j, (Value.slice A n c).ownBlock = some j → j < base) : OwnN w' base v xs := by
  refine ⟨h.1, ?_⟩
  rcases h.2 with h0 | ⟨b, cap, cur, rfl, hb, hh, hr⟩
  · exact .inl h0
  · refine .inr ⟨b, cap, cur, rfl, hb, ?_, hr⟩
    rw [k.block b (Array.getElem?_eq_some_iff.1 hh).1 (by omega) (fun e => by have := ho b e; omega)]; exact hh
theorem CfgOwn.fr {p base : Nat} {A : Option Addr} {n c : Nat} {w w' : World} {s : S4} {cf : Cfg} (h : CfgOwn w base s cf) (k : Fr p A n c w w') (hp : p < base) (ho : ∀ j, (Value.slice A n c).ownBlock = some j → j < base) : CfgOwn w' base s cf := ⟨h.h0.fr k hp ho, h.h1.fr k hp ho, h.h2.fr k hp ho, h.h3.fr k hp ho⟩
theorem Seven.fr {p g : Nat} {A : Option Addr} {n c : Nat} {v0 v1 v2 v3 v4 v5 v6 : Value} {w w' : World} (h : Seven g v0 v1 v2 v3 v4 v5 v6 w) (k : Fr p A n c w w') (hp : g ≠ p) (ho : (Value.slice A n c).ownBlock ≠ some g) : Seven g v0 v1 v2 v3 v4 v5 v6 w' :=
  ⟨k.cell h.c0 hp ho, k.cell h.c1 hp ho, k.cell h.c2 hp ho, k.cell h.c3 hp ho, k.cell h.c4 hp ho, k.cell h.c5 hp ho, k.cell h.c6 hp ho, fun j => k.frozen (h.f j) (World.block_lt_of_cell? _ _ h.c0) hp ho⟩
theorem Fr.range {p g : Nat} {A : Option Addr} {n c : Nat} {w w' : World} {cs : List Value} (h : w.rangeAt g 0 cs) (k : Fr p A n c w w') (hp : g ≠ p) (ho : (Value.slice A n c).ownBlock ≠ some g) : w'.rangeAt g 0 cs := fun j v hv => k.cell (h j v hv) hp ho
theorem seven_far {g b o : Nat} {w : World} {u : Value} (hb : b ≠ g) (x0 x1 x2 x3 x4 x5 x6 : Value) (hc : w.cell? ⟨b, o, none⟩ = some u) :
    (((((((w.setCell ⟨g, 0, none⟩ x0).setCell ⟨g, 1, none⟩ x1).setCell ⟨g, 2, none⟩ x2).setCell ⟨g, 3, none⟩ x3).setCell ⟨g, 4, none⟩ x4).setCell ⟨g, 5, none⟩ x5).setCell ⟨g, 6, none⟩ x6).cell? ⟨b, o, none⟩ = some u := by
  have far : ∀ (w : World) (k : Nat) (v : Value), w.cell? ⟨b, o, none⟩ = some u → (w.setCell ⟨g, k, none⟩ v).cell? ⟨b, o, none⟩ = some u := fun w k v h => by
    rw [World.cell?_setCell_other _ _ _ _ (fun e => hb (congrArg Addr.block e).symm)]; exact h
  exact far _ _ _ (far _ _ _ (far _ _ _ (far _ _ _ (far _ _ _ (far _ _ _ (far _ _ _ hc))))))
theorem Seven.put {g : Nat} {v0 v1 v2 v3 v4 v5 v6 : Value} (x0 x1 x2 x3 x4 x5 x6 : Value) {w : World} (h : Seven g v0 v1 v2 v3 v4 v5 v6 w) :
    Seven g x0 x1 x2 x3 x4 x5 x6 (((((((w.setCell ⟨g, 0, none⟩ x0).setCell ⟨g, 1, none⟩ x1).setCell ⟨g, 2, none⟩ x2).setCell ⟨g, 3, none⟩ x3).setCell ⟨g, 4, none⟩ x4).setCell ⟨g, 5, none⟩ x5).setCell ⟨g, 6, none⟩ x6) := by
  obtain ⟨c0, c1, c2, c3, c4, c5, c6, f⟩ := h
  refine ⟨?_, ?_, ?_, ?_, ?_, ?_, ?_, fun j => ?_⟩
  · go_cell
  · go_cell
  · go_cell
  · go_cell
  · go_cell
  · go_cell
  · go_cell
  · simp only [World.frozen?_setCell]; exact f j

end Go.Proofs.Ytolfdncmlfnbdaa
namespace Go.Proofs.Ytolfdncmlfnbdaa
open Go.RowKit

theorem may_y (x : Lt) (r : LR) (tm i t : Int) (s : S4) (L a m d : Nat) (B : Option Addr) (W : World) (h1 : L ≤ 131072) (h2 : a ≤ L) (h3 : m ≤ L - a) :
    Calls Try.prog 136 #[.agg #[.int .u8 5, .int .i64 x.group, .int .i64 x.from_, .int .i64 x.to_, .int .i64 tm, .int .i64 x.index, .int .i64 x.logterm, .int .i64 x.commit, .bool x.ok, .slice r.eA x.es.length r.ec, .int .i64 i, .int .i64 t, .slice s.A0 s.n0 s.c0, .slice s.A1 s.n1 s.c1, .slice s.A2 s.n2 s.c2, .slice s.A3 s.n3 s.c3, .int .i64 (L : Int), .int .i64 (a : Int), .int .i64 x.tag, .slice B m d]] W fun e w' => e = .returned (.bool true) ∧ Ok W w' := by
  have h := may_f ⟨r.eA, r.ec, s, B, m, d⟩ ⟨5, x.group, x.from_, x.to_, tm, x.index, x.logterm, x.commit, x.ok, x.es, i, t, ⟨[], [], [], []⟩, (L : Int), (a : Int), x.tag, []⟩ W
  refine h.mono fun e w' ⟨he, hk⟩ => ⟨?_, hk⟩
  rw [he]
  have d1 : decide ((L : Int) ≤ (131072 : Int)) = true := decide_eq_true (by omega)
  have d2 : decide ((a : Int) ≤ (L : Int)) = true := decide_eq_true (by omega)
  have d3 : decide ((m : Int) ≤ (L : Int) - (a : Int)) = true := decide_eq_true (by omega)
  have d4 : decide ((0 : Int) ≤ (L : Int)) = true := decide_eq_true (by omega)
  have d5 : decide ((0 : Int) ≤ (a : Int)) = true := decide_eq_true (by omega)
  simp only [mayB, d1, d2, d3, d4, d5, Bool.and_true, beq_self_eq_true]
theorem crossing_y (x : Lt) (r : LR) (tm i t : Int) (s : S4) (L a : Int) (m d : Nat) (B : Option Addr) (W : World) :
    Calls Try.prog 137 #[.agg #[.int .u8 5, .int .i64 x.group, .int .i64 x.from_, .int .i64 x.to_, .int .i64 tm, .int .i64 x.index, .int .i64 x.logterm, .int .i64 x.commit, .bool x.ok, .slice r.eA x.es.length r.ec, .int .i64 i, .int .i64 t, .slice s.A0 s.n0 s.c0, .slice s.A1 s.n1 s.c1, .slice s.A2 s.n2 s.c2, .slice s.A3 s.n3 s.c3, .int .i64 L, .int .i64 a, .int .i64 x.tag, .slice B m d]] W fun e w' => e = .returned (.agg #[.int .i64 tm, .int .i64 i, .int .i64 t, .int .i64 L, .bool true]) ∧ Ok W w' :=
  crossingOf_f ⟨r.eA, r.ec, s, B, m, d⟩ ⟨5, x.group, x.from_, x.to_, tm, x.index, x.logterm, x.commit, x.ok, x.es, i, t, ⟨[], [], [], []⟩, L, a, x.tag, []⟩ W
theorem whole_y (tm i t : Int) (sz n : Nat) (W : World) (h : n = sz) :
    Calls Try.prog 139 #[.agg #[.int .i64 tm, .int .i64 i, .int .i64 t, .int .i64 (sz : Int), .bool true], .int .i64 (n : Int)] W fun e w' => e = .returned (.bool true) ∧ Ok W w' := by
  have := whole_f tm i t (sz : Int) n W
  rwa [decide_eq_true (by omega)] at this
theorem whole_n (tm i t : Int) (sz n : Nat) (W : World) (h : ¬ n = sz) :
    Calls Try.prog 139 #[.agg #[.int .i64 tm, .int .i64 i, .int .i64 t, .int .i64 (sz : Int), .bool true], .int .i64 (n : Int)] W fun e w' => e = .returned (.bool false) ∧ Ok W w' := by
  have := whole_f tm i t (sz : Int) n W
  rwa [decide_eq_false (by omega)] at this
/-- Are two crossings one? -/
def crossB (tm i t sz : Int) (u : Bool) (tm' i' t' sz' : Int) : Bool := tm == tm' && (i == i' && (t == t' && (sz == sz' && u)))
set_option maxRecDepth 100000 in
set_option maxHeartbeats 1000000 in
theorem cross_ne (tm i t sz : Int) (u : Bool) (tm' i' t' sz' : Int) (w : World) : (binOp .neq 117 (.agg #[.int .i64 tm', .int .i64 i', .int .i64 t', .int .i64 sz', .bool true]) (.agg #[.int .i64 tm, .int .i64 i, .int .i64 t, .int .i64 sz, .bool u])).run Try.prog w = .ok (.bool (!crossB tm i t sz u tm' i' t' sz')) w := by
  have e : ∀ a b : Int, (a == b) = decide (b = a) := fun a b => by
    by_cases h : b = a
    · simp [h]
    · rw [decide_eq_false h]; simp; exact fun q => h q.symm
  have f : (!crossB tm i t sz u tm' i' t' sz') = if tm' = tm then if i' = i then if t' = t then if sz' = sz then (if u = false then true else false) else true else true else true else true := by
    unfold crossB
    rw [e, e, e, e]
    by_cases h1 : tm' = tm
    · by_cases h2 : i' = i
      · by_cases h3 : t' = t
        · by_cases h4 : sz' = sz
          · cases u <;> simp only [h1, h2, h3, h4, if_true, decide_true] <;> rfl
          · simp only [h1, h2, h3, h4, if_true, if_false, decide_true, decide_false] ; rfl
        · simp only [h1, h2, h3, if_true, if_false, decide_true, decide_false] ; rfl
      · simp only [h1, h2, if_true, if_false, decide_true, decide_false] ; rfl
    · simp only [h1, if_false, decide_false] ; rfl
  rw [f]
  clear f e
  obtain ⟨q, hq⟩ : ∃ q, (if tm' = tm then if i' = i then if t' = t then if sz' = sz then (if u = false then true else false) else true else true else true else true) = q := ⟨_, rfl⟩
  rw [hq]
  go_simp
  rw [← hq]
  clear hq
  by_cases h1 : tm' = tm
  · by_cases h2 : i' = i
    · by_cases h3 : t' = t
      · by_cases h4 : sz' = sz
        · cases u <;> simp only [if_pos h1, if_pos h2, if_pos h3, if_pos h4] <;> rfl
        · simp only [if_pos h1, if_pos h2, if_pos h3, if_neg h4]
      · simp only [if_pos h1, if_pos h2, if_neg h3]
    · simp only [if_pos h1, if_neg h2]
  · simp only [if_neg h1]
/-- What the ferry has behind a piece. -/
def laid (xs ys : List B8) (a : Nat) : List B8 := if a ≤ xs.length ∧ xs.length - a < ys.length then xs ++ ys.drop (xs.length - a) else xs
/-- A piece is taken: these bytes are there now; all of them, or not. -/
def TakeYes (p : Nat) (tm i t : Int) (L : Nat) (cf : Cfg) (A : Option Addr) (n c : Nat) (W : World) (zs : List B8) (e : Ending) (w' : World) : Prop :=
  (zs.length ≠ L ∧ e = .returned (.tuple #[.int .i64 (zs.length : Int), .bool false, .agg #[.int .i64 0, .int .i64 0, .slice none 0 0, .slice none 0 0, .slice none 0 0, .slice none 0 0, .slice none 0 0]]) ∧
    (∃ A' c', FAt p tm i t (L : Int) true A' zs.length c' zs w' ∧ ∀ j, j < W.heap.size → (Value.slice A' zs.length c').ownBlock = some j → (Value.slice A n c).ownBlock = some j) ∧ Fr p A n c W w') ∨
  (zs.length = L ∧ (∃ (s' : S4) (A' : Option Addr) (c' : Nat), e = .returned (.tuple #[.int .i64 (zs.length : Int), .bool true, .agg #[.int .i64 i, .int .i64 t, .slice s'.A0 s'.n0 s'.c0, .slice s'.A1 s'.n1 s'.c1, .slice s'.A2 s'.n2 s'.c2, .slice s'.A3 s'.n3 s'.c3, .slice A' zs.length c']]) ∧ CfgOwn w' W.heap.size s' cf ∧ OwnN w' W.heap.size (.slice A' zs.length c') zs) ∧ FAt p 0 0 0 0 false none 0 0 [] w' ∧ Fr p A n c W w')
end Go.Proofs.Ytolfdncmlfnbdaa
