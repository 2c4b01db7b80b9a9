/- A ferry in memory, and what its small functions do. -/
import Derived.Test.YtnjaiiifafbbjaaFd
import Derived.Maps.AppendAt
import Derived.Deep.MidRow
namespace Go.Proofs.Ytnjaiiifafbbjaa
open Go.RowKit

/-- A ferry at block p: its crossing, the bytes that it has; these lie behind it. -/
structure FAt (p : Nat) (tm i t sz : Int) (u : Bool) (A : Option Addr) (n c : Nat) (xs : List B8) (w : World) : Prop where
  c0 : w.cell? ⟨p, 0, none⟩ = some (.int .i64 tm)
  c1 : w.cell? ⟨p, 1, none⟩ = some (.int .i64 i)
  c2 : w.cell? ⟨p, 2, none⟩ = some (.int .i64 t)
  c3 : w.cell? ⟨p, 3, none⟩ = some (.int .i64 sz)
  c4 : w.cell? ⟨p, 4, none⟩ = some (.bool u)
  c5 : w.cell? ⟨p, 5, none⟩ = some (.slice A n c)
  c6 : w.cell? ⟨p, 6, none⟩ = some (.bool true)
  own : OwnN w (p + 1) (.slice A n c) xs
  f : ∀ k, w.frozen? ⟨p, k, none⟩ = false
theorem FAt.ok {p : Nat} {tm i t sz : Int} {u : Bool} {A : Option Addr} {n c : Nat} {xs : List B8} {w w' : World} (h : FAt p tm i t sz u A n c xs w) (k : Ok w w') : FAt p tm i t sz u A n c xs w' := by
  have hg := World.block_lt_of_cell? _ _ h.c0
  exact ⟨k.cell h.c0, k.cell h.c1, k.cell h.c2, k.cell h.c3, k.cell h.c4, k.cell h.c5, k.cell h.c6, h.own.okk k, fun j => by rw [Below.frozen k (p := ⟨p, j, none⟩) hg]; exact h.f j⟩
theorem FAt.lt {p : Nat} {tm i t sz : Int} {u : Bool} {A : Option Addr} {n c : Nat} {xs : List B8} {w : World} (h : FAt p tm i t sz u A n c xs w) : p < w.heap.size := World.block_lt_of_cell? _ _ h.c0
theorem FAt.len {p : Nat} {tm i t sz : Int} {u : Bool} {A : Option Addr} {n c : Nat} {xs : List B8} {w : World} (h : FAt p tm i t sz u A n c xs w) : n = xs.length := by
  obtain ⟨_, _, e⟩ := h.own.form
  simp only [Value.slice.injEq] at e
  exact e.2.1
theorem FAt.ownGe {p : Nat} {tm i t sz : Int} {u : Bool} {A : Option Addr} {n c : Nat} {xs : List B8} {w : World} (h : FAt p tm i t sz u A n c xs w) (k : Nat) (e : (Value.slice A n c).ownBlock = some k) : p + 1 ≤ k ∧ k < w.heap.size := World.ownsRow.lt h.own k e

/-- But for the ferry's block, and the block of its bytes, what was there is as it was. -/
structure Fr (p : Nat) (A : Option Addr) (n c : Nat) (w w' : World) : Prop where
  os : w'.os = w.os
  tape : w'.tape = w.tape
  output : w'.output = w.output
  size : w.heap.size ≤ w'.heap.size
  block : ∀ k, k < w.heap.size → k ≠ p → (Value.slice A n c).ownBlock ≠ some k → w'.heap[k]? = w.heap[k]?
theorem Fr.refl (p : Nat) (A : Option Addr) (n c : Nat) (w : World) : Fr p A n c w w := ⟨rfl, rfl, rfl, Nat.le_refl _, fun _ _ _ _ => rfl⟩
theorem Fr.ok {p : Nat} {A : Option Addr} {n c : Nat} {a b d : World} (h : Fr p A n c a b) (k : Ok b d) : Fr p A n c a d :=
  ⟨k.os.trans h.os, k.tape.trans h.tape, k.output.trans h.output, Nat.le_trans h.size k.size, fun j hj hp ho => (k.block j (Nat.lt_of_lt_of_le hj h.size)).trans (h.block j hj hp ho)⟩
theorem Fr.of {p : Nat} {A : Option Addr} {n c : Nat} {a b d : World} (h : Ok a b) (k : Fr p A n c b d) : Fr p A n c a d :=
  ⟨k.os.trans h.os, k.tape.trans h.tape, k.output.trans h.output, Nat.le_trans h.size k.size, fun j hj hp ho => (k.block j (Nat.lt_of_lt_of_le hj h.size) hp ho).trans (h.block j hj)⟩
theorem Fr.set {p : Nat} {A : Option Addr} {n c : Nat} {a b : World} (h : Fr p A n c a b) (o : Nat) (v : Value) : Fr p A n c a (b.setCell ⟨p, o, none⟩ v) :=
  ⟨h.os, h.tape, h.output, by simpa [World.setCell] using h.size, fun j hj hp ho => by rw [heap_setCell_other b ⟨p, o, none⟩ j v (by simpa using hp)]; exact h.block j hj hp ho⟩
theorem Fr.far {p q : Nat} {A : Option Addr} {n c : Nat} {a b : World} (h : Fr p A n c a b) (hq : a.heap.size ≤ q) (o : Nat) (v : Value) : Fr p A n c a (b.setCell ⟨q, o, none⟩ v) :=
  ⟨h.os, h.tape, h.output, by simpa [World.setCell] using h.size, fun j hj hp ho => by rw [heap_setCell_other b ⟨q, o, none⟩ j v (by simp; omega)]; exact h.block j hj hp ho⟩
theorem Fr.grown {p : Nat} {A : Option Addr} {n c : Nat} {a b : World} (k : a.grownBy b (Value.slice A n c).ownBlock) : Fr p A n c a b :=
  ⟨k.os, k.tape, k.output, k.size, fun j hj _ ho => k.block j hj (fun e => ho e.symm)⟩
theorem Fr.cell {p b o : Nat} {A : Option Addr} {n c : Nat} {w w' : World} {v : Value} (h : Fr p A n c w w') (hc : w.cell? ⟨b, o, none⟩ = some v) (hb : b ≠ p) (ho : (Value.slice A n c).ownBlock ≠ some b) : w'.cell? ⟨b, o, none⟩ = some v := by
  rw [World.cell?_of_block (w := w) (h.block b (World.block_lt_of_cell? _ _ hc) hb ho)]; exact hc
theorem Fr.frozen {p b o : Nat} {A : Option Addr} {n c : Nat} {w w' : World} {f : Bool} (h : Fr p A n c w w') (hf : w.frozen? ⟨b, o, none⟩ = f) (hs : b < w.heap.size) (hb : b ≠ p) (ho : (Value.slice A n c).ownBlock ≠ some b) : w'.frozen? ⟨b, o, none⟩ = f := by
  rw [World.frozen?_of_block (w := w) (h.block b hs hb ho)]; exact hf
/-- One change behind another one, whose ferry's bytes lie in the same block, or in a new one. -/
theorem Fr.trans {p : Nat} {A A' : Option Addr} {n c n' c' : Nat} {a b d : World} (h : Fr p A n c a b) (k : Fr p A' n' c' b d) (hne : ∀ j, j < a.heap.size → (Value.slice A' n' c').ownBlock = some j → (Value.slice A n c).ownBlock = some j) : Fr p A n c a d :=
  ⟨k.os.trans h.os, k.tape.trans h.tape, k.output.trans h.output, Nat.le_trans h.size k.size, fun j hj hp ho =>
    (k.block j (Nat.lt_of_lt_of_le hj h.size) hp (fun e => ho (hne j hj e))).trans (h.block j hj hp ho)⟩
theorem Fr.below {p B : Nat} {tm i t sz : Int} {u : Bool} {A : Option Addr} {n c : Nat} {xs : List B8} {w w' : World} (k : Fr p A n c w w') (h : FAt p tm i t sz u A n c xs w) (hB : B ≤ p) : Below B w w' :=
  ⟨k.os, k.tape, k.output, k.size, fun j hj => k.block j (by have := h.lt; omega) (by omega) (fun e => by have := h.ownGe j e; omega)⟩

/-- Bytes are laid behind the ferry's own. -/
theorem wpList_appN {ops : Array Oper} {rest : List Oper} {o : Oper} {a : Act} {w : World} {Q : Exit → Act → World → Prop} (hgd : o.guard = none) (s x : Operand)
    (ho : o.op = .call { callee := .builtin .append, args := #[s, x], argTypes := #[32, 32] })
    (base : Nat) (A : Option Addr) (n c : Nat) (xs ys : List B8) (B : Option Addr) (m d : Nat) (hs : a.eval s = .slice A n c) (hx : a.eval x = .slice B m d) (hown : OwnN w base (.slice A n c) xs) (hy : BytesIn w (.slice B m d) ys)
    (hlen : xs.length + ys.length ≤ 140737488351232) (hbase : base ≤ w.heap.size)
    (h : ∀ A' c' w', OwnN w' base (.slice A' (n + m) c') (xs ++ ys) → w.grownBy w' (Value.slice A n c).ownBlock → ((Value.slice A' (n + m) c').ownBlock = (Value.slice A n c).ownBlock ∨ (Value.slice A' (n + m) c').ownBlock = some w.heap.size) → wpList Try.prog ops Q rest (a.put o.dst (.slice A' (n + m) c')) w') : wpList Try.prog ops Q (o :: rest) a w := by
  obtain ⟨i0, hi, hz0, hz1, hz2⟩ := info_parts info5
  obtain ⟨_, _, en⟩ := hown.form
  simp only [Value.slice.injEq] at en
  obtain ⟨rfl, rfl, rfl⟩ := en
  have hlate : ∀ v' w', w'.ownsRow base 5 1 v' (xs.length + ys.length) (xs.map bv ++ ys.map bv) → m = ys.length → w.grownBy w' (Value.slice A xs.length c).ownBlock → (v'.ownBlock = (Value.slice A xs.length c).ownBlock ∨ v'.ownBlock = some w.heap.size) → wpList Try.prog ops Q rest (a.put o.dst v') w' := by
    intro v' w' h2 hm h3 h4
    have h2' : OwnN w' base v' (xs ++ ys) := by unfold OwnN; rw [List.map_append, List.length_append]; exact h2
    obtain ⟨A', c', rfl⟩ := h2'.form
    rw [List.length_append, ← hm] at h2' h4 ⊢
    exact h A' c' w' h2' h3 h4
  rcases hy with ⟨rfl, B', d', eB, hB⟩ | ⟨b, off, d', eB, _, hm, hc⟩
  · simp only [Value.slice.injEq] at eB
    obtain ⟨rfl, rfl, rfl⟩ := eB
    cases B with
    | some ad =>
      refine wpList_append_own_at _ hgd s x 32 ho base 5 i0 (.int .u8 0) 1 1 Try.underlying32 hi hz0 hz1 hz2 rfl (by decide) _ xs.length (xs.map bv) hs hown ad 0 d [] hx rfl (fun j u hu => by simp at hu) (fun u hu => by simp at hu) (by unfold maxLen; simp at hlen; omega) (by simp at hlen; omega) hbase ?_
      intro v' w' h2 h3 _ h5
      exact hlate v' w' h2 rfl h3 h5
    | none =>
      obtain rfl := hB rfl
      refine wpList_append_own_none hgd s x 32 ho base 5 i0 1 Try.underlying32 hi _ xs.length (xs.map bv) hs hown hx ?_
      exact hlate _ w (by have := hown; unfold OwnN at this; simpa using this) rfl ⟨rfl, rfl, rfl, Nat.le_refl _, fun _ _ _ => rfl⟩ (.inl rfl)
  · simp only [Value.slice.injEq] at eB
    obtain ⟨rfl, rfl, rfl⟩ := eB
    refine wpList_append_own_at _ hgd s x 32 ho base 5 i0 (.int .u8 0) 1 1 Try.underlying32 hi hz0 hz1 hz2 rfl (by decide) _ xs.length (xs.map bv) hs hown ⟨b, off, none⟩ ys.length d (ys.map bv) hx (by simp) ?_ ?_ (by unfold maxLen; omega) (by omega) hbase ?_
    · intro j u hu
      have hj : j < ys.length := by
        by_cases hl : j < ys.length
        · exact hl
        · rw [List.getElem?_eq_none (by simp; omega)] at hu; cases hu
      have e : (⟨b, off, none⟩ : Addr).add j = ⟨b, off + j, none⟩ := by unfold Addr.add; split <;> simp_all
      rw [e, hc j hj, ← hu]
      simp [hj, bv]
    · intro u hu
      obtain ⟨y, _, rfl⟩ := List.mem_map.1 hu
      rfl
    · intro v' w' h2 h3 _ h5
      exact hlate v' w' h2 rfl h3 h5

set_option maxRecDepth 100000 in
theorem fnew_f (W : World) : Calls Try.prog 37 #[] W fun e w' => e = .returned (.pointer (some ⟨W.heap.size, 0, none⟩)) ∧ FAt W.heap.size 0 0 0 0 false none 0 0 [] w' ∧ Ok W w' ∧ w'.heap.size = W.heap.size + 1 := by
  have HF : Hid (FAt W.heap.size 0 0 0 0 false none 0 0 [] (W.alloc (.cells #[.int .i64 0, .int .i64 0, .int .i64 0, .int .i64 0, .bool false, .slice none 0 0, .bool true] 163))) := Lib.hid
    ⟨box_cell _ _ _ _ _ rfl, box_cell _ _ _ _ _ rfl, box_cell _ _ _ _ _ rfl, box_cell _ _ _ _ _ rfl, box_cell _ _ _ _ _ rfl, box_cell _ _ _ _ _ rfl, box_cell _ _ _ _ _ rfl, OwnN.nil _ _, fun j => by rw [World.frozen?, heap_alloc_new]; simp⟩
  go_enter Try.func37, Try.ntmps37
  go_wp2_with fail
  go_ret
  exact ⟨rfl, HF.out, (Ok.refl W).alloc _, World.size_alloc _ _⟩

theorem fnone_f (p : Nat) (W : World) (c6 : W.cell? ⟨p, 6, none⟩ = some (.bool true)) : Calls Try.prog 94 #[.pointer (some ⟨p, 0, none⟩)] W fun e w' => e = .returned (.bool false) ∧ W = w' := by
  go_enter Try.func94, Try.ntmps94
  go_wp2_with fail
  go_ret
  exact ⟨rfl, rfl⟩

set_option maxRecDepth 100000 in
theorem may_f (tm i t : Int) (s : S4) (sz a n c : Nat) (A : Option Addr) (W : World) (h1 : sz ≤ 131072) (h2 : a ≤ sz) (h3 : n ≤ sz - a) :
    Calls Try.prog 95 #[.agg #[.int .u8 5, .int .i64 0, .int .i64 1, .int .i64 2, .int .i64 tm, .int .i64 0, .int .i64 0, .int .i64 0, .bool false, .slice none 0 0, .int .i64 i, .int .i64 t, .slice s.A0 s.n0 s.c0, .slice s.A1 s.n1 s.c1, .slice s.A2 s.n2 s.c2, .slice s.A3 s.n3 s.c3, .int .i64 (sz : Int), .int .i64 (a : Int), .int .i64 0, .slice A n c]] W fun e w' => e = .returned (.bool true) ∧ Ok W w' := by
  have d1 : decide ((sz : Int) ≤ (131072 : Int)) = true := decide_eq_true (by omega)
  have d2 : decide ((a : Int) ≤ (sz : Int)) = true := decide_eq_true (by omega)
  have d3 : decide ((n : Int) ≤ (sz : Int) - (a : Int)) = true := decide_eq_true (by omega)
  have d4 : decide ((0 : Int) ≤ (sz : Int)) = true := decide_eq_true (by omega)
  have d5 : decide ((0 : Int) ≤ (a : Int)) = true := decide_eq_true (by omega)
  go_enter Try.func95, Try.ntmps95
  go_wp2_with fail
  go_ret
  exact ⟨rfl, (Ok.refl W).alloc _⟩

set_option maxRecDepth 100000 in
theorem crossingOf_f (tm i t sz a : Int) (s : S4) (n c : Nat) (A : Option Addr) (W : World) :
    Calls Try.prog 96 #[.agg #[.int .u8 5, .int .i64 0, .int .i64 1, .int .i64 2, .int .i64 tm, .int .i64 0, .int .i64 0, .int .i64 0, .bool false, .slice none 0 0, .int .i64 i, .int .i64 t, .slice s.A0 s.n0 s.c0, .slice s.A1 s.n1 s.c1, .slice s.A2 s.n2 s.c2, .slice s.A3 s.n3 s.c3, .int .i64 sz, .int .i64 a, .int .i64 0, .slice A n c]] W fun e w' => e = .returned (.agg #[.int .i64 tm, .int .i64 i, .int .i64 t, .int .i64 sz, .bool true]) ∧ Ok W w' := by
  go_enter Try.func96, Try.ntmps96
  go_wp2_with fail
  refine bodyPost_ret (v := .agg #[.int .i64 tm, .int .i64 i, .int .i64 t, .int .i64 sz, .bool true]) (by simp [results, Try.results96, go_sem]; try rfl) rfl ⟨rfl, ((Ok.refl W).alloc _).alloc _⟩

theorem whole_f (tm i t : Int) (sz n : Nat) (W : World) :
    Calls Try.prog 99 #[.agg #[.int .i64 tm, .int .i64 i, .int .i64 t, .int .i64 (sz : Int), .bool true], .int .i64 (n : Int)] W fun e w' => e = .returned (.bool (decide (n = sz))) ∧ Ok W w' := by
  by_cases h : n = sz
  · subst h
    have e1 : ((n : Int) == n) = true := by simp
    rw [decide_eq_true rfl]
    go_enter Try.func99, Try.ntmps99
    go_wp2_with fail
    go_ret
    exact ⟨rfl, (Ok.refl W).alloc _⟩
  · have e1 : ((n : Int) == sz) = false := by simp; omega
    rw [decide_eq_false h]
    go_enter Try.func99, Try.ntmps99
    go_wp2_with fail
    go_ret
    exact ⟨rfl, (Ok.refl W).alloc _⟩

theorem info80 : (Try.prog.info? 80).map (·.size) = some 20 := by kernel_rfl
theorem there_new (w : World) (cs : Array Value) (t : TypeId) : (w.alloc (.cells cs t)).there w.heap.size 0 cs.size := fun j hj => by
  rw [Nat.zero_add]
  exact ⟨by rw [box_cell w cs t j _ (Array.getElem?_eq_getElem hj)]; rfl, by rw [World.frozen?, heap_alloc_new]; simp⟩
theorem range_new (w : World) (cs : List Value) (t : TypeId) : (w.alloc (.cells cs.toArray t)).rangeAt w.heap.size 0 cs := fun j v hv => by
  rw [Nat.zero_add]
  exact box_cell w _ t j v (by simpa using hv)
theorem Ok.sets {W : World} {b : Nat} (hb : W.heap.size ≤ b) : ∀ (vs : List Value) (o : Nat) (w : World), Ok W w → Ok W (w.setCells b o vs)
  | [], _, _, h => h
  | v :: r, o, _, h => Ok.sets hb r (o + 1) _ (Below.setCell (p := ⟨b, o, none⟩) h hb v)
theorem results_cell1 {fn : Func} {p : Tmp} {ty : TypeId} (h : fn.results = #[.cell p ty]) (tmps : Array Value) (P : Program) (w : World) :
    (results fn tmps).run P w = ((asAddr (tmps.getD p undef)).run P w).andThen fun a w₁ => (loadVar ty a).run P w₁ := by
  simp only [results, h]
  simp [Sem.run_bind, Result.andThen]

theorem FAt.begin {p : Nat} {tm i t sz tm' i' t' sz' : Int} {u u' : Bool} {A : Option Addr} {n c : Nat} {xs : List B8} {w : World} (h : FAt p tm i t sz u A n c xs w) :
    FAt p tm' i' t' sz' u' none 0 0 [] ((((((w.setCell ⟨p, 0, none⟩ (.int .i64 tm')).setCell ⟨p, 1, none⟩ (.int .i64 i')).setCell ⟨p, 2, none⟩ (.int .i64 t')).setCell ⟨p, 3, none⟩ (.int .i64 sz')).setCell ⟨p, 4, none⟩ (.bool u')).setCell ⟨p, 5, none⟩ (.slice none 0 0)) := by
  obtain ⟨c0, c1, c2, c3, c4, c5, c6, _, f⟩ := h
  refine ⟨?_, ?_, ?_, ?_, ?_, ?_, ?_, OwnN.nil _ _, fun j => ?_⟩
  · go_cell
  · go_cell
  · go_cell
  · go_cell
  · go_cell
  · go_cell
  · go_cell
  · simp only [World.frozen?_setCell]; exact f j

set_option maxRecDepth 100000 in
theorem begin_f (p : Nat) (tm i t sz tm' i' t' sz' : Int) (u u' : Bool) (A : Option Addr) (n c : Nat) (xs : List B8) (W : World) (h : FAt p tm i t sz u A n c xs W) :
    Calls Try.prog 97 #[.pointer (some ⟨p, 0, none⟩), .agg #[.int .i64 tm', .int .i64 i', .int .i64 t', .int .i64 sz', .bool u']] W fun e w' => e = .returned (.tuple #[]) ∧ FAt p tm' i' t' sz' u' none 0 0 [] w' ∧ Fr p A n c W w' := by
  have HF := Lib.hid (fun w1 (k : Ok W w1) => (h.ok k).begin (tm' := tm') (i' := i') (t' := t') (sz' := sz') (u' := u'))
  have HO := Lib.hid ((Ok.refl W).alloc (.cells #[.int .i64 tm', .int .i64 i', .int .i64 t', .int .i64 sz', .bool u'] 161))
  have HH := Lib.hid (h.ok HO.out)
  clear h
  have c0 := HH.out.c0
  have c1 := HH.out.c1
  have c2 := HH.out.c2
  have c3 := HH.out.c3
  have c4 := HH.out.c4
  have c5 := HH.out.c5
  have f0 := HH.out.f 0
  have f1 := HH.out.f 1
  have f2 := HH.out.f 2
  have f3 := HH.out.f 3
  have f4 := HH.out.f 4
  have f5 := HH.out.f 5
  go_enter Try.func97, Try.ntmps97
  go_wp2_with fail
  go_end0
  exact ⟨rfl, HF.out _ HO.out, Fr.of HO.out ((((((((Fr.refl p A n c _).set 0 _).set 1 _).set 2 _).set 3 _).set 4 _)).set 5 _)⟩

set_option maxRecDepth 100000 in
theorem lay_f (p : Nat) (tm i t sz : Int) (u : Bool) (A B : Option Addr) (n c m d : Nat) (xs ys : List B8) (W : World) (h : FAt p tm i t sz u A n c xs W) (hy : BytesIn W (.slice B m d) ys) (hl : xs.length + ys.length ≤ 1000000) :
    Calls Try.prog 98 #[.pointer (some ⟨p, 0, none⟩), .slice B m d] W fun e w' => e = .returned (.tuple #[]) ∧ (∃ A' c', FAt p tm i t sz u A' (n + m) c' (xs ++ ys) w' ∧ ∀ j, j < W.heap.size → (Value.slice A' (n + m) c').ownBlock = some j → (Value.slice A n c).ownBlock = some j) ∧ Fr p A n c W w' := by
  have HH := Lib.hid h
  have HY := Lib.hid hy
  have c5 := h.c5
  have hpl := h.lt
  clear h hy
  have HGROW : Hid (∀ A' c' w2, OwnN w2 (p + 1) (.slice A' (n + m) c') (xs ++ ys) → W.grownBy w2 (Value.slice A n c).ownBlock → w2.cell? ⟨p, 5, none⟩ = some (.slice A n c) ∧ w2.frozen? ⟨p, 5, none⟩ = false ∧ FAt p tm i t sz u A' (n + m) c' (xs ++ ys) (w2.setCell ⟨p, 5, none⟩ (.slice A' (n + m) c'))) := Lib.hid (by
    intro A' c' w2 ho hg
    have hne : (Value.slice A n c).ownBlock ≠ some p := fun e => by have := HH.out.ownGe p e; omega
    have kb : w2.heap[p]? = W.heap[p]? := hg.block p hpl (fun e => hne e.symm)
    have kc : ∀ o v, W.cell? ⟨p, o, none⟩ = some v → w2.cell? ⟨p, o, none⟩ = some v := fun o v hc => by rw [World.cell?_of_block (w := W) kb]; exact hc
    have kf : ∀ o, w2.frozen? ⟨p, o, none⟩ = false := fun o => by rw [World.frozen?_of_block (w := W) kb]; exact HH.out.f o
    have d0 := kc _ _ HH.out.c0
    have d1 := kc _ _ HH.out.c1
    have d2 := kc _ _ HH.out.c2
    have d3 := kc _ _ HH.out.c3
    have d4 := kc _ _ HH.out.c4
    have d5 := kc _ _ HH.out.c5
    have d6 := kc _ _ HH.out.c6
    refine ⟨d5, kf 5, ?_, ?_, ?_, ?_, ?_, ?_, ?_, ho.set p 5 _ (by omega), fun j => ?_⟩
    · go_cell
    · go_cell
    · go_cell
    · go_cell
    · go_cell
    · go_cell
    · go_cell
    · rw [World.frozen?_setCell]; exact kf j)
  go_enter Try.func98, Try.ntmps98
  go_wp2_with (at_builtin; go_must (refine wpList_appN rfl (.tmp 8) (.tmp 9) rfl (p + 1) A n c xs ys B m d rfl rfl HH.out.own HY.out (by omega) (by omega) ?_; intro A' c' w2 hown2 hgrow2 hob2; have HX := Lib.hid hown2; have HG := Lib.hid hgrow2; have HB := Lib.hid hob2; obtain ⟨hk5, hf5, hfa⟩ := HGROW.out A' c' w2 hown2 hgrow2; have HFA := Lib.hid hfa; clear hown2 hgrow2 hob2 hfa))
  go_end0
  refine ⟨rfl, ⟨A', c', HFA.out, fun j hj e => ?_⟩, (Fr.grown HG.out).set 5 _⟩
  rcases HB.out with e1 | e1
  · rw [← e1]; exact e
  · rw [e1] at e; cases e; omega
end Go.Proofs.Ytnjaiiifafbbjaa
