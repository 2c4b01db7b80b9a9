/- The document's Fill of a letter that asks rightly. -/
import Derived.Test.YtolfdncmlfnbdaaLd
namespace Go.Proofs.Ytolfdncmlfnbdaa
open Go.RowKit

theorem step_appB1 {ops : Array Oper} {o : Oper} {a : Act} {w : World} {K : Act → World → Prop} {Q : Exit → Act → World → Prop} {E : Prop} (hgd : o.guard = none) (s x : Operand)
    (ho : o.op = .call { callee := .builtin .append, args := #[s, x], argTypes := #[26, 26] }) (base : Nat) (v : Value) (xs : List B8) (y : B8) (h c : Nat) (hs : a.eval s = v) (hx : a.eval x = .slice (some ⟨h, 0, none⟩) 1 c) (hown : OwnN w base v xs)
    (hc0 : w.cell? ⟨h, 0, none⟩ = some (.int .u8 (ub y))) (hlen : xs.length ≤ 1000000) (hbase : base ≤ w.heap.size)
    (hk : ∀ A N c' w', OwnN w' base (.slice A N c') (xs ++ [y]) → N = xs.length + 1 → Below base w w' → K (a.put o.dst (.slice A N c')) w') :
    if Region.wanted o (yielded ops a.tmps) = true then Oper.wp Try.prog o a w K Q else E := by
  have hw : Region.wanted o (yielded ops a.tmps) = true := by simp [Region.wanted, hgd]
  rw [if_pos hw]
  obtain ⟨i0, hi, hz0, hz1, hz2⟩ := info_parts info5
  obtain ⟨v', w', hr, h2, h3, _, _⟩ := run_append_own_at (P := Try.prog) w base 26 o.type 5 i0 (.int .u8 0) 1 1 Try.underlying26 hi hz0 hz1 hz2 rfl (by decide) _ xs.length (xs.map bv) hown ⟨h, 0, none⟩ 1 c [bv y] rfl (by
      intro j u hu
      match j, hu with
      | 0, hu =>
        obtain rfl : u = bv y := by simpa using hu.symm
        exact hc0) (by intro u hu; obtain rfl : u = bv y := by simpa using hu
                       rfl) (by unfold maxLen; omega) (by omega) hbase
  have h2' : OwnN w' base v' (xs ++ [y]) := by unfold OwnN; rw [List.map_append, List.length_append]; exact h2
  obtain ⟨A, c', rfl⟩ := h2'.form
  rw [List.length_append] at h2' hr
  unfold Oper.wp execOp
  simp only [ho, resolve, invoke, builtin, Sem.run_bind, Sem.run_pure, Result.andThen_ok, List.map_toArray, List.map_cons, List.map_nil, hs, hx, hr]
  exact hk A _ c' w' h2' rfl ((Below.refl base w).grown h3 hbase (fun k hk => (World.ownsRow.lt hown k hk).1))
theorem frozen_sets (p : Addr) : ∀ (vs : List Value) (b o : Nat) (w : World), (w.setCells b o vs).frozen? p = w.frozen? p
  | [], _, _, _ => rfl
  | v :: r, b, o, w => (frozen_sets p r b (o + 1) (w.setCell ⟨b, o, none⟩ v)).trans (World.frozen?_setCell _ _ _ _)
/-- The piece that is asked for. -/
def fillL (x : Lt) (m : Im) (a : Nat) : Lt := ⟨5, x.group, x.from_, x.to_, x.term, x.index, x.logterm, x.commit, x.ok, [], m.bi, m.bt, m.cfg, (m.bytes.length : Int), (a : Int), x.tag, (m.bytes.drop a).take 600⟩
def RefFillP (x : Lt) (m : Im) (a : Nat) (W : World) (e : Ending) (w' : World) : Prop :=
  ∃ (s : S4) (A : Option Addr) (N c : Nat), e = .returned (.tuple #[(LR.mk none 0 s A N c).val (fillL x m a), .bool true]) ∧ CfgN w' W.heap.size s m.cfg ∧ OwnN w' W.heap.size (.slice A N c) ((m.bytes.drop a).take 600) ∧ Ok W w'
/-- The letter that is filled. -/
def LY (x : Lt) (m : Im) (a L : Nat) (s : S4) (A : Option Addr) (k c : Nat) : List Value := [.int .u8 5, .int .i64 x.group, .int .i64 x.from_, .int .i64 x.to_, .int .i64 x.term, .int .i64 x.index, .int .i64 x.logterm, .int .i64 x.commit, .bool x.ok, .slice none 0 0, .int .i64 m.bi, .int .i64 m.bt, .slice s.A0 s.n0 s.c0, .slice s.A1 s.n1 s.c1, .slice s.A2 s.n2 s.c2, .slice s.A3 s.n3 s.c3, .int .i64 (L : Int), .int .i64 (a : Int), .int .i64 x.tag, .slice A k c]
structure FL (W : World) (g g3 B3 : Nat) (x : Lt) (m : Im) (q : IR) (a L : Nat) (s : S4) (W9 : World) (k : Nat) (A : Option Addr) (n c : Nat) (w : World) : Prop where
  y : w.rangeAt g3 0 (LY x m a L s A n c)
  fz : ∀ j, w.frozen? ⟨g3, j, none⟩ = false
  own : OwnN w W9.heap.size (.slice A n c) ((m.bytes.drop a).take k)
  i6 : w.cell? ⟨g + 1, 6, none⟩ = some (.slice q.A q.n q.c)
  x17 : w.cell? ⟨g, 17, none⟩ = some (.int .i64 (a : Int))
  ok : Ok W w
  hi : Hi B3 W9 w
  sz : W9.heap.size ≤ w.heap.size
  th : w.there (g + 2) 0 20
theorem take_one (l : List B8) (k : Nat) (h : k < l.length) : l.take (k + 1) = l.take k ++ [l.getD k 0#8] := by
  rw [List.take_add_one, List.getElem?_eq_getElem h]; simp [h]
theorem FL.step {W : World} {g g3 B3 : Nat} {x : Lt} {m : Im} {q : IR} {a L : Nat} {s : S4} {W9 : World} {k : Nat} {A : Option Addr} {n c : Nat} {w : World} (h : FL W g g3 B3 x m q a L s W9 k A n c w) {w2 : World} {A' : Option Addr} {n' c' : Nat} {k' : Nat}
    (hb : Below W9.heap.size w w2) (ho : OwnN w2 W9.heap.size (.slice A' n' c') ((m.bytes.drop a).take k')) (hg3 : g3 < W9.heap.size ∧ W.heap.size ≤ g3 ∧ g3 < B3 ∧ g + 2 < g3 ∧ B3 ≤ W9.heap.size) : FL W g g3 B3 x m q a L s W9 k' A' n' c' (w2.setCell ⟨g3, 19, none⟩ (.slice A' n' c')) := by
  have cell : ∀ {b o : Nat} {v : Value}, b < W9.heap.size → w.cell? ⟨b, o, none⟩ = some v → w2.cell? ⟨b, o, none⟩ = some v := fun {b o v} hlt hc => by
    rw [World.cell?_of_block (w := w) (hb.block b hlt)]; exact hc
  have frz : ∀ {b o : Nat}, b < W9.heap.size → w2.frozen? ⟨b, o, none⟩ = w.frozen? ⟨b, o, none⟩ := fun {b o} hlt => World.frozen?_of_block (w := w) (hb.block b hlt)
  have far : ∀ {b o : Nat} {v u : Value}, b ≠ g3 → w2.cell? ⟨b, o, none⟩ = some v → (w2.setCell ⟨g3, 19, none⟩ u).cell? ⟨b, o, none⟩ = some v := fun {b o v u} hne hc => by
    rw [World.cell?_setCell_other _ _ _ _ (fun e => hne (congrArg Addr.block e).symm)]; exact hc
  refine ⟨?_, fun j => ?_, ho.set g3 19 _ hg3.1, far (by omega) (cell (by omega) h.i6), far (by omega) (cell (by omega) h.x17), ?_, ?_, ?_, ?_⟩
  · have hr : w2.rangeAt g3 0 (LY x m a L s A n c) := fun j v hv => cell hg3.1 (h.y j v hv)
    have := range_set hr 19 (.slice A' n' c') (by simp [LY])
    exact this
  · rw [World.frozen?_setCell, frz hg3.1]; exact h.fz j
  · exact Below.setCell (p := ⟨g3, 19, none⟩) (Below.trans h.ok (Below.mono hb (by omega))) hg3.2.1 _
  · refine Hi.set' ⟨Nat.le_trans h.hi.1 hb.size, fun b h1 h2 => ?_⟩ hg3.2.2.1 _ _
    exact (hb.block b h2).trans (h.hi.2 b h1 h2)
  · rw [World.size_setCell]; exact Nat.le_trans h.sz hb.size
  · refine thereSet (by omega) (fun j hj => ?_) _ _
    obtain ⟨h1, h2⟩ := h.th j hj
    obtain ⟨u, hu⟩ := Option.isSome_iff_exists.1 h1
    exact ⟨by rw [cell (by omega) hu]; rfl, by rw [frz (by omega)]; exact h2⟩
theorem bcell {B b o : Nat} {w w2 : World} {v : Value} (h : Below B w w2) (hb : b < B) (hc : w.cell? ⟨b, o, none⟩ = some v) : w2.cell? ⟨b, o, none⟩ = some v := by rw [World.cell?_of_block (w := w) (h.block b hb)]; exact hc
theorem lt_raw {w : World} {p : Nat} {o : Obj} (h : w.heap[p]? = some o) : p < w.heap.size := (Array.getElem?_eq_some_iff.1 h).1
set_option maxRecDepth 100000 in
set_option maxHeartbeats 8000000 in
theorem refFill_w (r : LR) (x : Lt) (q : IR) (m : Im) (a : Nat) (W : World) (hl : LtAt W r x) (hs : LtLe x) (hm : ImAt W q m) (hf : Fine m.cfg) (hb : m.bytes.length ≤ 100000) (h0 : (x.kind != 5) = false) (h1 : (x.bi != m.bi) = false) (h2 : (x.bt != m.bt) = false) (h3 : x.at_ = (a : Int)) (h4 : a ≤ q.n) : Calls Try.prog 68 #[r.val x, q.val m] W (RefFillP x m a W) := by
  have HNQ := Lib.hid ((BytesIn.len' hm.bytes).1)
  have HKD : Hid (x.kind = 5) := Lib.hid (by simpa using h0)
  have HCB := Lib.hid (fun V (o : Ok W V) => copyBase_w m.bi m.bt q.s m.cfg V (hm.ok o).cfg hf)
  have HBI := Lib.hid hm.bytes
  have HLE := Lib.hid hb
  unfold baseV at HCB
  have HCP := Lib.hid (fun V (o : Ok W V) => copyLetter_w r x V (hl.ok o) hs)
  unfold LR.val at HCP
  unfold LR.val IR.val
  have HX0 : Hid ((((W.alloc (.cells (r.cells x).toArray 95)).alloc (.cells #[.int .i64 m.bi, .int .i64 m.bt, .slice q.s.A0 q.s.n0 q.s.c0, .slice q.s.A1 q.s.n1 q.s.c1, .slice q.s.A2 q.s.n2 q.s.c2, .slice q.s.A3 q.s.n3 q.s.c3, .slice q.A q.n q.c] 97)).alloc (.cells #[.int .u8 0, .int .i64 0, .int .i64 0, .int .i64 0, .int .i64 0, .int .i64 0, .int .i64 0, .int .i64 0, .bool false, .slice none 0 0, .int .i64 0, .int .i64 0, .slice none 0 0, .slice none 0 0, .slice none 0 0, .slice none 0 0, .int .i64 0, .int .i64 0, .int .i64 0, .slice none 0 0] 95)).heap[W.heap.size]? = some (.cells (r.cells x).toArray 95 (0, 0))) := Lib.hid (blk_old (blk_old (blk_new rfl)))
  have HY0 : Hid ((((W.alloc (.cells (r.cells x).toArray 95)).alloc (.cells #[.int .i64 m.bi, .int .i64 m.bt, .slice q.s.A0 q.s.n0 q.s.c0, .slice q.s.A1 q.s.n1 q.s.c1, .slice q.s.A2 q.s.n2 q.s.c2, .slice q.s.A3 q.s.n3 q.s.c3, .slice q.A q.n q.c] 97)).alloc (.cells #[.int .u8 0, .int .i64 0, .int .i64 0, .int .i64 0, .int .i64 0, .int .i64 0, .int .i64 0, .int .i64 0, .bool false, .slice none 0 0, .int .i64 0, .int .i64 0, .slice none 0 0, .slice none 0 0, .slice none 0 0, .slice none 0 0, .int .i64 0, .int .i64 0, .int .i64 0, .slice none 0 0] 95)).heap[W.heap.size + 1]? = some (.cells #[.int .i64 m.bi, .int .i64 m.bt, .slice q.s.A0 q.s.n0 q.s.c0, .slice q.s.A1 q.s.n1 q.s.c1, .slice q.s.A2 q.s.n2 q.s.c2, .slice q.s.A3 q.s.n3 q.s.c3, .slice q.A q.n q.c] 97 (0, 0))) := Lib.hid (blk_old (blk_new (World.size_alloc _ _)))
  have HT0 : Hid ((((W.alloc (.cells (r.cells x).toArray 95)).alloc (.cells #[.int .i64 m.bi, .int .i64 m.bt, .slice q.s.A0 q.s.n0 q.s.c0, .slice q.s.A1 q.s.n1 q.s.c1, .slice q.s.A2 q.s.n2 q.s.c2, .slice q.s.A3 q.s.n3 q.s.c3, .slice q.A q.n q.c] 97)).alloc (.cells #[.int .u8 0, .int .i64 0, .int .i64 0, .int .i64 0, .int .i64 0, .int .i64 0, .int .i64 0, .int .i64 0, .bool false, .slice none 0 0, .int .i64 0, .int .i64 0, .slice none 0 0, .slice none 0 0, .slice none 0 0, .slice none 0 0, .int .i64 0, .int .i64 0, .int .i64 0, .slice none 0 0] 95)).heap[W.heap.size + 2]? = some (.cells #[.int .u8 0, .int .i64 0, .int .i64 0, .int .i64 0, .int .i64 0, .int .i64 0, .int .i64 0, .int .i64 0, .bool false, .slice none 0 0, .int .i64 0, .int .i64 0, .slice none 0 0, .slice none 0 0, .slice none 0 0, .slice none 0 0, .int .i64 0, .int .i64 0, .int .i64 0, .slice none 0 0] 95 (0, 0))) := Lib.hid (blk_new (by rw [World.size_alloc, World.size_alloc]))
  have HO : Hid (Ok W (((W.alloc (.cells (r.cells x).toArray 95)).alloc (.cells #[.int .i64 m.bi, .int .i64 m.bt, .slice q.s.A0 q.s.n0 q.s.c0, .slice q.s.A1 q.s.n1 q.s.c1, .slice q.s.A2 q.s.n2 q.s.c2, .slice q.s.A3 q.s.n3 q.s.c3, .slice q.A q.n q.c] 97)).alloc (.cells #[.int .u8 0, .int .i64 0, .int .i64 0, .int .i64 0, .int .i64 0, .int .i64 0, .int .i64 0, .int .i64 0, .bool false, .slice none 0 0, .int .i64 0, .int .i64 0, .slice none 0 0, .slice none 0 0, .slice none 0 0, .slice none 0 0, .int .i64 0, .int .i64 0, .int .i64 0, .slice none 0 0] 95))) := Lib.hid ((((Ok.refl W).alloc _).alloc _).alloc _)
  have d0 := h0
  have d1 := h1
  have d2 := h2
  have HAT := Lib.hid h3
  have hnb : q.n ≤ 100000 := by have := HNQ.out; omega
  have d3 : decide ((a : Int) < (0 : Int)) = false := decide_eq_false (by omega)
  have d4 : decide (q.n < a) = false := decide_eq_false (by omega)
  have d4i : decide ((q.n : Int) < (a : Int)) = false := decide_eq_false (by omega)
  clear hl hs hm hf hb h0 h1 h2 h3
  go_enter Try.func68, Try.ntmps68
  go_upto_region 1 with fail
  generalize (((W.alloc (.cells (r.cells x).toArray 95)).alloc (.cells #[.int .i64 m.bi, .int .i64 m.bt, .slice q.s.A0 q.s.n0 q.s.c0, .slice q.s.A1 q.s.n1 q.s.c1, .slice q.s.A2 q.s.n2 q.s.c2, .slice q.s.A3 q.s.n3 q.s.c3, .slice q.A q.n q.c] 97)).alloc (.cells #[.int .u8 0, .int .i64 0, .int .i64 0, .int .i64 0, .int .i64 0, .int .i64 0, .int .i64 0, .int .i64 0, .bool false, .slice none 0 0, .int .i64 0, .int .i64 0, .slice none 0 0, .slice none 0 0, .slice none 0 0, .slice none 0 0, .int .i64 0, .int .i64 0, .int .i64 0, .slice none 0 0] 95)) = w0 at *
  obtain ⟨g, hg⟩ : ∃ g, W.heap.size = g := ⟨_, rfl⟩
  have HG2 : Hid (W.heap.size ≤ g + 2) := Lib.hid (by omega)
  rw [hg] at HX0 HY0 HT0 ⊢
  clear hg
  have HRG := Lib.hid (range_raw HX0.out)
  have HIN := Lib.hid (info95' r x)
  go_wp2_with (refine wpList_load_mid rfl 95 (.tmp 2) rfl g 0 rfl (r.cells x) _ HRG.out Try.underlying95 rfl HIN.out ?_)
  (with_reducible refine (HCP.out w0 HO.out).mono ?_)
  rintro _ w1 ⟨r', rfl, -, o1⟩
  unfold LR.val
  have HO1 := Lib.hid o1
  clear o1 HCP HRG HIN
  have HTZ : Hid ((w1.alloc (.cells #[.int .u8 0, .int .i64 0, .int .i64 0, .int .i64 0, .int .i64 0, .int .i64 0, .int .i64 0, .int .i64 0, .bool false, .slice none 0 0, .int .i64 0, .int .i64 0, .slice none 0 0, .slice none 0 0, .slice none 0 0, .slice none 0 0, .int .i64 0, .int .i64 0, .int .i64 0, .slice none 0 0] 95)).there w1.heap.size 0 20) := Lib.hid (there_raw (heap_alloc_new w1 _) (by decide))
  have HC1 := Lib.hid (cells_one r' x)
  have HOW : Hid (Ok w0 ((w1.alloc (.cells #[.int .u8 0, .int .i64 0, .int .i64 0, .int .i64 0, .int .i64 0, .int .i64 0, .int .i64 0, .int .i64 0, .bool false, .slice none 0 0, .int .i64 0, .int .i64 0, .slice none 0 0, .slice none 0 0, .slice none 0 0, .slice none 0 0, .int .i64 0, .int .i64 0, .int .i64 0, .slice none 0 0] 95)).setCells w1.heap.size 0 (r'.cells x))) := Lib.hid (setCells_ok w1.heap.size w0 HO1.out.size _ 0 _ (HO1.out.alloc _))
  go_upto_region 2 with (refine wpList_store_mid rfl 95 (.tmp 6) (.tmp 9) rfl w1.heap.size 0 (r'.cells x).toArray rfl rfl HTZ.out info95 HC1.out ?_)
  (try go_frame)
  have HYR : Hid (((w1.alloc (.cells #[.int .u8 0, .int .i64 0, .int .i64 0, .int .i64 0, .int .i64 0, .int .i64 0, .int .i64 0, .int .i64 0, .bool false, .slice none 0 0, .int .i64 0, .int .i64 0, .slice none 0 0, .slice none 0 0, .slice none 0 0, .slice none 0 0, .int .i64 0, .int .i64 0, .int .i64 0, .slice none 0 0] 95)).setCells w1.heap.size 0 (r'.cells x)).rangeAt w1.heap.size 0 (r'.cells x)) := Lib.hid (World.rangeAt_setCells_same _ w1.heap.size 0 (r'.cells x) HTZ.out)
  have HYF : Hid (∀ j, ((w1.alloc (.cells #[.int .u8 0, .int .i64 0, .int .i64 0, .int .i64 0, .int .i64 0, .int .i64 0, .int .i64 0, .int .i64 0, .bool false, .slice none 0 0, .int .i64 0, .int .i64 0, .slice none 0 0, .slice none 0 0, .slice none 0 0, .slice none 0 0, .int .i64 0, .int .i64 0, .int .i64 0, .slice none 0 0] 95)).setCells w1.heap.size 0 (r'.cells x)).frozen? ⟨w1.heap.size, j, none⟩ = false) := Lib.hid (fun j => by rw [frozen_sets]; exact frz_raw (heap_alloc_new w1 _) j)
  have HY3 : Hid (w1.heap.size < ((w1.alloc (.cells #[.int .u8 0, .int .i64 0, .int .i64 0, .int .i64 0, .int .i64 0, .int .i64 0, .int .i64 0, .int .i64 0, .bool false, .slice none 0 0, .int .i64 0, .int .i64 0, .slice none 0 0, .slice none 0 0, .slice none 0 0, .slice none 0 0, .int .i64 0, .int .i64 0, .int .i64 0, .slice none 0 0] 95)).setCells w1.heap.size 0 (r'.cells x)).heap.size) := Lib.hid (by have := HOW.out; exact World.block_lt_of_cell? _ _ (HYR.out 0 _ rfl))
  generalize (w1.alloc (.cells #[.int .u8 0, .int .i64 0, .int .i64 0, .int .i64 0, .int .i64 0, .int .i64 0, .int .i64 0, .int .i64 0, .bool false, .slice none 0 0, .int .i64 0, .int .i64 0, .slice none 0 0, .slice none 0 0, .slice none 0 0, .slice none 0 0, .int .i64 0, .int .i64 0, .int .i64 0, .slice none 0 0] 95)).setCells w1.heap.size 0 (r'.cells x) = w3 at *
  have HG3 : Hid (g + 2 < w1.heap.size) := Lib.hid (by have h1 := lt_raw HT0.out; have h2 := HO1.out.size; omega)
  obtain ⟨g3, hg3⟩ : ∃ g3, w1.heap.size = g3 := ⟨_, rfl⟩
  rw [hg3] at HYR HYF HY3 HG3 ⊢
  clear hg3
  have HO3 := Lib.hid (HO.out.trans HOW.out)
  have HTH : Hid (w3.there (g + 2) 0 20) := Lib.hid (there_raw (blk_ok HOW.out HT0.out) (by decide))
  have HON := Lib.hid zeroA_one
  have hx := blk_ok HOW.out HX0.out
  have hy := blk_ok HOW.out HY0.out
  have a0 : w3.cell? ⟨g, 0, none⟩ = some (.int .u8 x.kind) := (cell_of_heap hx 0).trans rfl
  have a10 : w3.cell? ⟨g, 10, none⟩ = some (.int .i64 x.bi) := (cell_of_heap hx 10).trans rfl
  have a11 : w3.cell? ⟨g, 11, none⟩ = some (.int .i64 x.bt) := (cell_of_heap hx 11).trans rfl
  have a17 : w3.cell? ⟨g, 17, none⟩ = some (.int .i64 (a : Int)) := HAT.out ▸ (cell_of_heap hx 17).trans rfl
  have b0 : w3.cell? ⟨(g + 1), 0, none⟩ = some (.int .i64 m.bi) := (cell_of_heap hy 0).trans rfl
  have b1 : w3.cell? ⟨(g + 1), 1, none⟩ = some (.int .i64 m.bt) := (cell_of_heap hy 1).trans rfl
  have b2 : w3.cell? ⟨(g + 1), 2, none⟩ = some (.slice q.s.A0 q.s.n0 q.s.c0) := (cell_of_heap hy 2).trans rfl
  have b3 : w3.cell? ⟨(g + 1), 3, none⟩ = some (.slice q.s.A1 q.s.n1 q.s.c1) := (cell_of_heap hy 3).trans rfl
  have b4 : w3.cell? ⟨(g + 1), 4, none⟩ = some (.slice q.s.A2 q.s.n2 q.s.c2) := (cell_of_heap hy 4).trans rfl
  have b5 : w3.cell? ⟨(g + 1), 5, none⟩ = some (.slice q.s.A3 q.s.n3 q.s.c3) := (cell_of_heap hy 5).trans rfl
  have b6 : w3.cell? ⟨(g + 1), 6, none⟩ = some (.slice q.A q.n q.c) := (cell_of_heap hy 6).trans rfl
  clear hx hy HX0 HY0 HT0 HTZ HC1 HOW
  go_upto_region 4 with fail
  clear d0 d1 d2 d3 d4 d4i a0 a10 a11
  have HB6 := Lib.hid b6
  have HA17 := Lib.hid a17
  go_wp2_with fail
  (with_reducible refine (HCB.out w3 HO3.out).mono ?_)
  rintro _ w4 ⟨s', rfl, hcn, o4⟩
  unfold baseV
  have HCN := Lib.hid hcn
  have HO4 := Lib.hid o4
  have c9 : w4.cell? ⟨g3, 9, none⟩ = some (.slice r'.eA x.es.length r'.ec) := o4.cell (by have := HYR.out 9 _ rfl; rwa [Nat.zero_add] at this)
  have f9 : w4.frozen? ⟨g3, 9, none⟩ = false := by rw [Below.frozen o4 (p := ⟨g3, 9, none⟩) HY3.out]; exact HYF.out 9
  have c10 : w4.cell? ⟨g3, 10, none⟩ = some (.int .i64 x.bi) := o4.cell (by have := HYR.out 10 _ rfl; rwa [Nat.zero_add] at this)
  have f10 : w4.frozen? ⟨g3, 10, none⟩ = false := by rw [Below.frozen o4 (p := ⟨g3, 10, none⟩) HY3.out]; exact HYF.out 10
  have c11 : w4.cell? ⟨g3, 11, none⟩ = some (.int .i64 x.bt) := o4.cell (by have := HYR.out 11 _ rfl; rwa [Nat.zero_add] at this)
  have f11 : w4.frozen? ⟨g3, 11, none⟩ = false := by rw [Below.frozen o4 (p := ⟨g3, 11, none⟩) HY3.out]; exact HYF.out 11
  have c12 : w4.cell? ⟨g3, 12, none⟩ = some (.slice r'.s.A0 r'.s.n0 r'.s.c0) := o4.cell (by have := HYR.out 12 _ rfl; rwa [Nat.zero_add] at this)
  have f12 : w4.frozen? ⟨g3, 12, none⟩ = false := by rw [Below.frozen o4 (p := ⟨g3, 12, none⟩) HY3.out]; exact HYF.out 12
  have c13 : w4.cell? ⟨g3, 13, none⟩ = some (.slice r'.s.A1 r'.s.n1 r'.s.c1) := o4.cell (by have := HYR.out 13 _ rfl; rwa [Nat.zero_add] at this)
  have f13 : w4.frozen? ⟨g3, 13, none⟩ = false := by rw [Below.frozen o4 (p := ⟨g3, 13, none⟩) HY3.out]; exact HYF.out 13
  have c14 : w4.cell? ⟨g3, 14, none⟩ = some (.slice r'.s.A2 r'.s.n2 r'.s.c2) := o4.cell (by have := HYR.out 14 _ rfl; rwa [Nat.zero_add] at this)
  have f14 : w4.frozen? ⟨g3, 14, none⟩ = false := by rw [Below.frozen o4 (p := ⟨g3, 14, none⟩) HY3.out]; exact HYF.out 14
  have c15 : w4.cell? ⟨g3, 15, none⟩ = some (.slice r'.s.A3 r'.s.n3 r'.s.c3) := o4.cell (by have := HYR.out 15 _ rfl; rwa [Nat.zero_add] at this)
  have f15 : w4.frozen? ⟨g3, 15, none⟩ = false := by rw [Below.frozen o4 (p := ⟨g3, 15, none⟩) HY3.out]; exact HYF.out 15
  have c16 : w4.cell? ⟨g3, 16, none⟩ = some (.int .i64 x.size) := o4.cell (by have := HYR.out 16 _ rfl; rwa [Nat.zero_add] at this)
  have f16 : w4.frozen? ⟨g3, 16, none⟩ = false := by rw [Below.frozen o4 (p := ⟨g3, 16, none⟩) HY3.out]; exact HYF.out 16
  have c19 : w4.cell? ⟨g3, 19, none⟩ = some (.slice r'.bA r'.bn r'.bc) := o4.cell (by have := HYR.out 19 _ rfl; rwa [Nat.zero_add] at this)
  have f19 : w4.frozen? ⟨g3, 19, none⟩ = false := by rw [Below.frozen o4 (p := ⟨g3, 19, none⟩) HY3.out]; exact HYF.out 19
  replace b6 := o4.cell b6
  replace a17 := o4.cell a17
  clear hcn o4 b0 b1 b2 b3 b4 b5 HCB
  go_upto_region 8 with fail
  have HYR4 : Hid (w4.rangeAt g3 0 [.int .u8 x.kind, .int .i64 x.group, .int .i64 x.from_, .int .i64 x.to_, .int .i64 x.term, .int .i64 x.index, .int .i64 x.logterm, .int .i64 x.commit, .bool x.ok, .slice r'.eA x.es.length r'.ec, .int .i64 x.bi, .int .i64 x.bt, .slice r'.s.A0 r'.s.n0 r'.s.c0, .slice r'.s.A1 r'.s.n1 r'.s.c1, .slice r'.s.A2 r'.s.n2 r'.s.c2, .slice r'.s.A3 r'.s.n3 r'.s.c3, .int .i64 x.size, .int .i64 x.at_, .int .i64 x.tag, .slice r'.bA r'.bn r'.bc]) := Lib.hid (fun j v hv => HO4.out.cell (HYR.out j v hv))
  have HB3 : Hid (g3 < w3.heap.size) := HY3
  have HNE : Hid (g3 ≠ g + 2) := Lib.hid (by have := HG3.out; omega)
  have HWG : Hid (W.heap.size ≤ g3) := Lib.hid (by have := HG2.out; have := HG3.out; omega)
  have HR9 : Hid ((((((((((w4.setCell ⟨g3, 10, none⟩ (.int .i64 m.bi)).setCell ⟨g3, 11, none⟩ (.int .i64 m.bt)).setCell ⟨g3, 12, none⟩ (.slice s'.A0 s'.n0 s'.c0)).setCell ⟨g3, 13, none⟩ (.slice s'.A1 s'.n1 s'.c1)).setCell ⟨g3, 14, none⟩ (.slice s'.A2 s'.n2 s'.c2)).setCell ⟨g3, 15, none⟩ (.slice s'.A3 s'.n3 s'.c3)).setCell ⟨g3, 16, none⟩ (.int .i64 (q.n : Int))).setCell ⟨g3, 9, none⟩ (.slice none 0 0)).setCell ⟨g3, 19, none⟩ (.slice none 0 0)).rangeAt g3 0 [.int .u8 x.kind, .int .i64 x.group, .int .i64 x.from_, .int .i64 x.to_, .int .i64 x.term, .int .i64 x.index, .int .i64 x.logterm, .int .i64 x.commit, .bool x.ok, .slice none 0 0, .int .i64 m.bi, .int .i64 m.bt, .slice s'.A0 s'.n0 s'.c0, .slice s'.A1 s'.n1 s'.c1, .slice s'.A2 s'.n2 s'.c2, .slice s'.A3 s'.n3 s'.c3, .int .i64 (q.n : Int), .int .i64 x.at_, .int .i64 x.tag, .slice none 0 0]) := Lib.hid (range_set (range_set (range_set (range_set (range_set (range_set (range_set (range_set (range_set HYR4.out 10 (.int .i64 m.bi) (by simp)) 11 (.int .i64 m.bt) (by simp)) 12 (.slice s'.A0 s'.n0 s'.c0) (by simp)) 13 (.slice s'.A1 s'.n1 s'.c1) (by simp)) 14 (.slice s'.A2 s'.n2 s'.c2) (by simp)) 15 (.slice s'.A3 s'.n3 s'.c3) (by simp)) 16 (.int .i64 (q.n : Int)) (by simp)) 9 (.slice none 0 0) (by simp)) 19 (.slice none 0 0) (by simp))
  have HH9 : Hid (Hi w3.heap.size w4 (((((((((w4.setCell ⟨g3, 10, none⟩ (.int .i64 m.bi)).setCell ⟨g3, 11, none⟩ (.int .i64 m.bt)).setCell ⟨g3, 12, none⟩ (.slice s'.A0 s'.n0 s'.c0)).setCell ⟨g3, 13, none⟩ (.slice s'.A1 s'.n1 s'.c1)).setCell ⟨g3, 14, none⟩ (.slice s'.A2 s'.n2 s'.c2)).setCell ⟨g3, 15, none⟩ (.slice s'.A3 s'.n3 s'.c3)).setCell ⟨g3, 16, none⟩ (.int .i64 (q.n : Int))).setCell ⟨g3, 9, none⟩ (.slice none 0 0)).setCell ⟨g3, 19, none⟩ (.slice none 0 0))) := Lib.hid (Hi.set' (Hi.set' (Hi.set' (Hi.set' (Hi.set' (Hi.set' (Hi.set' (Hi.set' (Hi.set' (Hi.refl _ _) HB3.out 10 (.int .i64 m.bi)) HB3.out 11 (.int .i64 m.bt)) HB3.out 12 (.slice s'.A0 s'.n0 s'.c0)) HB3.out 13 (.slice s'.A1 s'.n1 s'.c1)) HB3.out 14 (.slice s'.A2 s'.n2 s'.c2)) HB3.out 15 (.slice s'.A3 s'.n3 s'.c3)) HB3.out 16 (.int .i64 (q.n : Int))) HB3.out 9 (.slice none 0 0)) HB3.out 19 (.slice none 0 0))
  have HT9 : Hid ((((((((((w4.setCell ⟨g3, 10, none⟩ (.int .i64 m.bi)).setCell ⟨g3, 11, none⟩ (.int .i64 m.bt)).setCell ⟨g3, 12, none⟩ (.slice s'.A0 s'.n0 s'.c0)).setCell ⟨g3, 13, none⟩ (.slice s'.A1 s'.n1 s'.c1)).setCell ⟨g3, 14, none⟩ (.slice s'.A2 s'.n2 s'.c2)).setCell ⟨g3, 15, none⟩ (.slice s'.A3 s'.n3 s'.c3)).setCell ⟨g3, 16, none⟩ (.int .i64 (q.n : Int))).setCell ⟨g3, 9, none⟩ (.slice none 0 0)).setCell ⟨g3, 19, none⟩ (.slice none 0 0)).there (g + 2) 0 20) := Lib.hid (thereSet HNE.out (thereSet HNE.out (thereSet HNE.out (thereSet HNE.out (thereSet HNE.out (thereSet HNE.out (thereSet HNE.out (thereSet HNE.out (thereSet HNE.out (there_ok HTH.out HO4.out) 10 (.int .i64 m.bi)) 11 (.int .i64 m.bt)) 12 (.slice s'.A0 s'.n0 s'.c0)) 13 (.slice s'.A1 s'.n1 s'.c1)) 14 (.slice s'.A2 s'.n2 s'.c2)) 15 (.slice s'.A3 s'.n3 s'.c3)) 16 (.int .i64 (q.n : Int))) 9 (.slice none 0 0)) 19 (.slice none 0 0))
  have HO9 : Hid (Ok W (((((((((w4.setCell ⟨g3, 10, none⟩ (.int .i64 m.bi)).setCell ⟨g3, 11, none⟩ (.int .i64 m.bt)).setCell ⟨g3, 12, none⟩ (.slice s'.A0 s'.n0 s'.c0)).setCell ⟨g3, 13, none⟩ (.slice s'.A1 s'.n1 s'.c1)).setCell ⟨g3, 14, none⟩ (.slice s'.A2 s'.n2 s'.c2)).setCell ⟨g3, 15, none⟩ (.slice s'.A3 s'.n3 s'.c3)).setCell ⟨g3, 16, none⟩ (.int .i64 (q.n : Int))).setCell ⟨g3, 9, none⟩ (.slice none 0 0)).setCell ⟨g3, 19, none⟩ (.slice none 0 0))) := Lib.hid (Below.setCell (p := ⟨g3, 19, none⟩) (Below.setCell (p := ⟨g3, 9, none⟩) (Below.setCell (p := ⟨g3, 16, none⟩) (Below.setCell (p := ⟨g3, 15, none⟩) (Below.setCell (p := ⟨g3, 14, none⟩) (Below.setCell (p := ⟨g3, 13, none⟩) (Below.setCell (p := ⟨g3, 12, none⟩) (Below.setCell (p := ⟨g3, 11, none⟩) (Below.setCell (p := ⟨g3, 10, none⟩) (HO3.out.trans HO4.out) HWG.out (.int .i64 m.bi)) HWG.out (.int .i64 m.bt)) HWG.out (.slice s'.A0 s'.n0 s'.c0)) HWG.out (.slice s'.A1 s'.n1 s'.c1)) HWG.out (.slice s'.A2 s'.n2 s'.c2)) HWG.out (.slice s'.A3 s'.n3 s'.c3)) HWG.out (.int .i64 (q.n : Int))) HWG.out (.slice none 0 0)) HWG.out (.slice none 0 0))
  have HF9 : Hid (∀ j, (((((((((w4.setCell ⟨g3, 10, none⟩ (.int .i64 m.bi)).setCell ⟨g3, 11, none⟩ (.int .i64 m.bt)).setCell ⟨g3, 12, none⟩ (.slice s'.A0 s'.n0 s'.c0)).setCell ⟨g3, 13, none⟩ (.slice s'.A1 s'.n1 s'.c1)).setCell ⟨g3, 14, none⟩ (.slice s'.A2 s'.n2 s'.c2)).setCell ⟨g3, 15, none⟩ (.slice s'.A3 s'.n3 s'.c3)).setCell ⟨g3, 16, none⟩ (.int .i64 (q.n : Int))).setCell ⟨g3, 9, none⟩ (.slice none 0 0)).setCell ⟨g3, 19, none⟩ (.slice none 0 0)).frozen? ⟨g3, j, none⟩ = false) := Lib.hid (fun j => by simp only [World.frozen?_setCell]; rw [Below.frozen HO4.out (p := ⟨g3, j, none⟩) HY3.out]; exact HYF.out j)
  have hbq : (((((((((w4.setCell ⟨g3, 10, none⟩ (.int .i64 m.bi)).setCell ⟨g3, 11, none⟩ (.int .i64 m.bt)).setCell ⟨g3, 12, none⟩ (.slice s'.A0 s'.n0 s'.c0)).setCell ⟨g3, 13, none⟩ (.slice s'.A1 s'.n1 s'.c1)).setCell ⟨g3, 14, none⟩ (.slice s'.A2 s'.n2 s'.c2)).setCell ⟨g3, 15, none⟩ (.slice s'.A3 s'.n3 s'.c3)).setCell ⟨g3, 16, none⟩ (.int .i64 (q.n : Int))).setCell ⟨g3, 9, none⟩ (.slice none 0 0)).setCell ⟨g3, 19, none⟩ (.slice none 0 0)).cell? ⟨g + 1, 6, none⟩ = some (.slice q.A q.n q.c) := by
    iterate 9 rw [World.cell?_setCell_other _ _ _ _ (fun e => by have h1 := congrArg Addr.block e; have h2 := HG3.out; simp at h1; omega)]
    exact b6
  have hxq : (((((((((w4.setCell ⟨g3, 10, none⟩ (.int .i64 m.bi)).setCell ⟨g3, 11, none⟩ (.int .i64 m.bt)).setCell ⟨g3, 12, none⟩ (.slice s'.A0 s'.n0 s'.c0)).setCell ⟨g3, 13, none⟩ (.slice s'.A1 s'.n1 s'.c1)).setCell ⟨g3, 14, none⟩ (.slice s'.A2 s'.n2 s'.c2)).setCell ⟨g3, 15, none⟩ (.slice s'.A3 s'.n3 s'.c3)).setCell ⟨g3, 16, none⟩ (.int .i64 (q.n : Int))).setCell ⟨g3, 9, none⟩ (.slice none 0 0)).setCell ⟨g3, 19, none⟩ (.slice none 0 0)).cell? ⟨g, 17, none⟩ = some (.int .i64 (a : Int)) := by
    iterate 9 rw [World.cell?_setCell_other _ _ _ _ (fun e => by have h1 := congrArg Addr.block e; have h2 := HG3.out; simp at h1; omega)]
    exact a17
  have HC9 : Hid (CfgN (((((((((w4.setCell ⟨g3, 10, none⟩ (.int .i64 m.bi)).setCell ⟨g3, 11, none⟩ (.int .i64 m.bt)).setCell ⟨g3, 12, none⟩ (.slice s'.A0 s'.n0 s'.c0)).setCell ⟨g3, 13, none⟩ (.slice s'.A1 s'.n1 s'.c1)).setCell ⟨g3, 14, none⟩ (.slice s'.A2 s'.n2 s'.c2)).setCell ⟨g3, 15, none⟩ (.slice s'.A3 s'.n3 s'.c3)).setCell ⟨g3, 16, none⟩ (.int .i64 (q.n : Int))).setCell ⟨g3, 9, none⟩ (.slice none 0 0)).setCell ⟨g3, 19, none⟩ (.slice none 0 0)) w3.heap.size s' m.cfg) := Lib.hid (HCN.out.hi HH9.out)
  have HNL : Hid ([.int .u8 x.kind, .int .i64 x.group, .int .i64 x.from_, .int .i64 x.to_, .int .i64 x.term, .int .i64 x.index, .int .i64 x.logterm, .int .i64 x.commit, .bool x.ok, .slice none 0 0, .int .i64 m.bi, .int .i64 m.bt, .slice s'.A0 s'.n0 s'.c0, .slice s'.A1 s'.n1 s'.c1, .slice s'.A2 s'.n2 s'.c2, .slice s'.A3 s'.n3 s'.c3, .int .i64 (q.n : Int), .int .i64 x.at_, .int .i64 x.tag, .slice none 0 0] = LY x m a q.n s' none 0 0) := Lib.hid (by rw [HKD.out, HAT.out]; rfl)
  have HSZ : Hid (g3 < (((((((((w4.setCell ⟨g3, 10, none⟩ (.int .i64 m.bi)).setCell ⟨g3, 11, none⟩ (.int .i64 m.bt)).setCell ⟨g3, 12, none⟩ (.slice s'.A0 s'.n0 s'.c0)).setCell ⟨g3, 13, none⟩ (.slice s'.A1 s'.n1 s'.c1)).setCell ⟨g3, 14, none⟩ (.slice s'.A2 s'.n2 s'.c2)).setCell ⟨g3, 15, none⟩ (.slice s'.A3 s'.n3 s'.c3)).setCell ⟨g3, 16, none⟩ (.int .i64 (q.n : Int))).setCell ⟨g3, 9, none⟩ (.slice none 0 0)).setCell ⟨g3, 19, none⟩ (.slice none 0 0)).heap.size ∧ w3.heap.size ≤ (((((((((w4.setCell ⟨g3, 10, none⟩ (.int .i64 m.bi)).setCell ⟨g3, 11, none⟩ (.int .i64 m.bt)).setCell ⟨g3, 12, none⟩ (.slice s'.A0 s'.n0 s'.c0)).setCell ⟨g3, 13, none⟩ (.slice s'.A1 s'.n1 s'.c1)).setCell ⟨g3, 14, none⟩ (.slice s'.A2 s'.n2 s'.c2)).setCell ⟨g3, 15, none⟩ (.slice s'.A3 s'.n3 s'.c3)).setCell ⟨g3, 16, none⟩ (.int .i64 (q.n : Int))).setCell ⟨g3, 9, none⟩ (.slice none 0 0)).setCell ⟨g3, 19, none⟩ (.slice none 0 0)).heap.size) := Lib.hid (by have h1 := HH9.out.1; have h2 := HO4.out.size; have h3 := HB3.out; omega)
  clear c9 f9 c10 f10 c11 f11 c12 f12 c13 f13 c14 f14 c15 f15 c16 f16 c19 f19 b6 a17 HYR4 HH9
  generalize (((((((((w4.setCell ⟨g3, 10, none⟩ (.int .i64 m.bi)).setCell ⟨g3, 11, none⟩ (.int .i64 m.bt)).setCell ⟨g3, 12, none⟩ (.slice s'.A0 s'.n0 s'.c0)).setCell ⟨g3, 13, none⟩ (.slice s'.A1 s'.n1 s'.c1)).setCell ⟨g3, 14, none⟩ (.slice s'.A2 s'.n2 s'.c2)).setCell ⟨g3, 15, none⟩ (.slice s'.A3 s'.n3 s'.c3)).setCell ⟨g3, 16, none⟩ (.int .i64 (q.n : Int))).setCell ⟨g3, 9, none⟩ (.slice none 0 0)).setCell ⟨g3, 19, none⟩ (.slice none 0 0)) = W9 at *
  rw [HNL.out] at HR9
  obtain ⟨ab, hab⟩ : ∃ ab, q.A = ab := ⟨_, rfl⟩
  have HFL : Hid (FL W g g3 w3.heap.size x m q a q.n s' W9 0 none 0 0 W9) := Lib.hid ⟨HR9.out, HF9.out, by rw [List.take_zero]; exact OwnN.nil _ _, hbq, hxq, HO9.out, Hi.refl _ _, Nat.le_refl _, HT9.out⟩
  have HGS : Hid (g3 < W9.heap.size ∧ W.heap.size ≤ g3 ∧ g3 < w3.heap.size ∧ g + 2 < g3 ∧ w3.heap.size ≤ W9.heap.size) := Lib.hid ⟨HSZ.out.1, HWG.out, HB3.out, HG3.out, HSZ.out.2⟩
  have HEN : Hid (min (a + 600) q.n = min (a + 600) q.n) := Lib.hid rfl
  obtain ⟨E, hE⟩ : ∃ E, min (a + 600) q.n = E := ⟨_, rfl⟩
  replace HEN : Hid (min (a + 600) q.n = E) := Lib.hid hE
  clear hE hab
  have haE : a ≤ E := by have := HEN.out; omega
  clear HR9 HF9 HT9 HO9 HNL HSZ HB3 HNE HWG HKD
  go_upto_region 9 with fail
  clear hbq hxq
  go_loopw [7] (fun i wr => ∃ (e : Nat) (A : Option Addr) (k c : Nat), a ≤ e ∧ e ≤ E ∧ i = .int .i64 (e : Int) ∧ FL W g g3 w3.heap.size x m q a q.n s' W9 (e - a) A k c wr) (fun i _ => E - (intOf i).toNat)
  case atStart => exact ⟨a, none, 0, 0, Nat.le_refl _, haE, rfl, by rw [Nat.sub_self]; exact HFL.out⟩
  case round =>
    obtain ⟨e, A, k, c, hae, heE, rfl, hl⟩ := hrel
    have HL := Lib.hid hl
    clear hl
    have c6 := HL.out.i6
    have c17 := HL.out.x17
    have c19 : wr.cell? ⟨g3, 19, none⟩ = some (.slice A k c) := by have := HL.out.y 19 _ rfl; rwa [Nat.zero_add] at this
    by_cases hlt : e < E
    · have dn : decide (e < q.n) = true := decide_eq_true (by have := HEN.out; omega)
      have d2 : decide ((e : Int) < (a : Int) + 600) = true := decide_eq_true (by have := HEN.out; omega)
      have hw6 : IntKind.i64.wrap ((a : Int) + 600) = (a : Int) + 600 := by simp only [IntKind.wrap_i64]; omega
      have hen : e < q.n := by have := HEN.out; omega
      obtain ⟨bb, off, HA, HCE⟩ : ∃ bb off, q.A = some ⟨bb, off, none⟩ ∧ W.cell? ⟨bb, off + e, none⟩ = some (.int .u8 (ub (m.bytes.getD e 0#8))) := by
        rcases HBI.out with ⟨h0, -⟩ | ⟨b0, o0, c0, h1, -, -, h2⟩
        · rw [h0] at HNQ; have := HNQ.out; simp at this; omega
        · simp only [Value.slice.injEq] at h1
          exact ⟨b0, o0, h1.1, h2 e (by have := HNQ.out; omega)⟩
      rw [HA] at c6
      have HNB : Hid (bb < W.heap.size) := Lib.hid (World.block_lt_of_cell? _ _ HCE)
      have HBB : Hid (bb < W9.heap.size) := Lib.hid (by have := HNB.out; have := HGS.out; omega)
      have hy : (m.bytes.drop a).take (e + 1 - a) = (m.bytes.drop a).take (e - a) ++ [m.bytes.getD e 0#8] := by
        rw [show e + 1 - a = (e - a) + 1 from by omega, take_one _ _ (by rw [List.length_drop, HNQ.out]; omega)]
        congr 2
        simp [List.getD, show a + (e - a) = e from by omega]
      generalize m.bytes.getD e 0#8 = y at *
      have HYT := Lib.hid hy
      have ce := HL.out.ok.cell HCE
      have HLN : Hid (((m.bytes.drop a).take (e - a)).length ≤ 1000000) := Lib.hid (by rw [List.length_take, List.length_drop]; have := HLE.out; omega)
      have HMS : Hid (E - (e + 1) < E - e) := Lib.hid (by omega)
      have he0 : (0 : Int) ≤ (e : Int) := Int.natCast_nonneg _
      have he1 : (e : Int) < (q.n : Int) := by omega
      have hee : e ≤ 200000 := by omega
      have HHA := Lib.hid HA
      clear hy HCE HA HNQ
      go_upto_region 11 with fail
      clear dn d2 hw6 c17
      refine Until.begin (S := fun V => V.cell? ⟨g3, 19, none⟩ = some (.slice A k c) ∧ V.cell? ⟨g + 1, 6, none⟩ = some (.slice (some ⟨bb, off, none⟩) q.n q.c) ∧ V.cell? ⟨bb, off + e, none⟩ = some (.int .u8 (ub y))) (j := 9) (by kernel_rfl) ?_ ?_
      · exact ⟨(Ok.refl wr).drew.cell c19, (Ok.refl wr).drew.cell c6, (Ok.refl wr).drew.cell ce⟩
      intro hS
      have HD : Hid (Ok wr wr.drew) := Lib.hid ((Ok.refl wr).drew)
      generalize wr.drew = V0 at *
      refine Until.take0 (i := 0) (v := ?v0) rfl (by kernel_rfl) (by kernel_rfl) (by kernel_rfl) (by kernel_rfl) (fun _ _ _ h => h) (Or.inl ⟨by rfl, ?hy0⟩) (fun _ => hS) ?rest0
      case hy0 => ((intro w hSw); clear hSw; go_simp; (try with_reducible rfl))
      try go_frame
      refine Until.take (i := 1) (v := ?v1) rfl (by kernel_rfl) (by kernel_rfl) (by kernel_rfl) (by kernel_rfl) (fun _ _ _ h => h) (Or.inl ⟨by rfl, ?hy1⟩) hS ?rest1
      case hy1 => ((intro w hSw; (try dsimp only at hSw)); obtain ⟨s0, s1, s2⟩ := hSw; go_simp; (try with_reducible rfl))
      try go_frame
      refine Until.take0 (i := 2) (v := ?v2) rfl (by kernel_rfl) (by kernel_rfl) (by kernel_rfl) (by kernel_rfl) (fun _ _ _ h => h) (Or.inl ⟨by rfl, ?hy2⟩) (fun _ => hS) ?rest2
      case hy2 => ((intro w hSw); clear hSw; go_simp; (try with_reducible rfl))
      try go_frame
      refine Until.take (i := 3) (v := ?v3) rfl (by kernel_rfl) (by kernel_rfl) (by kernel_rfl) (by kernel_rfl) (fun _ _ _ h => h) (Or.inl ⟨by rfl, ?hy3⟩) hS ?rest3
      case hy3 => ((intro w hSw; (try dsimp only at hSw)); obtain ⟨s0, s1, s2⟩ := hSw; go_simp; (try with_reducible rfl))
      try go_frame
      refine Until.take0 (i := 4) (v := ?v4) rfl (by kernel_rfl) (by kernel_rfl) (by kernel_rfl) (by kernel_rfl) (fun _ _ _ h => h) (Or.inl ⟨by rfl, ?hy4⟩) (fun _ => hS) ?rest4
      case hy4 => ((intro w hSw); clear hSw; go_simp; (try with_reducible rfl))
      try go_frame
      refine Until.take0 (i := 5) (v := ?v5) rfl (by kernel_rfl) (by kernel_rfl) (by kernel_rfl) (by kernel_rfl) (fun _ _ _ h => h) (Or.inl ⟨by rfl, ?hy5⟩) (fun _ => hS) ?rest5
      case hy5 => ((intro w hSw); clear hSw; go_simp; (try with_reducible rfl))
      try go_frame
      refine Until.take (i := 6) (v := ?v6) rfl (by kernel_rfl) (by kernel_rfl) (by kernel_rfl) (by kernel_rfl) (fun _ _ _ h => h) (Or.inl ⟨by rfl, ?hy6⟩) hS ?rest6
      case hy6 => ((intro w hSw; (try dsimp only at hSw)); obtain ⟨s0, s1, s2⟩ := hSw; go_simp; (try with_reducible rfl))
      try go_frame
      refine Until.one (i := 7) (by kernel_rfl) rfl (fun K hK => ?_)
      have HK := Lib.hid hK
      clear hK
      go_simp
      have HCN1 : Hid ((V0.alloc (.cells #[.int .u8 (ub y)] 5)).cell? ⟨V0.heap.size, 0, none⟩ = some (.int .u8 (ub y))) := Lib.hid ((cell_of_heap (heap_alloc_new V0 _) 0).trans rfl)
      have HK1 : Hid (Ok wr (V0.alloc (.cells #[.int .u8 (ub y)] 5))) := Lib.hid (HD.out.alloc _)
      have hS1 := (⟨((Ok.refl V0).alloc (.cells #[.int .u8 (ub y)] 5)).cell hS.1, ((Ok.refl V0).alloc (.cells #[.int .u8 (ub y)] 5)).cell hS.2.1, ((Ok.refl V0).alloc (.cells #[.int .u8 (ub y)] 5)).cell hS.2.2⟩ : _ ∧ _ ∧ _)
      have HVS : Hid (V0.heap.size ≤ (V0.alloc (.cells #[.int .u8 (ub y)] 5)).heap.size) := Lib.hid ((Ok.refl V0).alloc _).size
      generalize V0.alloc (.cells #[.int .u8 (ub y)] 5) = V1 at *
      refine HK.out.out _ _ (fun _ => hS1) (fun _ => ?_)
      clear hS
      have hS := hS1
      clear HK K
      try go_frame
      refine Until.one (i := 8) (by kernel_rfl) rfl (fun K hK => ?_)
      have HK := Lib.hid hK
      clear hK
      refine step_appB1 (by rfl) _ _ (by rfl) W9.heap.size (.slice A k c) ((m.bytes.drop a).take (e - a)) y V0.heap.size 1 (by rfl) (by rfl) (HL.out.own.okk HK1.out) HCN1.out HLN.out (Nat.le_trans HL.out.sz HK1.out.size) ?_
      intro A5 N5 c5 V3 ho5 hN5 hb5
      have HO5 := Lib.hid ho5
      have HB5 := Lib.hid hb5
      have HN5 := Lib.hid hN5
      have hS2 := (⟨bcell hb5 HGS.out.1 hS.1, bcell hb5 (by have := HGS.out; omega) hS.2.1, bcell hb5 HBB.out hS.2.2⟩ : _ ∧ _ ∧ _)
      clear ho5 hN5 hb5
      refine HK.out.out _ _ (fun _ => hS2) (fun _ => ?_)
      clear hS
      have hS := hS2
      clear HK K
      try go_frame
      have f19 : V3.frozen? ⟨g3, 19, none⟩ = false := by rw [World.frozen?_of_block (HB5.out.block _ HGS.out.1), Below.frozen HK1.out (p := ⟨g3, 19, none⟩) (World.block_lt_of_cell? _ _ c19)]; exact HL.out.fz 19
      refine Until.one (i := 9) (by kernel_rfl) rfl (fun K hK => ?_)
      have HK := Lib.hid hK
      clear hK
      go_simp
      refine HK.out.out _ _ (fun h => absurd (h.symm.trans (by kernel_rfl : _ = true)) Bool.false_ne_true) (fun _ => ?_)
      clear HK K
      try go_frame
      refine Until.one (i := 10) (by kernel_rfl) rfl (fun K hK => ?_)
      have HK := Lib.hid hK
      clear hK
      go_simp
      refine HK.out.out _ _ (fun h => absurd (h.symm.trans (by kernel_rfl : _ = true)) Bool.false_ne_true) (fun _ => ?_)
      clear HK K
      try go_frame
      refine Until.done (by kernel_rfl) ?_ _
      go_wp2_with fail
      exact ⟨⟨e + 1, A5, N5, c5, by omega, hlt, by go_num, FL.step HL.out (Below.trans (Below.mono HK1.out HL.out.sz) HB5.out) (by rw [HYT.out]; exact HO5.out) HGS.out⟩, by simp [intOf]; omega⟩
    · obtain rfl : E = e := by omega
      have HYI : Hid ((Try.prog.info? 95).map (·.size) = some (LY x m a q.n s' A k c).length) := Lib.hid info95
      have HYO : Hid ((LY x m a q.n s' A k c).toArray.all (·.oneCell') = true) := Lib.hid (by simp [LY, Value.oneCell'])
      have HTK : Hid ((m.bytes.drop a).take (E - a) = (m.bytes.drop a).take 600) := Lib.hid (by
        rw [List.take_eq_take_iff, List.length_drop, HNQ.out]; have := HEN.out; omega)
      have HVAL : Hid (Value.agg (LY x m a q.n s' A k c).toArray = (LR.mk none 0 s' A k c).val (fillL x m a)) := Lib.hid (by
        unfold LR.val fillL LY LR.cells
        rw [HNQ.out]
        rfl)
      have HYR := Lib.hid HL.out.y
      have HLN20 : Hid (20 = (LY x m a q.n s' A k c).length) := Lib.hid rfl
      have HTHR := Lib.hid HL.out.th
      have hee : E ≤ 200000 := by have := HEN.out; omega
      generalize LY x m a q.n s' A k c = ly at *
      have HTH3 : Hid (wr.there (g + 2) 0 ly.length) := Lib.hid (by rw [← HLN20.out]; exact HTHR.out)
      have HTH2 : Hid (wr.there (g + 2) 0 ly.toArray.size) := Lib.hid (by rw [List.size_toArray]; exact HTH3.out)
      by_cases hq : E < q.n
      · have dn : decide (E < q.n) = true := decide_eq_true hq
        have d2 : decide ((E : Int) < (a : Int) + 600) = false := decide_eq_false (by have := HEN.out; omega)
        have hw6 : IntKind.i64.wrap ((a : Int) + 600) = (a : Int) + 600 := by simp only [IntKind.wrap_i64]; omega
        go_upto_region 12 with fail
        clear c6 c17 c19
        go_wp2_with (first | (refine wpList_load_mid rfl 95 (.tmp 6) rfl g3 0 rfl ly _ HYR.out Try.underlying95 rfl HYI.out ?_) | (refine wpList_store_mid rfl 95 (.tmp 4) (.tmp 81) rfl (g + 2) 0 ly.toArray rfl rfl HTH2.out HYI.out HYO.out ?_; have HR9 := Lib.hid (World.rangeAt_setCells_same wr (g + 2) 0 ly HTH3.out); have HOZ := Lib.hid (setCells_ok (g + 2) W HG2.out ly 0 wr HL.out.ok); have HCZ := Lib.hid ((HC9.out.hi HL.out.hi).hi (setCells_hi (g + 2) w3.heap.size (by have := HGS.out; omega) ly 0 wr)); have HNZ := Lib.hid (HL.out.own.hi (setCells_hi (g + 2) W9.heap.size (by have := HGS.out; omega) ly 0 wr)); generalize World.setCells wr _ _ _ = w9 at *))
        refine bodyPost_ret (v := .tuple #[.agg ly.toArray, .bool true]) ?_ rfl ?_
        · rw [results_cell_tmp Try.results68]
          show ((loadVar 95 ⟨g + 2, 0, none⟩).run Try.prog w9).andThen (fun v w₂ => Result.ok (Value.tuple #[v, Value.bool true]) w₂) = _
          rw [run_loadVar_mid _ _ _ 95 _ _ HR9.out Try.underlying95 rfl HYI.out]
          rfl
        · rw [HVAL.out]
          exact ⟨s', A, k, c, rfl, HCZ.out.mono (by have := HGS.out; omega), HTK.out ▸ HNZ.out.mono' (by have := HGS.out; omega), HOZ.out⟩
      · have dn : decide (E < q.n) = false := decide_eq_false hq
        go_upto_region 12 with fail
        clear c6 c17 c19
        go_wp2_with (first | (refine wpList_load_mid rfl 95 (.tmp 6) rfl g3 0 rfl ly _ HYR.out Try.underlying95 rfl HYI.out ?_) | (refine wpList_store_mid rfl 95 (.tmp 4) (.tmp 81) rfl (g + 2) 0 ly.toArray rfl rfl HTH2.out HYI.out HYO.out ?_; have HR9 := Lib.hid (World.rangeAt_setCells_same wr (g + 2) 0 ly HTH3.out); have HOZ := Lib.hid (setCells_ok (g + 2) W HG2.out ly 0 wr HL.out.ok); have HCZ := Lib.hid ((HC9.out.hi HL.out.hi).hi (setCells_hi (g + 2) w3.heap.size (by have := HGS.out; omega) ly 0 wr)); have HNZ := Lib.hid (HL.out.own.hi (setCells_hi (g + 2) W9.heap.size (by have := HGS.out; omega) ly 0 wr)); generalize World.setCells wr _ _ _ = w9 at *))
        refine bodyPost_ret (v := .tuple #[.agg ly.toArray, .bool true]) ?_ rfl ?_
        · rw [results_cell_tmp Try.results68]
          show ((loadVar 95 ⟨g + 2, 0, none⟩).run Try.prog w9).andThen (fun v w₂ => Result.ok (Value.tuple #[v, Value.bool true]) w₂) = _
          rw [run_loadVar_mid _ _ _ 95 _ _ HR9.out Try.underlying95 rfl HYI.out]
          rfl
        · rw [HVAL.out]
          exact ⟨s', A, k, c, rfl, HCZ.out.mono (by have := HGS.out; omega), HTK.out ▸ HNZ.out.mono' (by have := HGS.out; omega), HOZ.out⟩
end Go.Proofs.Ytolfdncmlfnbdaa
