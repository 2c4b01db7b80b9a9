/- Bases, images, letters: the same; kept as they were lent. -/
import Derived.Test.YtolfdncmlfnbdaaIf
namespace Go.Proofs.Ytolfdncmlfnbdaa
open Go.RowKit

theorem keptBytes_w (w : World) (B : Nat) (E : Option Addr) (n k : Nat) (zs : List B8) (h : LentB w B E n k zs) (A : Option Addr) (m c : Nat) (h2 : BytesIn w (.slice A m c) zs) : Calls Try.prog 90 #[.slice E n k, .slice A m c] w (Ret w (.bool true)) := by
  obtain ⟨g, rfl, h3, h4, h5, h6, h7⟩ := h
  have hm : m = n := by
    obtain ⟨_, _, e, _⟩ := h2.form
    simp only [Value.slice.injEq] at e
    omega
  subst hm
  exact keptB_w g k A m c B zs h3 h4 w h5 h7 h2
theorem keptCfg_w (w : World) (B : Nat) (s q : S4) (c : Cfg) (h : LentS w B s c) (h2 : CfgIn w q.v c) : Calls Try.prog 59 #[s.v, q.v] w (Ret w (.bool true)) := keptConfig_w s.v q.v c B w h.lent h2

set_option maxRecDepth 100000 in
set_option maxHeartbeats 8000000 in
theorem sameBase_w (bi bt : Int) (s q : S4) (c : Cfg) (W : World) (h : CfgIn W s.v c) (h2 : CfgIn W q.v c) : Calls Try.prog 129 #[baseV bi bt s, baseV bi bt q] W (Ret W (.bool true)) := by
  have H1 := Lib.hid h
  have H2 := Lib.hid h2
  clear h h2
  unfold baseV
  have HX := Lib.hid (blk2 W (.cells #[.int .i64 bi, .int .i64 bt, .slice s.A0 s.n0 s.c0, .slice s.A1 s.n1 s.c1, .slice s.A2 s.n2 s.c2, .slice s.A3 s.n3 s.c3] 93) (.cells #[.int .i64 bi, .int .i64 bt, .slice q.A0 q.n0 q.c0, .slice q.A1 q.n1 q.c1, .slice q.A2 q.n2 q.c2, .slice q.A3 q.n3 q.c3] 93))
  have HO0 : Hid (Ok W ((W.alloc (.cells #[.int .i64 bi, .int .i64 bt, .slice s.A0 s.n0 s.c0, .slice s.A1 s.n1 s.c1, .slice s.A2 s.n2 s.c2, .slice s.A3 s.n3 s.c3] 93)).alloc (.cells #[.int .i64 bi, .int .i64 bt, .slice q.A0 q.n0 q.c0, .slice q.A1 q.n1 q.c1, .slice q.A2 q.n2 q.c2, .slice q.A3 q.n3 q.c3] 93))) := Lib.hid (((Ok.refl W).alloc _).alloc _)
  go_enter Try.func129, Try.ntmps129
  go_wp2_with fail
  generalize ((W.alloc (.cells #[.int .i64 bi, .int .i64 bt, .slice s.A0 s.n0 s.c0, .slice s.A1 s.n1 s.c1, .slice s.A2 s.n2 s.c2, .slice s.A3 s.n3 s.c3] 93)).alloc (.cells #[.int .i64 bi, .int .i64 bt, .slice q.A0 q.n0 q.c0, .slice q.A1 q.n1 q.c1, .slice q.A2 q.n2 q.c2, .slice q.A3 q.n3 q.c3] 93)) = w0 at *
  obtain ⟨g, hg⟩ : ∃ g, W.heap.size = g := ⟨_, rfl⟩
  rw [hg] at HX ⊢
  clear hg
  refine (sameCfg s.v q.v c w0 (HO0.out.cfg H1.out) (HO0.out.cfg H2.out)).mono ?_
  rintro _ w1 ⟨rfl, ok⟩
  have HO1 := Lib.hid (HO0.out.trans ok)
  have HX1 := Lib.hid (And.intro (blk_ok ok HX.out.1) (blk_ok ok HX.out.2))
  clear ok HO0 HX
  clear HX1
  go_wp2_with fail
  go_ret
  exact ⟨rfl, HO1.out⟩

set_option maxRecDepth 100000 in
set_option maxHeartbeats 8000000 in
theorem sameImage_w (r q : IR) (x : Im) (W : World) (h : ImAt W r x) (h2 : ImAt W q x) : Calls Try.prog 79 #[r.val x, q.val x] W (Ret W (.bool true)) := by
  have H1 := Lib.hid h
  have H2 := Lib.hid h2
  clear h h2
  unfold IR.val
  have HX := Lib.hid (blk2 W (.cells #[.int .i64 x.bi, .int .i64 x.bt, .slice r.s.A0 r.s.n0 r.s.c0, .slice r.s.A1 r.s.n1 r.s.c1, .slice r.s.A2 r.s.n2 r.s.c2, .slice r.s.A3 r.s.n3 r.s.c3, .slice r.A r.n r.c] 97) (.cells #[.int .i64 x.bi, .int .i64 x.bt, .slice q.s.A0 q.s.n0 q.s.c0, .slice q.s.A1 q.s.n1 q.s.c1, .slice q.s.A2 q.s.n2 q.s.c2, .slice q.s.A3 q.s.n3 q.s.c3, .slice q.A q.n q.c] 97))
  have HO0 : Hid (Ok W ((W.alloc (.cells #[.int .i64 x.bi, .int .i64 x.bt, .slice r.s.A0 r.s.n0 r.s.c0, .slice r.s.A1 r.s.n1 r.s.c1, .slice r.s.A2 r.s.n2 r.s.c2, .slice r.s.A3 r.s.n3 r.s.c3, .slice r.A r.n r.c] 97)).alloc (.cells #[.int .i64 x.bi, .int .i64 x.bt, .slice q.s.A0 q.s.n0 q.s.c0, .slice q.s.A1 q.s.n1 q.s.c1, .slice q.s.A2 q.s.n2 q.s.c2, .slice q.s.A3 q.s.n3 q.s.c3, .slice q.A q.n q.c] 97))) := Lib.hid (((Ok.refl W).alloc _).alloc _)
  go_enter Try.func79, Try.ntmps79
  go_wp2_with fail
  generalize ((W.alloc (.cells #[.int .i64 x.bi, .int .i64 x.bt, .slice r.s.A0 r.s.n0 r.s.c0, .slice r.s.A1 r.s.n1 r.s.c1, .slice r.s.A2 r.s.n2 r.s.c2, .slice r.s.A3 r.s.n3 r.s.c3, .slice r.A r.n r.c] 97)).alloc (.cells #[.int .i64 x.bi, .int .i64 x.bt, .slice q.s.A0 q.s.n0 q.s.c0, .slice q.s.A1 q.s.n1 q.s.c1, .slice q.s.A2 q.s.n2 q.s.c2, .slice q.s.A3 q.s.n3 q.s.c3, .slice q.A q.n q.c] 97)) = w0 at *
  obtain ⟨g, hg⟩ : ∃ g, W.heap.size = g := ⟨_, rfl⟩
  rw [hg] at HX ⊢
  clear hg
  refine (sameBase_w x.bi x.bt r.s q.s x.cfg w0 (HO0.out.cfg H1.out.cfg) (HO0.out.cfg H2.out.cfg)).mono ?_
  rintro _ w1 ⟨rfl, ok⟩
  have HO1 := Lib.hid (HO0.out.trans ok)
  have HX1 := Lib.hid (And.intro (blk_ok ok HX.out.1) (blk_ok ok HX.out.2))
  clear ok HO0 HX
  have hx := HX1.out.1
  have hy := HX1.out.2
  have a0 : w1.cell? ⟨g, 0, none⟩ = some (.int .i64 x.bi) := (cell_of_heap hx 0).trans rfl
  have a1 : w1.cell? ⟨g, 1, none⟩ = some (.int .i64 x.bt) := (cell_of_heap hx 1).trans rfl
  have a2 : w1.cell? ⟨g, 2, none⟩ = some (.slice r.s.A0 r.s.n0 r.s.c0) := (cell_of_heap hx 2).trans rfl
  have a3 : w1.cell? ⟨g, 3, none⟩ = some (.slice r.s.A1 r.s.n1 r.s.c1) := (cell_of_heap hx 3).trans rfl
  have a4 : w1.cell? ⟨g, 4, none⟩ = some (.slice r.s.A2 r.s.n2 r.s.c2) := (cell_of_heap hx 4).trans rfl
  have a5 : w1.cell? ⟨g, 5, none⟩ = some (.slice r.s.A3 r.s.n3 r.s.c3) := (cell_of_heap hx 5).trans rfl
  have a6 : w1.cell? ⟨g, 6, none⟩ = some (.slice r.A r.n r.c) := (cell_of_heap hx 6).trans rfl
  have b0 : w1.cell? ⟨(g + 1), 0, none⟩ = some (.int .i64 x.bi) := (cell_of_heap hy 0).trans rfl
  have b1 : w1.cell? ⟨(g + 1), 1, none⟩ = some (.int .i64 x.bt) := (cell_of_heap hy 1).trans rfl
  have b2 : w1.cell? ⟨(g + 1), 2, none⟩ = some (.slice q.s.A0 q.s.n0 q.s.c0) := (cell_of_heap hy 2).trans rfl
  have b3 : w1.cell? ⟨(g + 1), 3, none⟩ = some (.slice q.s.A1 q.s.n1 q.s.c1) := (cell_of_heap hy 3).trans rfl
  have b4 : w1.cell? ⟨(g + 1), 4, none⟩ = some (.slice q.s.A2 q.s.n2 q.s.c2) := (cell_of_heap hy 4).trans rfl
  have b5 : w1.cell? ⟨(g + 1), 5, none⟩ = some (.slice q.s.A3 q.s.n3 q.s.c3) := (cell_of_heap hy 5).trans rfl
  have b6 : w1.cell? ⟨(g + 1), 6, none⟩ = some (.slice q.A q.n q.c) := (cell_of_heap hy 6).trans rfl
  clear hx hy
  go_wp2_with fail
  clear a0 a1 a2 a3 a4 a5 a6 b0 b1 b2 b3 b4 b5 b6
  refine (sameBytes_v _ _ x.bytes w1 (HO1.out.bytes H1.out.bytes) (HO1.out.bytes H2.out.bytes)).mono ?_
  rintro _ w2 ⟨rfl, ok⟩
  have HO2 := Lib.hid (HO1.out.trans ok)
  have HX2 := Lib.hid (And.intro (blk_ok ok HX1.out.1) (blk_ok ok HX1.out.2))
  clear ok HO1 HX1
  clear HX2
  go_wp2_with fail
  go_ret
  exact ⟨rfl, HO2.out⟩

set_option maxRecDepth 100000 in
set_option maxHeartbeats 8000000 in
theorem keptEntry_w (B : Nat) (r q : ER) (e : En) (W : World) (h : EnL W B r e) (h2 : EnAt W q e) : Calls Try.prog 173 #[r.val e, q.val e] W (Ret W (.bool true)) := by
  have H1 := Lib.hid h
  have H2 := Lib.hid h2
  clear h h2
  unfold ER.val ER.cells
  have HX := Lib.hid (blk2 W (.cells #[.int .i64 e.term, .int .u8 e.kind, .slice r.A r.n r.c, .slice r.s.A0 r.s.n0 r.s.c0, .slice r.s.A1 r.s.n1 r.s.c1, .slice r.s.A2 r.s.n2 r.s.c2, .slice r.s.A3 r.s.n3 r.s.c3] 208) (.cells #[.int .i64 e.term, .int .u8 e.kind, .slice q.A q.n q.c, .slice q.s.A0 q.s.n0 q.s.c0, .slice q.s.A1 q.s.n1 q.s.c1, .slice q.s.A2 q.s.n2 q.s.c2, .slice q.s.A3 q.s.n3 q.s.c3] 208))
  have HO0 : Hid (Ok W ((W.alloc (.cells #[.int .i64 e.term, .int .u8 e.kind, .slice r.A r.n r.c, .slice r.s.A0 r.s.n0 r.s.c0, .slice r.s.A1 r.s.n1 r.s.c1, .slice r.s.A2 r.s.n2 r.s.c2, .slice r.s.A3 r.s.n3 r.s.c3] 208)).alloc (.cells #[.int .i64 e.term, .int .u8 e.kind, .slice q.A q.n q.c, .slice q.s.A0 q.s.n0 q.s.c0, .slice q.s.A1 q.s.n1 q.s.c1, .slice q.s.A2 q.s.n2 q.s.c2, .slice q.s.A3 q.s.n3 q.s.c3] 208))) := Lib.hid (((Ok.refl W).alloc _).alloc _)
  go_enter Try.func173, Try.ntmps173
  go_wp2_with fail
  generalize ((W.alloc (.cells #[.int .i64 e.term, .int .u8 e.kind, .slice r.A r.n r.c, .slice r.s.A0 r.s.n0 r.s.c0, .slice r.s.A1 r.s.n1 r.s.c1, .slice r.s.A2 r.s.n2 r.s.c2, .slice r.s.A3 r.s.n3 r.s.c3] 208)).alloc (.cells #[.int .i64 e.term, .int .u8 e.kind, .slice q.A q.n q.c, .slice q.s.A0 q.s.n0 q.s.c0, .slice q.s.A1 q.s.n1 q.s.c1, .slice q.s.A2 q.s.n2 q.s.c2, .slice q.s.A3 q.s.n3 q.s.c3] 208)) = w0 at *
  obtain ⟨g, hg⟩ : ∃ g, W.heap.size = g := ⟨_, rfl⟩
  rw [hg] at HX ⊢
  clear hg
  refine (sameEntry_w r q e w0 (H1.out.at.ok HO0.out) (H2.out.ok HO0.out)).mono ?_
  rintro _ w1 ⟨rfl, ok⟩
  have HO1 := Lib.hid (HO0.out.trans ok)
  have HX1 := Lib.hid (And.intro (blk_ok ok HX.out.1) (blk_ok ok HX.out.2))
  clear ok HO0 HX
  have hx := HX1.out.1
  have hy := HX1.out.2
  have a0 : w1.cell? ⟨g, 0, none⟩ = some (.int .i64 e.term) := (cell_of_heap hx 0).trans rfl
  have a1 : w1.cell? ⟨g, 1, none⟩ = some (.int .u8 e.kind) := (cell_of_heap hx 1).trans rfl
  have a2 : w1.cell? ⟨g, 2, none⟩ = some (.slice r.A r.n r.c) := (cell_of_heap hx 2).trans rfl
  have a3 : w1.cell? ⟨g, 3, none⟩ = some (.slice r.s.A0 r.s.n0 r.s.c0) := (cell_of_heap hx 3).trans rfl
  have a4 : w1.cell? ⟨g, 4, none⟩ = some (.slice r.s.A1 r.s.n1 r.s.c1) := (cell_of_heap hx 4).trans rfl
  have a5 : w1.cell? ⟨g, 5, none⟩ = some (.slice r.s.A2 r.s.n2 r.s.c2) := (cell_of_heap hx 5).trans rfl
  have a6 : w1.cell? ⟨g, 6, none⟩ = some (.slice r.s.A3 r.s.n3 r.s.c3) := (cell_of_heap hx 6).trans rfl
  have b0 : w1.cell? ⟨(g + 1), 0, none⟩ = some (.int .i64 e.term) := (cell_of_heap hy 0).trans rfl
  have b1 : w1.cell? ⟨(g + 1), 1, none⟩ = some (.int .u8 e.kind) := (cell_of_heap hy 1).trans rfl
  have b2 : w1.cell? ⟨(g + 1), 2, none⟩ = some (.slice q.A q.n q.c) := (cell_of_heap hy 2).trans rfl
  have b3 : w1.cell? ⟨(g + 1), 3, none⟩ = some (.slice q.s.A0 q.s.n0 q.s.c0) := (cell_of_heap hy 3).trans rfl
  have b4 : w1.cell? ⟨(g + 1), 4, none⟩ = some (.slice q.s.A1 q.s.n1 q.s.c1) := (cell_of_heap hy 4).trans rfl
  have b5 : w1.cell? ⟨(g + 1), 5, none⟩ = some (.slice q.s.A2 q.s.n2 q.s.c2) := (cell_of_heap hy 5).trans rfl
  have b6 : w1.cell? ⟨(g + 1), 6, none⟩ = some (.slice q.s.A3 q.s.n3 q.s.c3) := (cell_of_heap hy 6).trans rfl
  clear hx hy
  go_wp2_with fail
  clear a0 a1 a2 a3 a4 a5 a6 b0 b1 b2 b3 b4 b5 b6
  refine (keptBytes_w w1 B r.A r.n r.c e.cmd (H1.out.cmd.hi (Hi.ok HO1.out)) q.A q.n q.c (HO1.out.bytes H2.out.cmd)).mono ?_
  rintro _ w2 ⟨rfl, ok⟩
  have HO2 := Lib.hid (HO1.out.trans ok)
  have HX2 := Lib.hid (And.intro (blk_ok ok HX1.out.1) (blk_ok ok HX1.out.2))
  clear ok HO1 HX1
  have hx := HX2.out.1
  have hy := HX2.out.2
  have a0 : w2.cell? ⟨g, 0, none⟩ = some (.int .i64 e.term) := (cell_of_heap hx 0).trans rfl
  have a1 : w2.cell? ⟨g, 1, none⟩ = some (.int .u8 e.kind) := (cell_of_heap hx 1).trans rfl
  have a2 : w2.cell? ⟨g, 2, none⟩ = some (.slice r.A r.n r.c) := (cell_of_heap hx 2).trans rfl
  have a3 : w2.cell? ⟨g, 3, none⟩ = some (.slice r.s.A0 r.s.n0 r.s.c0) := (cell_of_heap hx 3).trans rfl
  have a4 : w2.cell? ⟨g, 4, none⟩ = some (.slice r.s.A1 r.s.n1 r.s.c1) := (cell_of_heap hx 4).trans rfl
  have a5 : w2.cell? ⟨g, 5, none⟩ = some (.slice r.s.A2 r.s.n2 r.s.c2) := (cell_of_heap hx 5).trans rfl
  have a6 : w2.cell? ⟨g, 6, none⟩ = some (.slice r.s.A3 r.s.n3 r.s.c3) := (cell_of_heap hx 6).trans rfl
  have b0 : w2.cell? ⟨(g + 1), 0, none⟩ = some (.int .i64 e.term) := (cell_of_heap hy 0).trans rfl
  have b1 : w2.cell? ⟨(g + 1), 1, none⟩ = some (.int .u8 e.kind) := (cell_of_heap hy 1).trans rfl
  have b2 : w2.cell? ⟨(g + 1), 2, none⟩ = some (.slice q.A q.n q.c) := (cell_of_heap hy 2).trans rfl
  have b3 : w2.cell? ⟨(g + 1), 3, none⟩ = some (.slice q.s.A0 q.s.n0 q.s.c0) := (cell_of_heap hy 3).trans rfl
  have b4 : w2.cell? ⟨(g + 1), 4, none⟩ = some (.slice q.s.A1 q.s.n1 q.s.c1) := (cell_of_heap hy 4).trans rfl
  have b5 : w2.cell? ⟨(g + 1), 5, none⟩ = some (.slice q.s.A2 q.s.n2 q.s.c2) := (cell_of_heap hy 5).trans rfl
  have b6 : w2.cell? ⟨(g + 1), 6, none⟩ = some (.slice q.s.A3 q.s.n3 q.s.c3) := (cell_of_heap hy 6).trans rfl
  clear hx hy
  go_wp2_with fail
  clear a0 a1 a2 a3 a4 a5 a6 b0 b1 b2 b3 b4 b5 b6
  refine (keptCfg_w w2 B r.s q.s e.cfg (H1.out.cfg.hi (Hi.ok HO2.out)) (HO2.out.cfg H2.out.cfg)).mono ?_
  rintro _ w3 ⟨rfl, ok⟩
  have HO3 := Lib.hid (HO2.out.trans ok)
  have HX3 := Lib.hid (And.intro (blk_ok ok HX2.out.1) (blk_ok ok HX2.out.2))
  clear ok HO2 HX2
  clear HX3
  go_wp2_with fail
  go_ret
  exact ⟨rfl, HO3.out⟩

set_option maxRecDepth 100000 in
set_option maxHeartbeats 8000000 in
theorem keptBase_w (B : Nat) (bi bt : Int) (s q : S4) (c : Cfg) (W : World) (h : LentS W B s c) (h2 : CfgIn W q.v c) : Calls Try.prog 133 #[baseV bi bt s, baseV bi bt q] W (Ret W (.bool true)) := by
  have H1 := Lib.hid h
  have H2 := Lib.hid h2
  clear h h2
  unfold baseV
  have HX := Lib.hid (blk2 W (.cells #[.int .i64 bi, .int .i64 bt, .slice s.A0 s.n0 s.c0, .slice s.A1 s.n1 s.c1, .slice s.A2 s.n2 s.c2, .slice s.A3 s.n3 s.c3] 93) (.cells #[.int .i64 bi, .int .i64 bt, .slice q.A0 q.n0 q.c0, .slice q.A1 q.n1 q.c1, .slice q.A2 q.n2 q.c2, .slice q.A3 q.n3 q.c3] 93))
  have HO0 : Hid (Ok W ((W.alloc (.cells #[.int .i64 bi, .int .i64 bt, .slice s.A0 s.n0 s.c0, .slice s.A1 s.n1 s.c1, .slice s.A2 s.n2 s.c2, .slice s.A3 s.n3 s.c3] 93)).alloc (.cells #[.int .i64 bi, .int .i64 bt, .slice q.A0 q.n0 q.c0, .slice q.A1 q.n1 q.c1, .slice q.A2 q.n2 q.c2, .slice q.A3 q.n3 q.c3] 93))) := Lib.hid (((Ok.refl W).alloc _).alloc _)
  go_enter Try.func133, Try.ntmps133
  go_wp2_with fail
  generalize ((W.alloc (.cells #[.int .i64 bi, .int .i64 bt, .slice s.A0 s.n0 s.c0, .slice s.A1 s.n1 s.c1, .slice s.A2 s.n2 s.c2, .slice s.A3 s.n3 s.c3] 93)).alloc (.cells #[.int .i64 bi, .int .i64 bt, .slice q.A0 q.n0 q.c0, .slice q.A1 q.n1 q.c1, .slice q.A2 q.n2 q.c2, .slice q.A3 q.n3 q.c3] 93)) = w0 at *
  obtain ⟨g, hg⟩ : ∃ g, W.heap.size = g := ⟨_, rfl⟩
  rw [hg] at HX ⊢
  clear hg
  refine (sameBase_w bi bt s q c w0 (HO0.out.cfg H1.out.cfg) (HO0.out.cfg H2.out)).mono ?_
  rintro _ w1 ⟨rfl, ok⟩
  have HO1 := Lib.hid (HO0.out.trans ok)
  have HX1 := Lib.hid (And.intro (blk_ok ok HX.out.1) (blk_ok ok HX.out.2))
  clear ok HO0 HX
  have hx := HX1.out.1
  have hy := HX1.out.2
  have a0 : w1.cell? ⟨g, 0, none⟩ = some (.int .i64 bi) := (cell_of_heap hx 0).trans rfl
  have a1 : w1.cell? ⟨g, 1, none⟩ = some (.int .i64 bt) := (cell_of_heap hx 1).trans rfl
  have a2 : w1.cell? ⟨g, 2, none⟩ = some (.slice s.A0 s.n0 s.c0) := (cell_of_heap hx 2).trans rfl
  have a3 : w1.cell? ⟨g, 3, none⟩ = some (.slice s.A1 s.n1 s.c1) := (cell_of_heap hx 3).trans rfl
  have a4 : w1.cell? ⟨g, 4, none⟩ = some (.slice s.A2 s.n2 s.c2) := (cell_of_heap hx 4).trans rfl
  have a5 : w1.cell? ⟨g, 5, none⟩ = some (.slice s.A3 s.n3 s.c3) := (cell_of_heap hx 5).trans rfl
  have b0 : w1.cell? ⟨(g + 1), 0, none⟩ = some (.int .i64 bi) := (cell_of_heap hy 0).trans rfl
  have b1 : w1.cell? ⟨(g + 1), 1, none⟩ = some (.int .i64 bt) := (cell_of_heap hy 1).trans rfl
  have b2 : w1.cell? ⟨(g + 1), 2, none⟩ = some (.slice q.A0 q.n0 q.c0) := (cell_of_heap hy 2).trans rfl
  have b3 : w1.cell? ⟨(g + 1), 3, none⟩ = some (.slice q.A1 q.n1 q.c1) := (cell_of_heap hy 3).trans rfl
  have b4 : w1.cell? ⟨(g + 1), 4, none⟩ = some (.slice q.A2 q.n2 q.c2) := (cell_of_heap hy 4).trans rfl
  have b5 : w1.cell? ⟨(g + 1), 5, none⟩ = some (.slice q.A3 q.n3 q.c3) := (cell_of_heap hy 5).trans rfl
  clear hx hy
  go_wp2_with fail
  clear a0 a1 a2 a3 a4 a5 b0 b1 b2 b3 b4 b5
  refine (keptCfg_w w1 B s q c (H1.out.hi (Hi.ok HO1.out)) (HO1.out.cfg H2.out)).mono ?_
  rintro _ w2 ⟨rfl, ok⟩
  have HO2 := Lib.hid (HO1.out.trans ok)
  have HX2 := Lib.hid (And.intro (blk_ok ok HX1.out.1) (blk_ok ok HX1.out.2))
  clear ok HO1 HX1
  clear HX2
  go_wp2_with fail
  go_ret
  exact ⟨rfl, HO2.out⟩

set_option maxRecDepth 100000 in
set_option maxHeartbeats 8000000 in
theorem keptImage_w (B : Nat) (r q : IR) (x : Im) (W : World) (h : ImL W B r x) (h2 : ImAt W q x) : Calls Try.prog 72 #[r.val x, q.val x] W (Ret W (.bool true)) := by
  have H1 := Lib.hid h
  have H2 := Lib.hid h2
  clear h h2
  unfold IR.val
  have HX := Lib.hid (blk2 W (.cells #[.int .i64 x.bi, .int .i64 x.bt, .slice r.s.A0 r.s.n0 r.s.c0, .slice r.s.A1 r.s.n1 r.s.c1, .slice r.s.A2 r.s.n2 r.s.c2, .slice r.s.A3 r.s.n3 r.s.c3, .slice r.A r.n r.c] 97) (.cells #[.int .i64 x.bi, .int .i64 x.bt, .slice q.s.A0 q.s.n0 q.s.c0, .slice q.s.A1 q.s.n1 q.s.c1, .slice q.s.A2 q.s.n2 q.s.c2, .slice q.s.A3 q.s.n3 q.s.c3, .slice q.A q.n q.c] 97))
  have HO0 : Hid (Ok W ((W.alloc (.cells #[.int .i64 x.bi, .int .i64 x.bt, .slice r.s.A0 r.s.n0 r.s.c0, .slice r.s.A1 r.s.n1 r.s.c1, .slice r.s.A2 r.s.n2 r.s.c2, .slice r.s.A3 r.s.n3 r.s.c3, .slice r.A r.n r.c] 97)).alloc (.cells #[.int .i64 x.bi, .int .i64 x.bt, .slice q.s.A0 q.s.n0 q.s.c0, .slice q.s.A1 q.s.n1 q.s.c1, .slice q.s.A2 q.s.n2 q.s.c2, .slice q.s.A3 q.s.n3 q.s.c3, .slice q.A q.n q.c] 97))) := Lib.hid (((Ok.refl W).alloc _).alloc _)
  go_enter Try.func72, Try.ntmps72
  go_wp2_with fail
  generalize ((W.alloc (.cells #[.int .i64 x.bi, .int .i64 x.bt, .slice r.s.A0 r.s.n0 r.s.c0, .slice r.s.A1 r.s.n1 r.s.c1, .slice r.s.A2 r.s.n2 r.s.c2, .slice r.s.A3 r.s.n3 r.s.c3, .slice r.A r.n r.c] 97)).alloc (.cells #[.int .i64 x.bi, .int .i64 x.bt, .slice q.s.A0 q.s.n0 q.s.c0, .slice q.s.A1 q.s.n1 q.s.c1, .slice q.s.A2 q.s.n2 q.s.c2, .slice q.s.A3 q.s.n3 q.s.c3, .slice q.A q.n q.c] 97)) = w0 at *
  obtain ⟨g, hg⟩ : ∃ g, W.heap.size = g := ⟨_, rfl⟩
  rw [hg] at HX ⊢
  clear hg
  refine (sameImage_w r q x w0 ⟨HO0.out.cfg H1.out.cfg.cfg, HO0.out.bytes H1.out.bytes.bytes⟩ (H2.out.ok HO0.out)).mono ?_
  rintro _ w1 ⟨rfl, ok⟩
  have HO1 := Lib.hid (HO0.out.trans ok)
  have HX1 := Lib.hid (And.intro (blk_ok ok HX.out.1) (blk_ok ok HX.out.2))
  clear ok HO0 HX
  have hx := HX1.out.1
  have hy := HX1.out.2
  have a0 : w1.cell? ⟨g, 0, none⟩ = some (.int .i64 x.bi) := (cell_of_heap hx 0).trans rfl
  have a1 : w1.cell? ⟨g, 1, none⟩ = some (.int .i64 x.bt) := (cell_of_heap hx 1).trans rfl
  have a2 : w1.cell? ⟨g, 2, none⟩ = some (.slice r.s.A0 r.s.n0 r.s.c0) := (cell_of_heap hx 2).trans rfl
  have a3 : w1.cell? ⟨g, 3, none⟩ = some (.slice r.s.A1 r.s.n1 r.s.c1) := (cell_of_heap hx 3).trans rfl
  have a4 : w1.cell? ⟨g, 4, none⟩ = some (.slice r.s.A2 r.s.n2 r.s.c2) := (cell_of_heap hx 4).trans rfl
  have a5 : w1.cell? ⟨g, 5, none⟩ = some (.slice r.s.A3 r.s.n3 r.s.c3) := (cell_of_heap hx 5).trans rfl
  have a6 : w1.cell? ⟨g, 6, none⟩ = some (.slice r.A r.n r.c) := (cell_of_heap hx 6).trans rfl
  have b0 : w1.cell? ⟨(g + 1), 0, none⟩ = some (.int .i64 x.bi) := (cell_of_heap hy 0).trans rfl
  have b1 : w1.cell? ⟨(g + 1), 1, none⟩ = some (.int .i64 x.bt) := (cell_of_heap hy 1).trans rfl
  have b2 : w1.cell? ⟨(g + 1), 2, none⟩ = some (.slice q.s.A0 q.s.n0 q.s.c0) := (cell_of_heap hy 2).trans rfl
  have b3 : w1.cell? ⟨(g + 1), 3, none⟩ = some (.slice q.s.A1 q.s.n1 q.s.c1) := (cell_of_heap hy 3).trans rfl
  have b4 : w1.cell? ⟨(g + 1), 4, none⟩ = some (.slice q.s.A2 q.s.n2 q.s.c2) := (cell_of_heap hy 4).trans rfl
  have b5 : w1.cell? ⟨(g + 1), 5, none⟩ = some (.slice q.s.A3 q.s.n3 q.s.c3) := (cell_of_heap hy 5).trans rfl
  have b6 : w1.cell? ⟨(g + 1), 6, none⟩ = some (.slice q.A q.n q.c) := (cell_of_heap hy 6).trans rfl
  clear hx hy
  go_wp2_with fail
  clear a0 a1 a2 a3 a4 a5 a6 b0 b1 b2 b3 b4 b5 b6
  refine (keptBase_w B x.bi x.bt r.s q.s x.cfg w1 (H1.out.cfg.hi (Hi.ok HO1.out)) (HO1.out.cfg H2.out.cfg)).mono ?_
  rintro _ w2 ⟨rfl, ok⟩
  have HO2 := Lib.hid (HO1.out.trans ok)
  have HX2 := Lib.hid (And.intro (blk_ok ok HX1.out.1) (blk_ok ok HX1.out.2))
  clear ok HO1 HX1
  have hx := HX2.out.1
  have hy := HX2.out.2
  have a0 : w2.cell? ⟨g, 0, none⟩ = some (.int .i64 x.bi) := (cell_of_heap hx 0).trans rfl
  have a1 : w2.cell? ⟨g, 1, none⟩ = some (.int .i64 x.bt) := (cell_of_heap hx 1).trans rfl
  have a2 : w2.cell? ⟨g, 2, none⟩ = some (.slice r.s.A0 r.s.n0 r.s.c0) := (cell_of_heap hx 2).trans rfl
  have a3 : w2.cell? ⟨g, 3, none⟩ = some (.slice r.s.A1 r.s.n1 r.s.c1) := (cell_of_heap hx 3).trans rfl
  have a4 : w2.cell? ⟨g, 4, none⟩ = some (.slice r.s.A2 r.s.n2 r.s.c2) := (cell_of_heap hx 4).trans rfl
  have a5 : w2.cell? ⟨g, 5, none⟩ = some (.slice r.s.A3 r.s.n3 r.s.c3) := (cell_of_heap hx 5).trans rfl
  have a6 : w2.cell? ⟨g, 6, none⟩ = some (.slice r.A r.n r.c) := (cell_of_heap hx 6).trans rfl
  have b0 : w2.cell? ⟨(g + 1), 0, none⟩ = some (.int .i64 x.bi) := (cell_of_heap hy 0).trans rfl
  have b1 : w2.cell? ⟨(g + 1), 1, none⟩ = some (.int .i64 x.bt) := (cell_of_heap hy 1).trans rfl
  have b2 : w2.cell? ⟨(g + 1), 2, none⟩ = some (.slice q.s.A0 q.s.n0 q.s.c0) := (cell_of_heap hy 2).trans rfl
  have b3 : w2.cell? ⟨(g + 1), 3, none⟩ = some (.slice q.s.A1 q.s.n1 q.s.c1) := (cell_of_heap hy 3).trans rfl
  have b4 : w2.cell? ⟨(g + 1), 4, none⟩ = some (.slice q.s.A2 q.s.n2 q.s.c2) := (cell_of_heap hy 4).trans rfl
  have b5 : w2.cell? ⟨(g + 1), 5, none⟩ = some (.slice q.s.A3 q.s.n3 q.s.c3) := (cell_of_heap hy 5).trans rfl
  have b6 : w2.cell? ⟨(g + 1), 6, none⟩ = some (.slice q.A q.n q.c) := (cell_of_heap hy 6).trans rfl
  clear hx hy
  go_wp2_with fail
  clear a0 a1 a2 a3 a4 a5 a6 b0 b1 b2 b3 b4 b5 b6
  refine (keptBytes_w w2 B r.A r.n r.c x.bytes (H1.out.bytes.hi (Hi.ok HO2.out)) q.A q.n q.c (HO2.out.bytes H2.out.bytes)).mono ?_
  rintro _ w3 ⟨rfl, ok⟩
  have HO3 := Lib.hid (HO2.out.trans ok)
  have HX3 := Lib.hid (And.intro (blk_ok ok HX2.out.1) (blk_ok ok HX2.out.2))
  clear ok HO2 HX2
  clear HX3
  go_wp2_with fail
  go_ret
  exact ⟨rfl, HO3.out⟩

set_option maxRecDepth 100000 in
set_option maxHeartbeats 8000000 in
theorem sameLetter_w (r q : LR) (x : Lt) (W : World) (h : LtAt W r x) (h2 : LtAt W q x) : Calls Try.prog 69 #[r.val x, q.val x] W (Ret W (.bool true)) := by
  have H1 := Lib.hid h
  have H2 := Lib.hid h2
  clear h h2
  unfold LR.val LR.cells
  have HX := Lib.hid (blk2 W (.cells #[.int .u8 x.kind, .int .i64 x.group, .int .i64 x.from_, .int .i64 x.to_, .int .i64 x.term, .int .i64 x.index, .int .i64 x.logterm, .int .i64 x.commit, .bool x.ok, .slice r.eA x.es.length r.ec, .int .i64 x.bi, .int .i64 x.bt, .slice r.s.A0 r.s.n0 r.s.c0, .slice r.s.A1 r.s.n1 r.s.c1, .slice r.s.A2 r.s.n2 r.s.c2, .slice r.s.A3 r.s.n3 r.s.c3, .int .i64 x.size, .int .i64 x.at_, .int .i64 x.tag, .slice r.bA r.bn r.bc] 95) (.cells #[.int .u8 x.kind, .int .i64 x.group, .int .i64 x.from_, .int .i64 x.to_, .int .i64 x.term, .int .i64 x.index, .int .i64 x.logterm, .int .i64 x.commit, .bool x.ok, .slice q.eA x.es.length q.ec, .int .i64 x.bi, .int .i64 x.bt, .slice q.s.A0 q.s.n0 q.s.c0, .slice q.s.A1 q.s.n1 q.s.c1, .slice q.s.A2 q.s.n2 q.s.c2, .slice q.s.A3 q.s.n3 q.s.c3, .int .i64 x.size, .int .i64 x.at_, .int .i64 x.tag, .slice q.bA q.bn q.bc] 95))
  have HO0 : Hid (Ok W ((W.alloc (.cells #[.int .u8 x.kind, .int .i64 x.group, .int .i64 x.from_, .int .i64 x.to_, .int .i64 x.term, .int .i64 x.index, .int .i64 x.logterm, .int .i64 x.commit, .bool x.ok, .slice r.eA x.es.length r.ec, .int .i64 x.bi, .int .i64 x.bt, .slice r.s.A0 r.s.n0 r.s.c0, .slice r.s.A1 r.s.n1 r.s.c1, .slice r.s.A2 r.s.n2 r.s.c2, .slice r.s.A3 r.s.n3 r.s.c3, .int .i64 x.size, .int .i64 x.at_, .int .i64 x.tag, .slice r.bA r.bn r.bc] 95)).alloc (.cells #[.int .u8 x.kind, .int .i64 x.group, .int .i64 x.from_, .int .i64 x.to_, .int .i64 x.term, .int .i64 x.index, .int .i64 x.logterm, .int .i64 x.commit, .bool x.ok, .slice q.eA x.es.length q.ec, .int .i64 x.bi, .int .i64 x.bt, .slice q.s.A0 q.s.n0 q.s.c0, .slice q.s.A1 q.s.n1 q.s.c1, .slice q.s.A2 q.s.n2 q.s.c2, .slice q.s.A3 q.s.n3 q.s.c3, .int .i64 x.size, .int .i64 x.at_, .int .i64 x.tag, .slice q.bA q.bn q.bc] 95))) := Lib.hid (((Ok.refl W).alloc _).alloc _)
  go_enter Try.func69, Try.ntmps69
  go_wp2_with fail
  generalize ((W.alloc (.cells #[.int .u8 x.kind, .int .i64 x.group, .int .i64 x.from_, .int .i64 x.to_, .int .i64 x.term, .int .i64 x.index, .int .i64 x.logterm, .int .i64 x.commit, .bool x.ok, .slice r.eA x.es.length r.ec, .int .i64 x.bi, .int .i64 x.bt, .slice r.s.A0 r.s.n0 r.s.c0, .slice r.s.A1 r.s.n1 r.s.c1, .slice r.s.A2 r.s.n2 r.s.c2, .slice r.s.A3 r.s.n3 r.s.c3, .int .i64 x.size, .int .i64 x.at_, .int .i64 x.tag, .slice r.bA r.bn r.bc] 95)).alloc (.cells #[.int .u8 x.kind, .int .i64 x.group, .int .i64 x.from_, .int .i64 x.to_, .int .i64 x.term, .int .i64 x.index, .int .i64 x.logterm, .int .i64 x.commit, .bool x.ok, .slice q.eA x.es.length q.ec, .int .i64 x.bi, .int .i64 x.bt, .slice q.s.A0 q.s.n0 q.s.c0, .slice q.s.A1 q.s.n1 q.s.c1, .slice q.s.A2 q.s.n2 q.s.c2, .slice q.s.A3 q.s.n3 q.s.c3, .int .i64 x.size, .int .i64 x.at_, .int .i64 x.tag, .slice q.bA q.bn q.bc] 95)) = w0 at *
  obtain ⟨g, hg⟩ : ∃ g, W.heap.size = g := ⟨_, rfl⟩
  rw [hg] at HX ⊢
  clear hg
  refine (sameEntries_w r.eA q.eA x.es.length r.ec q.ec x.es rfl H1.out.en6 w0 (H1.out.es.ok HO0.out) (H2.out.es.ok HO0.out)).mono ?_
  rintro _ w1 ⟨rfl, ok⟩
  have HO1 := Lib.hid (HO0.out.trans ok)
  have HX1 := Lib.hid (And.intro (blk_ok ok HX.out.1) (blk_ok ok HX.out.2))
  clear ok HO0 HX
  have hx := HX1.out.1
  have hy := HX1.out.2
  have a0 : w1.cell? ⟨g, 0, none⟩ = some (.int .u8 x.kind) := (cell_of_heap hx 0).trans rfl
  have a1 : w1.cell? ⟨g, 1, none⟩ = some (.int .i64 x.group) := (cell_of_heap hx 1).trans rfl
  have a2 : w1.cell? ⟨g, 2, none⟩ = some (.int .i64 x.from_) := (cell_of_heap hx 2).trans rfl
  have a3 : w1.cell? ⟨g, 3, none⟩ = some (.int .i64 x.to_) := (cell_of_heap hx 3).trans rfl
  have a4 : w1.cell? ⟨g, 4, none⟩ = some (.int .i64 x.term) := (cell_of_heap hx 4).trans rfl
  have a5 : w1.cell? ⟨g, 5, none⟩ = some (.int .i64 x.index) := (cell_of_heap hx 5).trans rfl
  have a6 : w1.cell? ⟨g, 6, none⟩ = some (.int .i64 x.logterm) := (cell_of_heap hx 6).trans rfl
  have a7 : w1.cell? ⟨g, 7, none⟩ = some (.int .i64 x.commit) := (cell_of_heap hx 7).trans rfl
  have a8 : w1.cell? ⟨g, 8, none⟩ = some (.bool x.ok) := (cell_of_heap hx 8).trans rfl
  have a9 : w1.cell? ⟨g, 9, none⟩ = some (.slice r.eA x.es.length r.ec) := (cell_of_heap hx 9).trans rfl
  have a10 : w1.cell? ⟨g, 10, none⟩ = some (.int .i64 x.bi) := (cell_of_heap hx 10).trans rfl
  have a11 : w1.cell? ⟨g, 11, none⟩ = some (.int .i64 x.bt) := (cell_of_heap hx 11).trans rfl
  have a12 : w1.cell? ⟨g, 12, none⟩ = some (.slice r.s.A0 r.s.n0 r.s.c0) := (cell_of_heap hx 12).trans rfl
  have a13 : w1.cell? ⟨g, 13, none⟩ = some (.slice r.s.A1 r.s.n1 r.s.c1) := (cell_of_heap hx 13).trans rfl
  have a14 : w1.cell? ⟨g, 14, none⟩ = some (.slice r.s.A2 r.s.n2 r.s.c2) := (cell_of_heap hx 14).trans rfl
  have a15 : w1.cell? ⟨g, 15, none⟩ = some (.slice r.s.A3 r.s.n3 r.s.c3) := (cell_of_heap hx 15).trans rfl
  have a16 : w1.cell? ⟨g, 16, none⟩ = some (.int .i64 x.size) := (cell_of_heap hx 16).trans rfl
  have a17 : w1.cell? ⟨g, 17, none⟩ = some (.int .i64 x.at_) := (cell_of_heap hx 17).trans rfl
  have a18 : w1.cell? ⟨g, 18, none⟩ = some (.int .i64 x.tag) := (cell_of_heap hx 18).trans rfl
  have a19 : w1.cell? ⟨g, 19, none⟩ = some (.slice r.bA r.bn r.bc) := (cell_of_heap hx 19).trans rfl
  have b0 : w1.cell? ⟨(g + 1), 0, none⟩ = some (.int .u8 x.kind) := (cell_of_heap hy 0).trans rfl
  have b1 : w1.cell? ⟨(g + 1), 1, none⟩ = some (.int .i64 x.group) := (cell_of_heap hy 1).trans rfl
  have b2 : w1.cell? ⟨(g + 1), 2, none⟩ = some (.int .i64 x.from_) := (cell_of_heap hy 2).trans rfl
  have b3 : w1.cell? ⟨(g + 1), 3, none⟩ = some (.int .i64 x.to_) := (cell_of_heap hy 3).trans rfl
  have b4 : w1.cell? ⟨(g + 1), 4, none⟩ = some (.int .i64 x.term) := (cell_of_heap hy 4).trans rfl
  have b5 : w1.cell? ⟨(g + 1), 5, none⟩ = some (.int .i64 x.index) := (cell_of_heap hy 5).trans rfl
  have b6 : w1.cell? ⟨(g + 1), 6, none⟩ = some (.int .i64 x.logterm) := (cell_of_heap hy 6).trans rfl
  have b7 : w1.cell? ⟨(g + 1), 7, none⟩ = some (.int .i64 x.commit) := (cell_of_heap hy 7).trans rfl
  have b8 : w1.cell? ⟨(g + 1), 8, none⟩ = some (.bool x.ok) := (cell_of_heap hy 8).trans rfl
  have b9 : w1.cell? ⟨(g + 1), 9, none⟩ = some (.slice q.eA x.es.length q.ec) := (cell_of_heap hy 9).trans rfl
  have b10 : w1.cell? ⟨(g + 1), 10, none⟩ = some (.int .i64 x.bi) := (cell_of_heap hy 10).trans rfl
  have b11 : w1.cell? ⟨(g + 1), 11, none⟩ = some (.int .i64 x.bt) := (cell_of_heap hy 11).trans rfl
  have b12 : w1.cell? ⟨(g + 1), 12, none⟩ = some (.slice q.s.A0 q.s.n0 q.s.c0) := (cell_of_heap hy 12).trans rfl
  have b13 : w1.cell? ⟨(g + 1), 13, none⟩ = some (.slice q.s.A1 q.s.n1 q.s.c1) := (cell_of_heap hy 13).trans rfl
  have b14 : w1.cell? ⟨(g + 1), 14, none⟩ = some (.slice q.s.A2 q.s.n2 q.s.c2) := (cell_of_heap hy 14).trans rfl
  have b15 : w1.cell? ⟨(g + 1), 15, none⟩ = some (.slice q.s.A3 q.s.n3 q.s.c3) := (cell_of_heap hy 15).trans rfl
  have b16 : w1.cell? ⟨(g + 1), 16, none⟩ = some (.int .i64 x.size) := (cell_of_heap hy 16).trans rfl
  have b17 : w1.cell? ⟨(g + 1), 17, none⟩ = some (.int .i64 x.at_) := (cell_of_heap hy 17).trans rfl
  have b18 : w1.cell? ⟨(g + 1), 18, none⟩ = some (.int .i64 x.tag) := (cell_of_heap hy 18).trans rfl
  have b19 : w1.cell? ⟨(g + 1), 19, none⟩ = some (.slice q.bA q.bn q.bc) := (cell_of_heap hy 19).trans rfl
  clear hx hy
  go_wp2_with fail
  clear a0 a1 a2 a3 a4 a5 a6 a7 a8 a9 a10 a11 a12 a13 a14 a15 a16 a17 a18 a19 b0 b1 b2 b3 b4 b5 b6 b7 b8 b9 b10 b11 b12 b13 b14 b15 b16 b17 b18 b19
  refine (sameBase_w x.bi x.bt r.s q.s x.cfg w1 (HO1.out.cfg H1.out.cfg) (HO1.out.cfg H2.out.cfg)).mono ?_
  rintro _ w2 ⟨rfl, ok⟩
  have HO2 := Lib.hid (HO1.out.trans ok)
  have HX2 := Lib.hid (And.intro (blk_ok ok HX1.out.1) (blk_ok ok HX1.out.2))
  clear ok HO1 HX1
  have hx := HX2.out.1
  have hy := HX2.out.2
  have a0 : w2.cell? ⟨g, 0, none⟩ = some (.int .u8 x.kind) := (cell_of_heap hx 0).trans rfl
  have a1 : w2.cell? ⟨g, 1, none⟩ = some (.int .i64 x.group) := (cell_of_heap hx 1).trans rfl
  have a2 : w2.cell? ⟨g, 2, none⟩ = some (.int .i64 x.from_) := (cell_of_heap hx 2).trans rfl
  have a3 : w2.cell? ⟨g, 3, none⟩ = some (.int .i64 x.to_) := (cell_of_heap hx 3).trans rfl
  have a4 : w2.cell? ⟨g, 4, none⟩ = some (.int .i64 x.term) := (cell_of_heap hx 4).trans rfl
  have a5 : w2.cell? ⟨g, 5, none⟩ = some (.int .i64 x.index) := (cell_of_heap hx 5).trans rfl
  have a6 : w2.cell? ⟨g, 6, none⟩ = some (.int .i64 x.logterm) := (cell_of_heap hx 6).trans rfl
  have a7 : w2.cell? ⟨g, 7, none⟩ = some (.int .i64 x.commit) := (cell_of_heap hx 7).trans rfl
  have a8 : w2.cell? ⟨g, 8, none⟩ = some (.bool x.ok) := (cell_of_heap hx 8).trans rfl
  have a9 : w2.cell? ⟨g, 9, none⟩ = some (.slice r.eA x.es.length r.ec) := (cell_of_heap hx 9).trans rfl
  have a10 : w2.cell? ⟨g, 10, none⟩ = some (.int .i64 x.bi) := (cell_of_heap hx 10).trans rfl
  have a11 : w2.cell? ⟨g, 11, none⟩ = some (.int .i64 x.bt) := (cell_of_heap hx 11).trans rfl
  have a12 : w2.cell? ⟨g, 12, none⟩ = some (.slice r.s.A0 r.s.n0 r.s.c0) := (cell_of_heap hx 12).trans rfl
  have a13 : w2.cell? ⟨g, 13, none⟩ = some (.slice r.s.A1 r.s.n1 r.s.c1) := (cell_of_heap hx 13).trans rfl
  have a14 : w2.cell? ⟨g, 14, none⟩ = some (.slice r.s.A2 r.s.n2 r.s.c2) := (cell_of_heap hx 14).trans rfl
  have a15 : w2.cell? ⟨g, 15, none⟩ = some (.slice r.s.A3 r.s.n3 r.s.c3) := (cell_of_heap hx 15).trans rfl
  have a16 : w2.cell? ⟨g, 16, none⟩ = some (.int .i64 x.size) := (cell_of_heap hx 16).trans rfl
  have a17 : w2.cell? ⟨g, 17, none⟩ = some (.int .i64 x.at_) := (cell_of_heap hx 17).trans rfl
  have a18 : w2.cell? ⟨g, 18, none⟩ = some (.int .i64 x.tag) := (cell_of_heap hx 18).trans rfl
  have a19 : w2.cell? ⟨g, 19, none⟩ = some (.slice r.bA r.bn r.bc) := (cell_of_heap hx 19).trans rfl
  have b0 : w2.cell? ⟨(g + 1), 0, none⟩ = some (.int .u8 x.kind) := (cell_of_heap hy 0).trans rfl
  have b1 : w2.cell? ⟨(g + 1), 1, none⟩ = some (.int .i64 x.group) := (cell_of_heap hy 1).trans rfl
  have b2 : w2.cell? ⟨(g + 1), 2, none⟩ = some (.int .i64 x.from_) := (cell_of_heap hy 2).trans rfl
  have b3 : w2.cell? ⟨(g + 1), 3, none⟩ = some (.int .i64 x.to_) := (cell_of_heap hy 3).trans rfl
  have b4 : w2.cell? ⟨(g + 1), 4, none⟩ = some (.int .i64 x.term) := (cell_of_heap hy 4).trans rfl
  have b5 : w2.cell? ⟨(g + 1), 5, none⟩ = some (.int .i64 x.index) := (cell_of_heap hy 5).trans rfl
  have b6 : w2.cell? ⟨(g + 1), 6, none⟩ = some (.int .i64 x.logterm) := (cell_of_heap hy 6).trans rfl
  have b7 : w2.cell? ⟨(g + 1), 7, none⟩ = some (.int .i64 x.commit) := (cell_of_heap hy 7).trans rfl
  have b8 : w2.cell? ⟨(g + 1), 8, none⟩ = some (.bool x.ok) := (cell_of_heap hy 8).trans rfl
  have b9 : w2.cell? ⟨(g + 1), 9, none⟩ = some (.slice q.eA x.es.length q.ec) := (cell_of_heap hy 9).trans rfl
  have b10 : w2.cell? ⟨(g + 1), 10, none⟩ = some (.int .i64 x.bi) := (cell_of_heap hy 10).trans rfl
  have b11 : w2.cell? ⟨(g + 1), 11, none⟩ = some (.int .i64 x.bt) := (cell_of_heap hy 11).trans rfl
  have b12 : w2.cell? ⟨(g + 1), 12, none⟩ = some (.slice q.s.A0 q.s.n0 q.s.c0) := (cell_of_heap hy 12).trans rfl
  have b13 : w2.cell? ⟨(g + 1), 13, none⟩ = some (.slice q.s.A1 q.s.n1 q.s.c1) := (cell_of_heap hy 13).trans rfl
  have b14 : w2.cell? ⟨(g + 1), 14, none⟩ = some (.slice q.s.A2 q.s.n2 q.s.c2) := (cell_of_heap hy 14).trans rfl
  have b15 : w2.cell? ⟨(g + 1), 15, none⟩ = some (.slice q.s.A3 q.s.n3 q.s.c3) := (cell_of_heap hy 15).trans rfl
  have b16 : w2.cell? ⟨(g + 1), 16, none⟩ = some (.int .i64 x.size) := (cell_of_heap hy 16).trans rfl
  have b17 : w2.cell? ⟨(g + 1), 17, none⟩ = some (.int .i64 x.at_) := (cell_of_heap hy 17).trans rfl
  have b18 : w2.cell? ⟨(g + 1), 18, none⟩ = some (.int .i64 x.tag) := (cell_of_heap hy 18).trans rfl
  have b19 : w2.cell? ⟨(g + 1), 19, none⟩ = some (.slice q.bA q.bn q.bc) := (cell_of_heap hy 19).trans rfl
  clear hx hy
  go_wp2_with fail
  clear a0 a1 a2 a3 a4 a5 a6 a7 a8 a9 a10 a11 a12 a13 a14 a15 a16 a17 a18 a19 b0 b1 b2 b3 b4 b5 b6 b7 b8 b9 b10 b11 b12 b13 b14 b15 b16 b17 b18 b19
  refine (sameBytes_v _ _ x.bytes w2 (HO2.out.bytes H1.out.bytes) (HO2.out.bytes H2.out.bytes)).mono ?_
  rintro _ w3 ⟨rfl, ok⟩
  have HO3 := Lib.hid (HO2.out.trans ok)
  have HX3 := Lib.hid (And.intro (blk_ok ok HX2.out.1) (blk_ok ok HX2.out.2))
  clear ok HO2 HX2
  clear HX3
  go_wp2_with fail
  go_ret
  exact ⟨rfl, HO3.out⟩
end Go.Proofs.Ytolfdncmlfnbdaa
