/- The document's Fill of a letter that is refused. -/
import Derived.Test.YtolfdncmlfnbdaaJc
namespace Go.Proofs.Ytolfdncmlfnbdaa
open Go.RowKit

abbrev zeroA : Array Value := #[.int .u8 0, .int .i64 0, .int .i64 0, .int .i64 0, .int .i64 0, .int .i64 0, .int .i64 0, .int .i64 0, .bool false, .slice none 0 0, .int .i64 0, .int .i64 0, .slice none 0 0, .slice none 0 0, .slice none 0 0, .slice none 0 0, .int .i64 0, .int .i64 0, .int .i64 0, .slice none 0 0]
theorem zeroA_one : zeroA.all (·.oneCell') = true := by simp [Value.oneCell']
def zeroL : Value := .agg #[.int .u8 0, .int .i64 0, .int .i64 0, .int .i64 0, .int .i64 0, .int .i64 0, .int .i64 0, .int .i64 0, .bool false, .slice none 0 0, .int .i64 0, .int .i64 0, .slice none 0 0, .slice none 0 0, .slice none 0 0, .slice none 0 0, .int .i64 0, .int .i64 0, .int .i64 0, .slice none 0 0]
def RefP (W : World) (e : Ending) (w' : World) : Prop := e = .returned (.tuple #[zeroL, .bool false]) ∧ Ok W w'
set_option maxRecDepth 100000 in
set_option maxHeartbeats 4000000 in
theorem fillNo_w (r : LR) (x : Lt) (q : IR) (m : Im) (W : World) (h : (x.kind != 5) = true ∨ (x.bi != m.bi) = true ∨ (x.bt != m.bt) = true ∨ x.at_ < 0 ∨ (q.n : Int) < x.at_) : Calls Try.prog 67 #[r.val x, q.val m] W (RefP W) := by
  unfold LR.val IR.val RefP zeroL
  have HX0 : Hid ((((W.alloc (.cells (r.cells x).toArray 95)).alloc (.cells #[.int .i64 m.bi, .int .i64 m.bt, .slice q.s.A0 q.s.n0 q.s.c0, .slice q.s.A1 q.s.n1 q.s.c1, .slice q.s.A2 q.s.n2 q.s.c2, .slice q.s.A3 q.s.n3 q.s.c3, .slice q.A q.n q.c] 97)).alloc (.cells #[.int .u8 0, .int .i64 0, .int .i64 0, .int .i64 0, .int .i64 0, .int .i64 0, .int .i64 0, .int .i64 0, .bool false, .slice none 0 0, .int .i64 0, .int .i64 0, .slice none 0 0, .slice none 0 0, .slice none 0 0, .slice none 0 0, .int .i64 0, .int .i64 0, .int .i64 0, .slice none 0 0] 95)).heap[W.heap.size]? = some (.cells (r.cells x).toArray 95 (0, 0))) := Lib.hid (blk_old (blk_old (blk_new rfl)))
  have HY0 : Hid ((((W.alloc (.cells (r.cells x).toArray 95)).alloc (.cells #[.int .i64 m.bi, .int .i64 m.bt, .slice q.s.A0 q.s.n0 q.s.c0, .slice q.s.A1 q.s.n1 q.s.c1, .slice q.s.A2 q.s.n2 q.s.c2, .slice q.s.A3 q.s.n3 q.s.c3, .slice q.A q.n q.c] 97)).alloc (.cells #[.int .u8 0, .int .i64 0, .int .i64 0, .int .i64 0, .int .i64 0, .int .i64 0, .int .i64 0, .int .i64 0, .bool false, .slice none 0 0, .int .i64 0, .int .i64 0, .slice none 0 0, .slice none 0 0, .slice none 0 0, .slice none 0 0, .int .i64 0, .int .i64 0, .int .i64 0, .slice none 0 0] 95)).heap[W.heap.size + 1]? = some (.cells #[.int .i64 m.bi, .int .i64 m.bt, .slice q.s.A0 q.s.n0 q.s.c0, .slice q.s.A1 q.s.n1 q.s.c1, .slice q.s.A2 q.s.n2 q.s.c2, .slice q.s.A3 q.s.n3 q.s.c3, .slice q.A q.n q.c] 97 (0, 0))) := Lib.hid (blk_old (blk_new (World.size_alloc _ _)))
  have HT0 : Hid ((((W.alloc (.cells (r.cells x).toArray 95)).alloc (.cells #[.int .i64 m.bi, .int .i64 m.bt, .slice q.s.A0 q.s.n0 q.s.c0, .slice q.s.A1 q.s.n1 q.s.c1, .slice q.s.A2 q.s.n2 q.s.c2, .slice q.s.A3 q.s.n3 q.s.c3, .slice q.A q.n q.c] 97)).alloc (.cells #[.int .u8 0, .int .i64 0, .int .i64 0, .int .i64 0, .int .i64 0, .int .i64 0, .int .i64 0, .int .i64 0, .bool false, .slice none 0 0, .int .i64 0, .int .i64 0, .slice none 0 0, .slice none 0 0, .slice none 0 0, .slice none 0 0, .int .i64 0, .int .i64 0, .int .i64 0, .slice none 0 0] 95)).heap[W.heap.size + 2]? = some (.cells #[.int .u8 0, .int .i64 0, .int .i64 0, .int .i64 0, .int .i64 0, .int .i64 0, .int .i64 0, .int .i64 0, .bool false, .slice none 0 0, .int .i64 0, .int .i64 0, .slice none 0 0, .slice none 0 0, .slice none 0 0, .slice none 0 0, .int .i64 0, .int .i64 0, .int .i64 0, .slice none 0 0] 95 (0, 0))) := Lib.hid (blk_new (by rw [World.size_alloc, World.size_alloc]))
  have HO : Hid (Ok W (((W.alloc (.cells (r.cells x).toArray 95)).alloc (.cells #[.int .i64 m.bi, .int .i64 m.bt, .slice q.s.A0 q.s.n0 q.s.c0, .slice q.s.A1 q.s.n1 q.s.c1, .slice q.s.A2 q.s.n2 q.s.c2, .slice q.s.A3 q.s.n3 q.s.c3, .slice q.A q.n q.c] 97)).alloc (.cells #[.int .u8 0, .int .i64 0, .int .i64 0, .int .i64 0, .int .i64 0, .int .i64 0, .int .i64 0, .int .i64 0, .bool false, .slice none 0 0, .int .i64 0, .int .i64 0, .slice none 0 0, .slice none 0 0, .slice none 0 0, .slice none 0 0, .int .i64 0, .int .i64 0, .int .i64 0, .slice none 0 0] 95))) := Lib.hid ((((Ok.refl W).alloc _).alloc _).alloc _)
  have HH := Lib.hid h
  clear h
  go_enter Try.func67, Try.ntmps67
  go_upto_region 1 with fail
  generalize (((W.alloc (.cells (r.cells x).toArray 95)).alloc (.cells #[.int .i64 m.bi, .int .i64 m.bt, .slice q.s.A0 q.s.n0 q.s.c0, .slice q.s.A1 q.s.n1 q.s.c1, .slice q.s.A2 q.s.n2 q.s.c2, .slice q.s.A3 q.s.n3 q.s.c3, .slice q.A q.n q.c] 97)).alloc (.cells #[.int .u8 0, .int .i64 0, .int .i64 0, .int .i64 0, .int .i64 0, .int .i64 0, .int .i64 0, .int .i64 0, .bool false, .slice none 0 0, .int .i64 0, .int .i64 0, .slice none 0 0, .slice none 0 0, .slice none 0 0, .slice none 0 0, .int .i64 0, .int .i64 0, .int .i64 0, .slice none 0 0] 95)) = w0 at *
  obtain ⟨g, hg⟩ : ∃ g, W.heap.size = g := ⟨_, rfl⟩
  have HG2 : Hid (W.heap.size ≤ g + 2) := Lib.hid (by omega)
  rw [hg] at HX0 HY0 HT0 ⊢
  clear hg
  have HTH : Hid (w0.there (g + 2) 0 20) := Lib.hid (there_raw HT0.out (by decide))
  have HON := Lib.hid zeroA_one
  have hx := HX0.out
  have hy := HY0.out
  have a0 : w0.cell? ⟨g, 0, none⟩ = some (.int .u8 x.kind) := (cell_of_heap hx 0).trans rfl
  have a10 : w0.cell? ⟨g, 10, none⟩ = some (.int .i64 x.bi) := (cell_of_heap hx 10).trans rfl
  have a11 : w0.cell? ⟨g, 11, none⟩ = some (.int .i64 x.bt) := (cell_of_heap hx 11).trans rfl
  have a17 : w0.cell? ⟨g, 17, none⟩ = some (.int .i64 x.at_) := (cell_of_heap hx 17).trans rfl
  have b0 : w0.cell? ⟨(g + 1), 0, none⟩ = some (.int .i64 m.bi) := (cell_of_heap hy 0).trans rfl
  have b1 : w0.cell? ⟨(g + 1), 1, none⟩ = some (.int .i64 m.bt) := (cell_of_heap hy 1).trans rfl
  have b6 : w0.cell? ⟨(g + 1), 6, none⟩ = some (.slice q.A q.n q.c) := (cell_of_heap hy 6).trans rfl
  clear hx hy HX0 HY0 HT0
  cases d0 : (x.kind != 5) with
  | true =>
    go_upto_region 2 with fail
    clear HH a0 a10 a11 a17 b0 b1 b6
    go_wp2_with (refine wpList_store_mid rfl 95 (.tmp 4) (.tmp 41) rfl (g + 2) 0 zeroA rfl rfl HTH.out info95 HON.out ?_; have HR9 := Lib.hid (World.rangeAt_setCells_same w0 (g + 2) 0 zeroA.toList HTH.out); have HO9 := Lib.hid (setCells_ok (g + 2) W HG2.out zeroA.toList 0 w0 HO.out); generalize World.setCells w0 _ _ _ = w9 at *)
    refine bodyPost_ret (v := .tuple #[.agg zeroA, .bool false]) ?_ rfl ?_
    · rw [results_cell_tmp Try.results67]
      show ((loadVar 95 ⟨g + 2, 0, none⟩).run Try.prog w9).andThen (fun v w₂ => Result.ok (Value.tuple #[v, Value.bool false]) w₂) = _
      rw [run_loadVar_mid _ _ _ 95 _ _ HR9.out Try.underlying95 rfl info95]
      rfl
    · exact ⟨rfl, HO9.out⟩
  | false =>
  cases d1 : (x.bi != m.bi) with
  | true =>
    go_upto_region 2 with fail
    clear HH a0 a10 a11 a17 b0 b1 b6
    go_wp2_with (refine wpList_store_mid rfl 95 (.tmp 4) (.tmp 41) rfl (g + 2) 0 zeroA rfl rfl HTH.out info95 HON.out ?_; have HR9 := Lib.hid (World.rangeAt_setCells_same w0 (g + 2) 0 zeroA.toList HTH.out); have HO9 := Lib.hid (setCells_ok (g + 2) W HG2.out zeroA.toList 0 w0 HO.out); generalize World.setCells w0 _ _ _ = w9 at *)
    refine bodyPost_ret (v := .tuple #[.agg zeroA, .bool false]) ?_ rfl ?_
    · rw [results_cell_tmp Try.results67]
      show ((loadVar 95 ⟨g + 2, 0, none⟩).run Try.prog w9).andThen (fun v w₂ => Result.ok (Value.tuple #[v, Value.bool false]) w₂) = _
      rw [run_loadVar_mid _ _ _ 95 _ _ HR9.out Try.underlying95 rfl info95]
      rfl
    · exact ⟨rfl, HO9.out⟩
  | false =>
  cases d2 : (x.bt != m.bt) with
  | true =>
    go_upto_region 2 with fail
    clear HH a0 a10 a11 a17 b0 b1 b6
    go_wp2_with (refine wpList_store_mid rfl 95 (.tmp 4) (.tmp 41) rfl (g + 2) 0 zeroA rfl rfl HTH.out info95 HON.out ?_; have HR9 := Lib.hid (World.rangeAt_setCells_same w0 (g + 2) 0 zeroA.toList HTH.out); have HO9 := Lib.hid (setCells_ok (g + 2) W HG2.out zeroA.toList 0 w0 HO.out); generalize World.setCells w0 _ _ _ = w9 at *)
    refine bodyPost_ret (v := .tuple #[.agg zeroA, .bool false]) ?_ rfl ?_
    · rw [results_cell_tmp Try.results67]
      show ((loadVar 95 ⟨g + 2, 0, none⟩).run Try.prog w9).andThen (fun v w₂ => Result.ok (Value.tuple #[v, Value.bool false]) w₂) = _
      rw [run_loadVar_mid _ _ _ 95 _ _ HR9.out Try.underlying95 rfl info95]
      rfl
    · exact ⟨rfl, HO9.out⟩
  | false =>
  cases d3 : decide (x.at_ < 0) with
  | true =>
    go_upto_region 2 with fail
    clear HH a0 a10 a11 a17 b0 b1 b6
    go_wp2_with (refine wpList_store_mid rfl 95 (.tmp 4) (.tmp 41) rfl (g + 2) 0 zeroA rfl rfl HTH.out info95 HON.out ?_; have HR9 := Lib.hid (World.rangeAt_setCells_same w0 (g + 2) 0 zeroA.toList HTH.out); have HO9 := Lib.hid (setCells_ok (g + 2) W HG2.out zeroA.toList 0 w0 HO.out); generalize World.setCells w0 _ _ _ = w9 at *)
    refine bodyPost_ret (v := .tuple #[.agg zeroA, .bool false]) ?_ rfl ?_
    · rw [results_cell_tmp Try.results67]
      show ((loadVar 95 ⟨g + 2, 0, none⟩).run Try.prog w9).andThen (fun v w₂ => Result.ok (Value.tuple #[v, Value.bool false]) w₂) = _
      rw [run_loadVar_mid _ _ _ 95 _ _ HR9.out Try.underlying95 rfl info95]
      rfl
    · exact ⟨rfl, HO9.out⟩
  | false =>
  cases d4 : decide ((q.n : Int) < x.at_) with
  | true =>
    go_upto_region 2 with fail
    clear HH a0 a10 a11 a17 b0 b1 b6
    go_wp2_with (refine wpList_store_mid rfl 95 (.tmp 4) (.tmp 41) rfl (g + 2) 0 zeroA rfl rfl HTH.out info95 HON.out ?_; have HR9 := Lib.hid (World.rangeAt_setCells_same w0 (g + 2) 0 zeroA.toList HTH.out); have HO9 := Lib.hid (setCells_ok (g + 2) W HG2.out zeroA.toList 0 w0 HO.out); generalize World.setCells w0 _ _ _ = w9 at *)
    refine bodyPost_ret (v := .tuple #[.agg zeroA, .bool false]) ?_ rfl ?_
    · rw [results_cell_tmp Try.results67]
      show ((loadVar 95 ⟨g + 2, 0, none⟩).run Try.prog w9).andThen (fun v w₂ => Result.ok (Value.tuple #[v, Value.bool false]) w₂) = _
      rw [run_loadVar_mid _ _ _ 95 _ _ HR9.out Try.underlying95 rfl info95]
      rfl
    · exact ⟨rfl, HO9.out⟩
  | false =>
    exfalso
    have h := HH.out
    have d3' := of_decide_eq_false d3
    have d4' := of_decide_eq_false d4
    rw [d0, d1, d2] at h
    rcases h with h | h | h | h | h
    · cases h
    · cases h
    · cases h
    · exact d3' h
    · exact d4' h
end Go.Proofs.Ytolfdncmlfnbdaa
namespace Go.Proofs.Ytolfdncmlfnbdaa
open Go.RowKit

theorem cells_one (r : LR) (x : Lt) : (r.cells x).toArray.all (·.oneCell') = true := by simp [LR.cells, Value.oneCell']
theorem info95' (r : LR) (x : Lt) : (Try.prog.info? 95).map (·.size) = some (r.cells x).length := info95
set_option maxRecDepth 100000 in
set_option maxHeartbeats 4000000 in
theorem refFillNo_w (r : LR) (x : Lt) (q : IR) (m : Im) (W : World) (hl : LtAt W r x) (hs : LtLe x) (h : (x.kind != 5) = true ∨ (x.bi != m.bi) = true ∨ (x.bt != m.bt) = true ∨ x.at_ < 0 ∨ (q.n : Int) < x.at_) : Calls Try.prog 68 #[r.val x, q.val m] W (RefP W) := by
  have HCP := Lib.hid (fun V (o : Ok W V) => copyLetter_w r x V (hl.ok o) hs)
  unfold LR.val at HCP
  unfold LR.val IR.val RefP zeroL
  have HX0 : Hid ((((W.alloc (.cells (r.cells x).toArray 95)).alloc (.cells #[.int .i64 m.bi, .int .i64 m.bt, .slice q.s.A0 q.s.n0 q.s.c0, .slice q.s.A1 q.s.n1 q.s.c1, .slice q.s.A2 q.s.n2 q.s.c2, .slice q.s.A3 q.s.n3 q.s.c3, .slice q.A q.n q.c] 97)).alloc (.cells #[.int .u8 0, .int .i64 0, .int .i64 0, .int .i64 0, .int .i64 0, .int .i64 0, .int .i64 0, .int .i64 0, .bool false, .slice none 0 0, .int .i64 0, .int .i64 0, .slice none 0 0, .slice none 0 0, .slice none 0 0, .slice none 0 0, .int .i64 0, .int .i64 0, .int .i64 0, .slice none 0 0] 95)).heap[W.heap.size]? = some (.cells (r.cells x).toArray 95 (0, 0))) := Lib.hid (blk_old (blk_old (blk_new rfl)))
  have HY0 : Hid ((((W.alloc (.cells (r.cells x).toArray 95)).alloc (.cells #[.int .i64 m.bi, .int .i64 m.bt, .slice q.s.A0 q.s.n0 q.s.c0, .slice q.s.A1 q.s.n1 q.s.c1, .slice q.s.A2 q.s.n2 q.s.c2, .slice q.s.A3 q.s.n3 q.s.c3, .slice q.A q.n q.c] 97)).alloc (.cells #[.int .u8 0, .int .i64 0, .int .i64 0, .int .i64 0, .int .i64 0, .int .i64 0, .int .i64 0, .int .i64 0, .bool false, .slice none 0 0, .int .i64 0, .int .i64 0, .slice none 0 0, .slice none 0 0, .slice none 0 0, .slice none 0 0, .int .i64 0, .int .i64 0, .int .i64 0, .slice none 0 0] 95)).heap[W.heap.size + 1]? = some (.cells #[.int .i64 m.bi, .int .i64 m.bt, .slice q.s.A0 q.s.n0 q.s.c0, .slice q.s.A1 q.s.n1 q.s.c1, .slice q.s.A2 q.s.n2 q.s.c2, .slice q.s.A3 q.s.n3 q.s.c3, .slice q.A q.n q.c] 97 (0, 0))) := Lib.hid (blk_old (blk_new (World.size_alloc _ _)))
  have HT0 : Hid ((((W.alloc (.cells (r.cells x).toArray 95)).alloc (.cells #[.int .i64 m.bi, .int .i64 m.bt, .slice q.s.A0 q.s.n0 q.s.c0, .slice q.s.A1 q.s.n1 q.s.c1, .slice q.s.A2 q.s.n2 q.s.c2, .slice q.s.A3 q.s.n3 q.s.c3, .slice q.A q.n q.c] 97)).alloc (.cells #[.int .u8 0, .int .i64 0, .int .i64 0, .int .i64 0, .int .i64 0, .int .i64 0, .int .i64 0, .int .i64 0, .bool false, .slice none 0 0, .int .i64 0, .int .i64 0, .slice none 0 0, .slice none 0 0, .slice none 0 0, .slice none 0 0, .int .i64 0, .int .i64 0, .int .i64 0, .slice none 0 0] 95)).heap[W.heap.size + 2]? = some (.cells #[.int .u8 0, .int .i64 0, .int .i64 0, .int .i64 0, .int .i64 0, .int .i64 0, .int .i64 0, .int .i64 0, .bool false, .slice none 0 0, .int .i64 0, .int .i64 0, .slice none 0 0, .slice none 0 0, .slice none 0 0, .slice none 0 0, .int .i64 0, .int .i64 0, .int .i64 0, .slice none 0 0] 95 (0, 0))) := Lib.hid (blk_new (by rw [World.size_alloc, World.size_alloc]))
  have HO : Hid (Ok W (((W.alloc (.cells (r.cells x).toArray 95)).alloc (.cells #[.int .i64 m.bi, .int .i64 m.bt, .slice q.s.A0 q.s.n0 q.s.c0, .slice q.s.A1 q.s.n1 q.s.c1, .slice q.s.A2 q.s.n2 q.s.c2, .slice q.s.A3 q.s.n3 q.s.c3, .slice q.A q.n q.c] 97)).alloc (.cells #[.int .u8 0, .int .i64 0, .int .i64 0, .int .i64 0, .int .i64 0, .int .i64 0, .int .i64 0, .int .i64 0, .bool false, .slice none 0 0, .int .i64 0, .int .i64 0, .slice none 0 0, .slice none 0 0, .slice none 0 0, .slice none 0 0, .int .i64 0, .int .i64 0, .int .i64 0, .slice none 0 0] 95))) := Lib.hid ((((Ok.refl W).alloc _).alloc _).alloc _)
  have HH := Lib.hid h
  clear h hl hs
  go_enter Try.func68, Try.ntmps68
  go_upto_region 1 with fail
  generalize (((W.alloc (.cells (r.cells x).toArray 95)).alloc (.cells #[.int .i64 m.bi, .int .i64 m.bt, .slice q.s.A0 q.s.n0 q.s.c0, .slice q.s.A1 q.s.n1 q.s.c1, .slice q.s.A2 q.s.n2 q.s.c2, .slice q.s.A3 q.s.n3 q.s.c3, .slice q.A q.n q.c] 97)).alloc (.cells #[.int .u8 0, .int .i64 0, .int .i64 0, .int .i64 0, .int .i64 0, .int .i64 0, .int .i64 0, .int .i64 0, .bool false, .slice none 0 0, .int .i64 0, .int .i64 0, .slice none 0 0, .slice none 0 0, .slice none 0 0, .slice none 0 0, .int .i64 0, .int .i64 0, .int .i64 0, .slice none 0 0] 95)) = w0 at *
  obtain ⟨g, hg⟩ : ∃ g, W.heap.size = g := ⟨_, rfl⟩
  have HG2 : Hid (W.heap.size ≤ g + 2) := Lib.hid (by omega)
  rw [hg] at HX0 HY0 HT0 ⊢
  clear hg
  have HRG := Lib.hid (range_raw HX0.out)
  have HIN := Lib.hid (info95' r x)
  go_wp2_with (refine wpList_load_mid rfl 95 (.tmp 2) rfl g 0 rfl (r.cells x) _ HRG.out Try.underlying95 rfl HIN.out ?_)
  (with_reducible refine (HCP.out w0 HO.out).mono ?_)
  rintro _ w1 ⟨r', rfl, -, o1⟩
  unfold LR.val
  have HO1 := Lib.hid o1
  clear o1 HCP HRG HIN
  have HTZ : Hid ((w1.alloc (.cells #[.int .u8 0, .int .i64 0, .int .i64 0, .int .i64 0, .int .i64 0, .int .i64 0, .int .i64 0, .int .i64 0, .bool false, .slice none 0 0, .int .i64 0, .int .i64 0, .slice none 0 0, .slice none 0 0, .slice none 0 0, .slice none 0 0, .int .i64 0, .int .i64 0, .int .i64 0, .slice none 0 0] 95)).there w1.heap.size 0 20) := Lib.hid (there_raw (heap_alloc_new w1 _) (by decide))
  have HC1 := Lib.hid (cells_one r' x)
  have HOW : Hid (Ok w0 ((w1.alloc (.cells #[.int .u8 0, .int .i64 0, .int .i64 0, .int .i64 0, .int .i64 0, .int .i64 0, .int .i64 0, .int .i64 0, .bool false, .slice none 0 0, .int .i64 0, .int .i64 0, .slice none 0 0, .slice none 0 0, .slice none 0 0, .slice none 0 0, .int .i64 0, .int .i64 0, .int .i64 0, .slice none 0 0] 95)).setCells w1.heap.size 0 (r'.cells x))) := Lib.hid (setCells_ok w1.heap.size w0 HO1.out.size _ 0 _ (HO1.out.alloc _))
  go_upto_region 2 with (refine wpList_store_mid rfl 95 (.tmp 6) (.tmp 9) rfl w1.heap.size 0 (r'.cells x).toArray rfl rfl HTZ.out info95 HC1.out ?_)
  (try go_frame)
  generalize (w1.alloc (.cells #[.int .u8 0, .int .i64 0, .int .i64 0, .int .i64 0, .int .i64 0, .int .i64 0, .int .i64 0, .int .i64 0, .bool false, .slice none 0 0, .int .i64 0, .int .i64 0, .slice none 0 0, .slice none 0 0, .slice none 0 0, .slice none 0 0, .int .i64 0, .int .i64 0, .int .i64 0, .slice none 0 0] 95)).setCells w1.heap.size 0 (r'.cells x) = w3 at *
  have HO3 := Lib.hid (HO.out.trans HOW.out)
  have HTH : Hid (w3.there (g + 2) 0 20) := Lib.hid (there_raw (blk_ok HOW.out HT0.out) (by decide))
  have HON := Lib.hid zeroA_one
  have hx := blk_ok HOW.out HX0.out
  have hy := blk_ok HOW.out HY0.out
  have a0 : w3.cell? ⟨g, 0, none⟩ = some (.int .u8 x.kind) := (cell_of_heap hx 0).trans rfl
  have a10 : w3.cell? ⟨g, 10, none⟩ = some (.int .i64 x.bi) := (cell_of_heap hx 10).trans rfl
  have a11 : w3.cell? ⟨g, 11, none⟩ = some (.int .i64 x.bt) := (cell_of_heap hx 11).trans rfl
  have a17 : w3.cell? ⟨g, 17, none⟩ = some (.int .i64 x.at_) := (cell_of_heap hx 17).trans rfl
  have b0 : w3.cell? ⟨(g + 1), 0, none⟩ = some (.int .i64 m.bi) := (cell_of_heap hy 0).trans rfl
  have b1 : w3.cell? ⟨(g + 1), 1, none⟩ = some (.int .i64 m.bt) := (cell_of_heap hy 1).trans rfl
  have b6 : w3.cell? ⟨(g + 1), 6, none⟩ = some (.slice q.A q.n q.c) := (cell_of_heap hy 6).trans rfl
  clear hx hy HX0 HY0 HT0 HTZ HC1
  cases d0 : (x.kind != 5) with
  | true =>
    go_upto_region 3 with fail
    clear HH a0 a10 a11 a17 b0 b1 b6
    go_wp2_with (refine wpList_store_mid rfl 95 (.tmp 4) (.tmp 44) rfl (g + 2) 0 zeroA rfl rfl HTH.out info95 HON.out ?_; have HR9 := Lib.hid (World.rangeAt_setCells_same w3 (g + 2) 0 zeroA.toList HTH.out); have HO9 := Lib.hid (setCells_ok (g + 2) W HG2.out zeroA.toList 0 w3 HO3.out); generalize World.setCells w3 _ _ _ = w9 at *)
    refine bodyPost_ret (v := .tuple #[.agg zeroA, .bool false]) ?_ rfl ?_
    · rw [results_cell_tmp Try.results68]
      show ((loadVar 95 ⟨g + 2, 0, none⟩).run Try.prog w9).andThen (fun v w₂ => Result.ok (Value.tuple #[v, Value.bool false]) w₂) = _
      rw [run_loadVar_mid _ _ _ 95 _ _ HR9.out Try.underlying95 rfl info95]
      rfl
    · exact ⟨rfl, HO9.out⟩
  | false =>
  cases d1 : (x.bi != m.bi) with
  | true =>
    go_upto_region 3 with fail
    clear HH a0 a10 a11 a17 b0 b1 b6
    go_wp2_with (refine wpList_store_mid rfl 95 (.tmp 4) (.tmp 44) rfl (g + 2) 0 zeroA rfl rfl HTH.out info95 HON.out ?_; have HR9 := Lib.hid (World.rangeAt_setCells_same w3 (g + 2) 0 zeroA.toList HTH.out); have HO9 := Lib.hid (setCells_ok (g + 2) W HG2.out zeroA.toList 0 w3 HO3.out); generalize World.setCells w3 _ _ _ = w9 at *)
    refine bodyPost_ret (v := .tuple #[.agg zeroA, .bool false]) ?_ rfl ?_
    · rw [results_cell_tmp Try.results68]
      show ((loadVar 95 ⟨g + 2, 0, none⟩).run Try.prog w9).andThen (fun v w₂ => Result.ok (Value.tuple #[v, Value.bool false]) w₂) = _
      rw [run_loadVar_mid _ _ _ 95 _ _ HR9.out Try.underlying95 rfl info95]
      rfl
    · exact ⟨rfl, HO9.out⟩
  | false =>
  cases d2 : (x.bt != m.bt) with
  | true =>
    go_upto_region 3 with fail
    clear HH a0 a10 a11 a17 b0 b1 b6
    go_wp2_with (refine wpList_store_mid rfl 95 (.tmp 4) (.tmp 44) rfl (g + 2) 0 zeroA rfl rfl HTH.out info95 HON.out ?_; have HR9 := Lib.hid (World.rangeAt_setCells_same w3 (g + 2) 0 zeroA.toList HTH.out); have HO9 := Lib.hid (setCells_ok (g + 2) W HG2.out zeroA.toList 0 w3 HO3.out); generalize World.setCells w3 _ _ _ = w9 at *)
    refine bodyPost_ret (v := .tuple #[.agg zeroA, .bool false]) ?_ rfl ?_
    · rw [results_cell_tmp Try.results68]
      show ((loadVar 95 ⟨g + 2, 0, none⟩).run Try.prog w9).andThen (fun v w₂ => Result.ok (Value.tuple #[v, Value.bool false]) w₂) = _
      rw [run_loadVar_mid _ _ _ 95 _ _ HR9.out Try.underlying95 rfl info95]
      rfl
    · exact ⟨rfl, HO9.out⟩
  | false =>
  cases d3 : decide (x.at_ < 0) with
  | true =>
    go_upto_region 3 with fail
    clear HH a0 a10 a11 a17 b0 b1 b6
    go_wp2_with (refine wpList_store_mid rfl 95 (.tmp 4) (.tmp 44) rfl (g + 2) 0 zeroA rfl rfl HTH.out info95 HON.out ?_; have HR9 := Lib.hid (World.rangeAt_setCells_same w3 (g + 2) 0 zeroA.toList HTH.out); have HO9 := Lib.hid (setCells_ok (g + 2) W HG2.out zeroA.toList 0 w3 HO3.out); generalize World.setCells w3 _ _ _ = w9 at *)
    refine bodyPost_ret (v := .tuple #[.agg zeroA, .bool false]) ?_ rfl ?_
    · rw [results_cell_tmp Try.results68]
      show ((loadVar 95 ⟨g + 2, 0, none⟩).run Try.prog w9).andThen (fun v w₂ => Result.ok (Value.tuple #[v, Value.bool false]) w₂) = _
      rw [run_loadVar_mid _ _ _ 95 _ _ HR9.out Try.underlying95 rfl info95]
      rfl
    · exact ⟨rfl, HO9.out⟩
  | false =>
  cases d4 : decide ((q.n : Int) < x.at_) with
  | true =>
    go_upto_region 3 with fail
    clear HH a0 a10 a11 a17 b0 b1 b6
    go_wp2_with (refine wpList_store_mid rfl 95 (.tmp 4) (.tmp 44) rfl (g + 2) 0 zeroA rfl rfl HTH.out info95 HON.out ?_; have HR9 := Lib.hid (World.rangeAt_setCells_same w3 (g + 2) 0 zeroA.toList HTH.out); have HO9 := Lib.hid (setCells_ok (g + 2) W HG2.out zeroA.toList 0 w3 HO3.out); generalize World.setCells w3 _ _ _ = w9 at *)
    refine bodyPost_ret (v := .tuple #[.agg zeroA, .bool false]) ?_ rfl ?_
    · rw [results_cell_tmp Try.results68]
      show ((loadVar 95 ⟨g + 2, 0, none⟩).run Try.prog w9).andThen (fun v w₂ => Result.ok (Value.tuple #[v, Value.bool false]) w₂) = _
      rw [run_loadVar_mid _ _ _ 95 _ _ HR9.out Try.underlying95 rfl info95]
      rfl
    · exact ⟨rfl, HO9.out⟩
  | false =>
    exfalso
    have h := HH.out
    have d3' := of_decide_eq_false d3
    have d4' := of_decide_eq_false d4
    rw [d0, d1, d2] at h
    rcases h with h | h | h | h | h
    · cases h
    · cases h
    · cases h
    · exact d3' h
    · exact d4' h
end Go.Proofs.Ytolfdncmlfnbdaa
