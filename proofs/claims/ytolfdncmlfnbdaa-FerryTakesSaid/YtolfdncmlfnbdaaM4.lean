/- The document's ferry in memory; what its Take refuses. -/
import Derived.Test.YtolfdncmlfnbdaaLa
import Derived.Test.YtolfdncmlfnbdaaJf
namespace Go.Proofs.Ytolfdncmlfnbdaa
open Go.RowKit

/-- The document's ferry at block p. -/
structure RAt (p : Nat) (tm i t sz : Int) (u : Bool) (A : Option Addr) (n c : Nat) (xs : List B8) (w : World) : Prop where
  c0 : w.cell? ⟨p, 0, none⟩ = some (.bool u)
  c1 : w.cell? ⟨p, 1, none⟩ = some (.int .i64 tm)
  c2 : w.cell? ⟨p, 2, none⟩ = some (.int .i64 i)
  c3 : w.cell? ⟨p, 3, none⟩ = some (.int .i64 t)
  c4 : w.cell? ⟨p, 4, none⟩ = some (.int .i64 sz)
  c5 : w.cell? ⟨p, 5, none⟩ = some (.slice A n c)
  own : OwnN w (p + 1) (.slice A n c) xs
  f : ∀ k, w.frozen? ⟨p, k, none⟩ = false
theorem RAt.ok {p : Nat} {tm i t sz : Int} {u : Bool} {A : Option Addr} {n c : Nat} {xs : List B8} {w w' : World} (h : RAt p tm i t sz u A n c xs w) (k : Ok w w') : RAt p tm i t sz u A n c xs w' := by
  have hg := World.block_lt_of_cell? _ _ h.c0
  exact ⟨k.cell h.c0, k.cell h.c1, k.cell h.c2, k.cell h.c3, k.cell h.c4, k.cell h.c5, h.own.okk k, fun j => by rw [Below.frozen k (p := ⟨p, j, none⟩) hg]; exact h.f j⟩
theorem RAt.lt {p : Nat} {tm i t sz : Int} {u : Bool} {A : Option Addr} {n c : Nat} {xs : List B8} {w : World} (h : RAt p tm i t sz u A n c xs w) : p < w.heap.size := World.block_lt_of_cell? _ _ h.c0
theorem RAt.len {p : Nat} {tm i t sz : Int} {u : Bool} {A : Option Addr} {n c : Nat} {xs : List B8} {w : World} (h : RAt p tm i t sz u A n c xs w) : n = xs.length := by
  obtain ⟨_, _, e⟩ := h.own.form
  simp only [Value.slice.injEq] at e
  exact e.2.1
theorem RAt.ownGe {p : Nat} {tm i t sz : Int} {u : Bool} {A : Option Addr} {n c : Nat} {xs : List B8} {w : World} (h : RAt p tm i t sz u A n c xs w) (k : Nat) (e : (Value.slice A n c).ownBlock = some k) : p + 1 ≤ k ∧ k < w.heap.size := World.ownsRow.lt h.own k e
theorem RAt.far {p : Nat} {tm i t sz : Int} {u : Bool} {A : Option Addr} {n c : Nat} {xs : List B8} {w : World} (h : RAt p tm i t sz u A n c xs w) (q o : Nat) (v : Value) (hq : q ≠ p) (ho : (Value.slice A n c).ownBlock ≠ some q) : RAt p tm i t sz u A n c xs (w.setCell ⟨q, o, none⟩ v) := by
  obtain ⟨c0, c1, c2, c3, c4, c5, own, f⟩ := h
  have k : ∀ j u, w.cell? ⟨p, j, none⟩ = some u → (w.setCell ⟨q, o, none⟩ v).cell? ⟨p, j, none⟩ = some u := fun j u hc => by
    rw [World.cell?_setCell_other _ _ _ _ (fun e => hq (congrArg Addr.block e))]; exact hc
  refine ⟨k _ _ c0, k _ _ c1, k _ _ c2, k _ _ c3, k _ _ c4, k _ _ c5, ⟨own.1, ?_⟩, fun j => by rw [World.frozen?_setCell]; exact f j⟩
  rcases own.2 with h0 | ⟨b, cap, cur, e, hb, hh, hr⟩
  · exact .inl h0
  · refine .inr ⟨b, cap, cur, e, hb, ?_, hr⟩
    rw [heap_setCell_other w ⟨q, o, none⟩ b v (fun e2 => by rw [e] at ho; exact ho (congrArg some e2))]
    exact hh
/-- All six cells written anew. -/
theorem RAt.put {p : Nat} {tm i t sz tm' i' t' sz' : Int} {u u' : Bool} {A : Option Addr} {n c : Nat} {xs : List B8} {w : World} (h : RAt p tm i t sz u A n c xs w) :
    RAt p tm' i' t' sz' u' none 0 0 [] ((((((w.setCell ⟨p, 0, none⟩ (.bool u')).setCell ⟨p, 1, none⟩ (.int .i64 tm')).setCell ⟨p, 2, none⟩ (.int .i64 i')).setCell ⟨p, 3, none⟩ (.int .i64 t')).setCell ⟨p, 4, none⟩ (.int .i64 sz')).setCell ⟨p, 5, none⟩ (.slice none 0 0)) := by
  obtain ⟨c0, c1, c2, c3, c4, c5, _, f⟩ := h
  refine ⟨?_, ?_, ?_, ?_, ?_, ?_, OwnN.nil _ _, fun j => ?_⟩
  · go_cell
  · go_cell
  · go_cell
  · go_cell
  · go_cell
  · go_cell
  · simp only [World.frozen?_setCell]; exact f j
set_option maxRecDepth 100000 in
theorem rnew_f (W : World) : Calls Try.prog 74 #[] W fun e w' => e = .returned (.pointer (some ⟨W.heap.size, 0, none⟩)) ∧ RAt W.heap.size 0 0 0 0 false none 0 0 [] w' ∧ Ok W w' := by
  have HF : Hid (RAt W.heap.size 0 0 0 0 false none 0 0 [] (W.alloc (.cells #[.bool false, .int .i64 0, .int .i64 0, .int .i64 0, .int .i64 0, .slice none 0 0] 172))) := Lib.hid
    ⟨box_cell _ _ _ _ _ rfl, box_cell _ _ _ _ _ rfl, box_cell _ _ _ _ _ rfl, box_cell _ _ _ _ _ rfl, box_cell _ _ _ _ _ rfl, box_cell _ _ _ _ _ rfl, OwnN.nil _ _, fun j => by rw [World.frozen?, heap_alloc_new]; simp⟩
  go_enter Try.func74, Try.ntmps74
  go_wp2_with fail
  go_ret
  exact ⟨rfl, HF.out, (Ok.refl W).alloc _⟩
set_option maxRecDepth 100000 in
theorem rdrop_f (p : Nat) (tm i t sz : Int) (u : Bool) (A : Option Addr) (n c : Nat) (xs : List B8) (W : World) (h : RAt p tm i t sz u A n c xs W) :
    Calls Try.prog 76 #[.pointer (some ⟨p, 0, none⟩)] W fun e w' => e = .returned (.tuple #[]) ∧ RAt p 0 0 0 0 false none 0 0 [] w' ∧ Fr p A n c W w' := by
  have HP := Lib.hid (h.put (tm' := 0) (i' := 0) (t' := 0) (sz' := 0) (u' := false))
  have c0 := h.c0
  have c1 := h.c1
  have c2 := h.c2
  have c3 := h.c3
  have c4 := h.c4
  have c5 := h.c5
  have f0 := h.f 0
  have f1 := h.f 1
  have f2 := h.f 2
  have f3 := h.f 3
  have f4 := h.f 4
  have f5 := h.f 5
  clear h
  go_enter Try.func76, Try.ntmps76
  go_wp2_with fail
  go_end0
  exact ⟨rfl, HP.out, ((((((Fr.refl p A n c _).set 0 _).set 1 _).set 2 _).set 3 _).set 4 _).set 5 _⟩
/-- Nothing is taken. -/
def RNo (p : Nat) (tm i t sz : Int) (u : Bool) (A : Option Addr) (n c : Nat) (xs : List B8) (W : World) (e : Ending) (w' : World) : Prop :=
  e = .returned (.tuple #[.int .i64 0, .bool false, .agg #[.int .i64 0, .int .i64 0, .slice none 0 0, .slice none 0 0, .slice none 0 0, .slice none 0 0, .slice none 0 0]]) ∧ RAt p tm i t sz u A n c xs w' ∧ Ok W w'
theorem mayB_or {x : Lt} {n : Nat} (h : mayB x n = false) : (x.kind != 5) = true ∨ x.size < 0 ∨ 131072 < x.size ∨ x.at_ < 0 ∨ x.size < x.at_ ∨ x.size - x.at_ < (n : Int) := by
  unfold mayB at h
  simp only [Bool.and_eq_false_iff, decide_eq_false_iff_not] at h
  rcases h with h | h | h | h | h | h
  · exact .inl (by simpa using h)
  · exact .inr (.inl (by omega))
  · exact .inr (.inr (.inl (by omega)))
  · exact .inr (.inr (.inr (.inl (by omega))))
  · exact .inr (.inr (.inr (.inr (.inl (by omega)))))
  · exact .inr (.inr (.inr (.inr (.inr (by omega)))))
set_option maxRecDepth 100000 in
set_option maxHeartbeats 4000000 in
theorem rtakeBad (x : Lt) (r : LR) (p : Nat) (tm0 i0 t0 sz0 : Int) (u0 : Bool) (A : Option Addr) (n c : Nat) (xs : List B8) (W : World) (h : RAt p tm0 i0 t0 sz0 u0 A n c xs W) (hb : mayB x r.bn = false) :
    Calls Try.prog 78 #[.pointer (some ⟨p, 0, none⟩), .agg #[.int .u8 x.kind, .int .i64 x.group, .int .i64 x.from_, .int .i64 x.to_, .int .i64 x.term, .int .i64 x.index, .int .i64 x.logterm, .int .i64 x.commit, .bool x.ok, .slice r.eA x.es.length r.ec, .int .i64 x.bi, .int .i64 x.bt, .slice r.s.A0 r.s.n0 r.s.c0, .slice r.s.A1 r.s.n1 r.s.c1, .slice r.s.A2 r.s.n2 r.s.c2, .slice r.s.A3 r.s.n3 r.s.c3, .int .i64 x.size, .int .i64 x.at_, .int .i64 x.tag, .slice r.bA r.bn r.bc]] W (RNo p tm0 i0 t0 sz0 u0 A n c xs W) := by
  have HB := Lib.hid (mayB_or hb)
  clear hb
  have HO : Hid (Ok W ((W.alloc (.cells #[.int .u8 x.kind, .int .i64 x.group, .int .i64 x.from_, .int .i64 x.to_, .int .i64 x.term, .int .i64 x.index, .int .i64 x.logterm, .int .i64 x.commit, .bool x.ok, .slice r.eA x.es.length r.ec, .int .i64 x.bi, .int .i64 x.bt, .slice r.s.A0 r.s.n0 r.s.c0, .slice r.s.A1 r.s.n1 r.s.c1, .slice r.s.A2 r.s.n2 r.s.c2, .slice r.s.A3 r.s.n3 r.s.c3, .int .i64 x.size, .int .i64 x.at_, .int .i64 x.tag, .slice r.bA r.bn r.bc] 95)).alloc (.cells #[.int .i64 0, .int .i64 0, .slice none 0 0, .slice none 0 0, .slice none 0 0, .slice none 0 0, .slice none 0 0] 97))) := Lib.hid (((Ok.refl W).alloc _).alloc _)
  have HF : Hid (RAt p tm0 i0 t0 sz0 u0 A n c xs ((W.alloc (.cells #[.int .u8 x.kind, .int .i64 x.group, .int .i64 x.from_, .int .i64 x.to_, .int .i64 x.term, .int .i64 x.index, .int .i64 x.logterm, .int .i64 x.commit, .bool x.ok, .slice r.eA x.es.length r.ec, .int .i64 x.bi, .int .i64 x.bt, .slice r.s.A0 r.s.n0 r.s.c0, .slice r.s.A1 r.s.n1 r.s.c1, .slice r.s.A2 r.s.n2 r.s.c2, .slice r.s.A3 r.s.n3 r.s.c3, .int .i64 x.size, .int .i64 x.at_, .int .i64 x.tag, .slice r.bA r.bn r.bc] 95)).alloc (.cells #[.int .i64 0, .int .i64 0, .slice none 0 0, .slice none 0 0, .slice none 0 0, .slice none 0 0, .slice none 0 0] 97))) := Lib.hid (h.ok HO.out)
  have HX : Hid (((W.alloc (.cells #[.int .u8 x.kind, .int .i64 x.group, .int .i64 x.from_, .int .i64 x.to_, .int .i64 x.term, .int .i64 x.index, .int .i64 x.logterm, .int .i64 x.commit, .bool x.ok, .slice r.eA x.es.length r.ec, .int .i64 x.bi, .int .i64 x.bt, .slice r.s.A0 r.s.n0 r.s.c0, .slice r.s.A1 r.s.n1 r.s.c1, .slice r.s.A2 r.s.n2 r.s.c2, .slice r.s.A3 r.s.n3 r.s.c3, .int .i64 x.size, .int .i64 x.at_, .int .i64 x.tag, .slice r.bA r.bn r.bc] 95)).alloc (.cells #[.int .i64 0, .int .i64 0, .slice none 0 0, .slice none 0 0, .slice none 0 0, .slice none 0 0, .slice none 0 0] 97)).heap[W.heap.size]? = some (.cells #[.int .u8 x.kind, .int .i64 x.group, .int .i64 x.from_, .int .i64 x.to_, .int .i64 x.term, .int .i64 x.index, .int .i64 x.logterm, .int .i64 x.commit, .bool x.ok, .slice r.eA x.es.length r.ec, .int .i64 x.bi, .int .i64 x.bt, .slice r.s.A0 r.s.n0 r.s.c0, .slice r.s.A1 r.s.n1 r.s.c1, .slice r.s.A2 r.s.n2 r.s.c2, .slice r.s.A3 r.s.n3 r.s.c3, .int .i64 x.size, .int .i64 x.at_, .int .i64 x.tag, .slice r.bA r.bn r.bc] 95 (0, 0))) := Lib.hid (blk_old (blk_new rfl))
  have HI : Hid (((W.alloc (.cells #[.int .u8 x.kind, .int .i64 x.group, .int .i64 x.from_, .int .i64 x.to_, .int .i64 x.term, .int .i64 x.index, .int .i64 x.logterm, .int .i64 x.commit, .bool x.ok, .slice r.eA x.es.length r.ec, .int .i64 x.bi, .int .i64 x.bt, .slice r.s.A0 r.s.n0 r.s.c0, .slice r.s.A1 r.s.n1 r.s.c1, .slice r.s.A2 r.s.n2 r.s.c2, .slice r.s.A3 r.s.n3 r.s.c3, .int .i64 x.size, .int .i64 x.at_, .int .i64 x.tag, .slice r.bA r.bn r.bc] 95)).alloc (.cells #[.int .i64 0, .int .i64 0, .slice none 0 0, .slice none 0 0, .slice none 0 0, .slice none 0 0, .slice none 0 0] 97)).heap[W.heap.size + 1]? = some (.cells #[.int .i64 0, .int .i64 0, .slice none 0 0, .slice none 0 0, .slice none 0 0, .slice none 0 0, .slice none 0 0] 97 (0, 0))) := Lib.hid (blk_new (by rw [World.size_alloc]))
  have HOB := Lib.hid h.ownGe
  have HPL := Lib.hid h.lt
  clear h
  go_enter Try.func78, Try.ntmps78
  go_upto_region 1 with fail
  generalize ((W.alloc (.cells #[.int .u8 x.kind, .int .i64 x.group, .int .i64 x.from_, .int .i64 x.to_, .int .i64 x.term, .int .i64 x.index, .int .i64 x.logterm, .int .i64 x.commit, .bool x.ok, .slice r.eA x.es.length r.ec, .int .i64 x.bi, .int .i64 x.bt, .slice r.s.A0 r.s.n0 r.s.c0, .slice r.s.A1 r.s.n1 r.s.c1, .slice r.s.A2 r.s.n2 r.s.c2, .slice r.s.A3 r.s.n3 r.s.c3, .int .i64 x.size, .int .i64 x.at_, .int .i64 x.tag, .slice r.bA r.bn r.bc] 95)).alloc (.cells #[.int .i64 0, .int .i64 0, .slice none 0 0, .slice none 0 0, .slice none 0 0, .slice none 0 0, .slice none 0 0] 97)) = w0 at *
  obtain ⟨g, hg⟩ : ∃ g, W.heap.size = g := ⟨_, rfl⟩
  have HG := Lib.hid hg
  rw [hg] at HX HI HOB HPL ⊢
  clear hg
  have a0 : w0.cell? ⟨g, 0, none⟩ = some (.int .u8 x.kind) := (cell_of_heap HX.out 0).trans rfl
  have a16 : w0.cell? ⟨g, 16, none⟩ = some (.int .i64 x.size) := (cell_of_heap HX.out 16).trans rfl
  have a17 : w0.cell? ⟨g, 17, none⟩ = some (.int .i64 x.at_) := (cell_of_heap HX.out 17).trans rfl
  have a19 : w0.cell? ⟨g, 19, none⟩ = some (.slice r.bA r.bn r.bc) := (cell_of_heap HX.out 19).trans rfl
  cases k0 : (x.kind != 5) with
  | true =>
    clear HB
    have z0 : w0.cell? ⟨g + 1, 0, none⟩ = some (.int .i64 0) := (cell_of_heap HI.out 0).trans rfl
    have y0 : w0.frozen? ⟨g + 1, 0, none⟩ = false := frz_raw HI.out 0
    have z1 : w0.cell? ⟨g + 1, 1, none⟩ = some (.int .i64 0) := (cell_of_heap HI.out 1).trans rfl
    have y1 : w0.frozen? ⟨g + 1, 1, none⟩ = false := frz_raw HI.out 1
    have z2 : w0.cell? ⟨g + 1, 2, none⟩ = some (.slice none 0 0) := (cell_of_heap HI.out 2).trans rfl
    have y2 : w0.frozen? ⟨g + 1, 2, none⟩ = false := frz_raw HI.out 2
    have z3 : w0.cell? ⟨g + 1, 3, none⟩ = some (.slice none 0 0) := (cell_of_heap HI.out 3).trans rfl
    have y3 : w0.frozen? ⟨g + 1, 3, none⟩ = false := frz_raw HI.out 3
    have z4 : w0.cell? ⟨g + 1, 4, none⟩ = some (.slice none 0 0) := (cell_of_heap HI.out 4).trans rfl
    have y4 : w0.frozen? ⟨g + 1, 4, none⟩ = false := frz_raw HI.out 4
    have z5 : w0.cell? ⟨g + 1, 5, none⟩ = some (.slice none 0 0) := (cell_of_heap HI.out 5).trans rfl
    have y5 : w0.frozen? ⟨g + 1, 5, none⟩ = false := frz_raw HI.out 5
    have z6 : w0.cell? ⟨g + 1, 6, none⟩ = some (.slice none 0 0) := (cell_of_heap HI.out 6).trans rfl
    have y6 : w0.frozen? ⟨g + 1, 6, none⟩ = false := frz_raw HI.out 6
    go_upto_region 2 with fail
    go_wp2_with fail
    refine bodyPost_ret (v := .tuple #[.int .i64 0, .bool false, .agg #[.int .i64 0, .int .i64 0, .slice none 0 0, .slice none 0 0, .slice none 0 0, .slice none 0 0, .slice none 0 0]]) (by simp [results, Try.results78, go_sem, z0, z1, z2, z3, z4, z5, z6]; try rfl) rfl ?_
    clear z0 z1 z2 z3 z4 z5 z6 y0 y1 y2 y3 y4 y5 y6
    have hn1 : g + 1 ≠ p := by have := HPL.out; omega
    have hn2 : (Value.slice A n c).ownBlock ≠ some (g + 1) := fun e => by have := HOB.out _ e; omega
    refine ⟨rfl, ?_, ?_⟩
    · (repeat (refine RAt.far ?_ (g + 1) _ _ hn1 hn2)); exact HF.out
    · have hgW : W.heap.size ≤ g + 1 := by have := HG.out; omega
      show Below W.heap.size W _
      (repeat (refine Below.setCell ?_ hgW _)); exact HO.out
  | false =>
  cases d4 : decide (x.size < (0 : Int)) with
  | true =>
    clear HB
    have z0 : w0.cell? ⟨g + 1, 0, none⟩ = some (.int .i64 0) := (cell_of_heap HI.out 0).trans rfl
    have y0 : w0.frozen? ⟨g + 1, 0, none⟩ = false := frz_raw HI.out 0
    have z1 : w0.cell? ⟨g + 1, 1, none⟩ = some (.int .i64 0) := (cell_of_heap HI.out 1).trans rfl
    have y1 : w0.frozen? ⟨g + 1, 1, none⟩ = false := frz_raw HI.out 1
    have z2 : w0.cell? ⟨g + 1, 2, none⟩ = some (.slice none 0 0) := (cell_of_heap HI.out 2).trans rfl
    have y2 : w0.frozen? ⟨g + 1, 2, none⟩ = false := frz_raw HI.out 2
    have z3 : w0.cell? ⟨g + 1, 3, none⟩ = some (.slice none 0 0) := (cell_of_heap HI.out 3).trans rfl
    have y3 : w0.frozen? ⟨g + 1, 3, none⟩ = false := frz_raw HI.out 3
    have z4 : w0.cell? ⟨g + 1, 4, none⟩ = some (.slice none 0 0) := (cell_of_heap HI.out 4).trans rfl
    have y4 : w0.frozen? ⟨g + 1, 4, none⟩ = false := frz_raw HI.out 4
    have z5 : w0.cell? ⟨g + 1, 5, none⟩ = some (.slice none 0 0) := (cell_of_heap HI.out 5).trans rfl
    have y5 : w0.frozen? ⟨g + 1, 5, none⟩ = false := frz_raw HI.out 5
    have z6 : w0.cell? ⟨g + 1, 6, none⟩ = some (.slice none 0 0) := (cell_of_heap HI.out 6).trans rfl
    have y6 : w0.frozen? ⟨g + 1, 6, none⟩ = false := frz_raw HI.out 6
    go_upto_region 2 with fail
    go_wp2_with fail
    refine bodyPost_ret (v := .tuple #[.int .i64 0, .bool false, .agg #[.int .i64 0, .int .i64 0, .slice none 0 0, .slice none 0 0, .slice none 0 0, .slice none 0 0, .slice none 0 0]]) (by simp [results, Try.results78, go_sem, z0, z1, z2, z3, z4, z5, z6]; try rfl) rfl ?_
    clear z0 z1 z2 z3 z4 z5 z6 y0 y1 y2 y3 y4 y5 y6
    have hn1 : g + 1 ≠ p := by have := HPL.out; omega
    have hn2 : (Value.slice A n c).ownBlock ≠ some (g + 1) := fun e => by have := HOB.out _ e; omega
    refine ⟨rfl, ?_, ?_⟩
    · (repeat (refine RAt.far ?_ (g + 1) _ _ hn1 hn2)); exact HF.out
    · have hgW : W.heap.size ≤ g + 1 := by have := HG.out; omega
      show Below W.heap.size W _
      (repeat (refine Below.setCell ?_ hgW _)); exact HO.out
  | false =>
  have hd4 := of_decide_eq_false d4
  cases d1 : decide ((131072 : Int) < x.size) with
  | true =>
    clear HB
    have z0 : w0.cell? ⟨g + 1, 0, none⟩ = some (.int .i64 0) := (cell_of_heap HI.out 0).trans rfl
    have y0 : w0.frozen? ⟨g + 1, 0, none⟩ = false := frz_raw HI.out 0
    have z1 : w0.cell? ⟨g + 1, 1, none⟩ = some (.int .i64 0) := (cell_of_heap HI.out 1).trans rfl
    have y1 : w0.frozen? ⟨g + 1, 1, none⟩ = false := frz_raw HI.out 1
    have z2 : w0.cell? ⟨g + 1, 2, none⟩ = some (.slice none 0 0) := (cell_of_heap HI.out 2).trans rfl
    have y2 : w0.frozen? ⟨g + 1, 2, none⟩ = false := frz_raw HI.out 2
    have z3 : w0.cell? ⟨g + 1, 3, none⟩ = some (.slice none 0 0) := (cell_of_heap HI.out 3).trans rfl
    have y3 : w0.frozen? ⟨g + 1, 3, none⟩ = false := frz_raw HI.out 3
    have z4 : w0.cell? ⟨g + 1, 4, none⟩ = some (.slice none 0 0) := (cell_of_heap HI.out 4).trans rfl
    have y4 : w0.frozen? ⟨g + 1, 4, none⟩ = false := frz_raw HI.out 4
    have z5 : w0.cell? ⟨g + 1, 5, none⟩ = some (.slice none 0 0) := (cell_of_heap HI.out 5).trans rfl
    have y5 : w0.frozen? ⟨g + 1, 5, none⟩ = false := frz_raw HI.out 5
    have z6 : w0.cell? ⟨g + 1, 6, none⟩ = some (.slice none 0 0) := (cell_of_heap HI.out 6).trans rfl
    have y6 : w0.frozen? ⟨g + 1, 6, none⟩ = false := frz_raw HI.out 6
    go_upto_region 2 with fail
    go_wp2_with fail
    refine bodyPost_ret (v := .tuple #[.int .i64 0, .bool false, .agg #[.int .i64 0, .int .i64 0, .slice none 0 0, .slice none 0 0, .slice none 0 0, .slice none 0 0, .slice none 0 0]]) (by simp [results, Try.results78, go_sem, z0, z1, z2, z3, z4, z5, z6]; try rfl) rfl ?_
    clear z0 z1 z2 z3 z4 z5 z6 y0 y1 y2 y3 y4 y5 y6
    have hn1 : g + 1 ≠ p := by have := HPL.out; omega
    have hn2 : (Value.slice A n c).ownBlock ≠ some (g + 1) := fun e => by have := HOB.out _ e; omega
    refine ⟨rfl, ?_, ?_⟩
    · (repeat (refine RAt.far ?_ (g + 1) _ _ hn1 hn2)); exact HF.out
    · have hgW : W.heap.size ≤ g + 1 := by have := HG.out; omega
      show Below W.heap.size W _
      (repeat (refine Below.setCell ?_ hgW _)); exact HO.out
  | false =>
  have hd1 := of_decide_eq_false d1
  cases d5 : decide (x.at_ < (0 : Int)) with
  | true =>
    clear HB
    have z0 : w0.cell? ⟨g + 1, 0, none⟩ = some (.int .i64 0) := (cell_of_heap HI.out 0).trans rfl
    have y0 : w0.frozen? ⟨g + 1, 0, none⟩ = false := frz_raw HI.out 0
    have z1 : w0.cell? ⟨g + 1, 1, none⟩ = some (.int .i64 0) := (cell_of_heap HI.out 1).trans rfl
    have y1 : w0.frozen? ⟨g + 1, 1, none⟩ = false := frz_raw HI.out 1
    have z2 : w0.cell? ⟨g + 1, 2, none⟩ = some (.slice none 0 0) := (cell_of_heap HI.out 2).trans rfl
    have y2 : w0.frozen? ⟨g + 1, 2, none⟩ = false := frz_raw HI.out 2
    have z3 : w0.cell? ⟨g + 1, 3, none⟩ = some (.slice none 0 0) := (cell_of_heap HI.out 3).trans rfl
    have y3 : w0.frozen? ⟨g + 1, 3, none⟩ = false := frz_raw HI.out 3
    have z4 : w0.cell? ⟨g + 1, 4, none⟩ = some (.slice none 0 0) := (cell_of_heap HI.out 4).trans rfl
    have y4 : w0.frozen? ⟨g + 1, 4, none⟩ = false := frz_raw HI.out 4
    have z5 : w0.cell? ⟨g + 1, 5, none⟩ = some (.slice none 0 0) := (cell_of_heap HI.out 5).trans rfl
    have y5 : w0.frozen? ⟨g + 1, 5, none⟩ = false := frz_raw HI.out 5
    have z6 : w0.cell? ⟨g + 1, 6, none⟩ = some (.slice none 0 0) := (cell_of_heap HI.out 6).trans rfl
    have y6 : w0.frozen? ⟨g + 1, 6, none⟩ = false := frz_raw HI.out 6
    go_upto_region 2 with fail
    go_wp2_with fail
    refine bodyPost_ret (v := .tuple #[.int .i64 0, .bool false, .agg #[.int .i64 0, .int .i64 0, .slice none 0 0, .slice none 0 0, .slice none 0 0, .slice none 0 0, .slice none 0 0]]) (by simp [results, Try.results78, go_sem, z0, z1, z2, z3, z4, z5, z6]; try rfl) rfl ?_
    clear z0 z1 z2 z3 z4 z5 z6 y0 y1 y2 y3 y4 y5 y6
    have hn1 : g + 1 ≠ p := by have := HPL.out; omega
    have hn2 : (Value.slice A n c).ownBlock ≠ some (g + 1) := fun e => by have := HOB.out _ e; omega
    refine ⟨rfl, ?_, ?_⟩
    · (repeat (refine RAt.far ?_ (g + 1) _ _ hn1 hn2)); exact HF.out
    · have hgW : W.heap.size ≤ g + 1 := by have := HG.out; omega
      show Below W.heap.size W _
      (repeat (refine Below.setCell ?_ hgW _)); exact HO.out
  | false =>
  have hd5 := of_decide_eq_false d5
  cases d2 : decide (x.size < x.at_) with
  | true =>
    clear HB
    have z0 : w0.cell? ⟨g + 1, 0, none⟩ = some (.int .i64 0) := (cell_of_heap HI.out 0).trans rfl
    have y0 : w0.frozen? ⟨g + 1, 0, none⟩ = false := frz_raw HI.out 0
    have z1 : w0.cell? ⟨g + 1, 1, none⟩ = some (.int .i64 0) := (cell_of_heap HI.out 1).trans rfl
    have y1 : w0.frozen? ⟨g + 1, 1, none⟩ = false := frz_raw HI.out 1
    have z2 : w0.cell? ⟨g + 1, 2, none⟩ = some (.slice none 0 0) := (cell_of_heap HI.out 2).trans rfl
    have y2 : w0.frozen? ⟨g + 1, 2, none⟩ = false := frz_raw HI.out 2
    have z3 : w0.cell? ⟨g + 1, 3, none⟩ = some (.slice none 0 0) := (cell_of_heap HI.out 3).trans rfl
    have y3 : w0.frozen? ⟨g + 1, 3, none⟩ = false := frz_raw HI.out 3
    have z4 : w0.cell? ⟨g + 1, 4, none⟩ = some (.slice none 0 0) := (cell_of_heap HI.out 4).trans rfl
    have y4 : w0.frozen? ⟨g + 1, 4, none⟩ = false := frz_raw HI.out 4
    have z5 : w0.cell? ⟨g + 1, 5, none⟩ = some (.slice none 0 0) := (cell_of_heap HI.out 5).trans rfl
    have y5 : w0.frozen? ⟨g + 1, 5, none⟩ = false := frz_raw HI.out 5
    have z6 : w0.cell? ⟨g + 1, 6, none⟩ = some (.slice none 0 0) := (cell_of_heap HI.out 6).trans rfl
    have y6 : w0.frozen? ⟨g + 1, 6, none⟩ = false := frz_raw HI.out 6
    go_upto_region 2 with fail
    go_wp2_with fail
    refine bodyPost_ret (v := .tuple #[.int .i64 0, .bool false, .agg #[.int .i64 0, .int .i64 0, .slice none 0 0, .slice none 0 0, .slice none 0 0, .slice none 0 0, .slice none 0 0]]) (by simp [results, Try.results78, go_sem, z0, z1, z2, z3, z4, z5, z6]; try rfl) rfl ?_
    clear z0 z1 z2 z3 z4 z5 z6 y0 y1 y2 y3 y4 y5 y6
    have hn1 : g + 1 ≠ p := by have := HPL.out; omega
    have hn2 : (Value.slice A n c).ownBlock ≠ some (g + 1) := fun e => by have := HOB.out _ e; omega
    refine ⟨rfl, ?_, ?_⟩
    · (repeat (refine RAt.far ?_ (g + 1) _ _ hn1 hn2)); exact HF.out
    · have hgW : W.heap.size ≤ g + 1 := by have := HG.out; omega
      show Below W.heap.size W _
      (repeat (refine Below.setCell ?_ hgW _)); exact HO.out
  | false =>
  have hd2 := of_decide_eq_false d2
  cases d3 : decide (x.size - x.at_ < (r.bn : Int)) with
  | true =>
    clear HB
    have z0 : w0.cell? ⟨g + 1, 0, none⟩ = some (.int .i64 0) := (cell_of_heap HI.out 0).trans rfl
    have y0 : w0.frozen? ⟨g + 1, 0, none⟩ = false := frz_raw HI.out 0
    have z1 : w0.cell? ⟨g + 1, 1, none⟩ = some (.int .i64 0) := (cell_of_heap HI.out 1).trans rfl
    have y1 : w0.frozen? ⟨g + 1, 1, none⟩ = false := frz_raw HI.out 1
    have z2 : w0.cell? ⟨g + 1, 2, none⟩ = some (.slice none 0 0) := (cell_of_heap HI.out 2).trans rfl
    have y2 : w0.frozen? ⟨g + 1, 2, none⟩ = false := frz_raw HI.out 2
    have z3 : w0.cell? ⟨g + 1, 3, none⟩ = some (.slice none 0 0) := (cell_of_heap HI.out 3).trans rfl
    have y3 : w0.frozen? ⟨g + 1, 3, none⟩ = false := frz_raw HI.out 3
    have z4 : w0.cell? ⟨g + 1, 4, none⟩ = some (.slice none 0 0) := (cell_of_heap HI.out 4).trans rfl
    have y4 : w0.frozen? ⟨g + 1, 4, none⟩ = false := frz_raw HI.out 4
    have z5 : w0.cell? ⟨g + 1, 5, none⟩ = some (.slice none 0 0) := (cell_of_heap HI.out 5).trans rfl
    have y5 : w0.frozen? ⟨g + 1, 5, none⟩ = false := frz_raw HI.out 5
    have z6 : w0.cell? ⟨g + 1, 6, none⟩ = some (.slice none 0 0) := (cell_of_heap HI.out 6).trans rfl
    have y6 : w0.frozen? ⟨g + 1, 6, none⟩ = false := frz_raw HI.out 6
    go_upto_region 2 with fail
    go_wp2_with fail
    refine bodyPost_ret (v := .tuple #[.int .i64 0, .bool false, .agg #[.int .i64 0, .int .i64 0, .slice none 0 0, .slice none 0 0, .slice none 0 0, .slice none 0 0, .slice none 0 0]]) (by simp [results, Try.results78, go_sem, z0, z1, z2, z3, z4, z5, z6]; try rfl) rfl ?_
    clear z0 z1 z2 z3 z4 z5 z6 y0 y1 y2 y3 y4 y5 y6
    have hn1 : g + 1 ≠ p := by have := HPL.out; omega
    have hn2 : (Value.slice A n c).ownBlock ≠ some (g + 1) := fun e => by have := HOB.out _ e; omega
    refine ⟨rfl, ?_, ?_⟩
    · (repeat (refine RAt.far ?_ (g + 1) _ _ hn1 hn2)); exact HF.out
    · have hgW : W.heap.size ≤ g + 1 := by have := HG.out; omega
      show Below W.heap.size W _
      (repeat (refine Below.setCell ?_ hgW _)); exact HO.out
  | false =>
  have hd3 := of_decide_eq_false d3
  exfalso
  rcases HB.out with h | h | h | h | h | h
  · rw [k0] at h; cases h
  · omega
  · omega
  · omega
  · omega
  · omega
end Go.Proofs.Ytolfdncmlfnbdaa
