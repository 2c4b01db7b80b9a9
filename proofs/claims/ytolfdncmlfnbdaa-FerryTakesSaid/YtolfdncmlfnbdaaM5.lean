/- The document's ferry takes a piece. -/
import Derived.Test.YtolfdncmlfnbdaaM4
namespace Go.Proofs.Ytolfdncmlfnbdaa
open Go.RowKit
theorem mayB_and {x : Lt} {n : Nat} (h : mayB x n = true) : (x.kind != 5) = false ∧ ∃ L a : Nat, x.size = (L : Int) ∧ x.at_ = (a : Int) ∧ L ≤ 131072 ∧ a ≤ L ∧ n ≤ L - a := by
  unfold mayB at h
  simp only [Bool.and_eq_true, decide_eq_true_eq] at h
  obtain ⟨h0, h1, h2, h3, h4, h5⟩ := h
  exact ⟨by simpa using h0, x.size.toNat, x.at_.toNat, by omega, by omega, by omega, by omega, by omega⟩
set_option maxRecDepth 100000 in
set_option maxHeartbeats 1000000 in
theorem rtakeNo (x : Lt) (r : LR) (p : Nat) (tm0 i0 t0 sz0 : Int) (u0 : Bool) (A : Option Addr) (n c : Nat) (xs : List B8) (W : World) (L a : Nat) (h : RAt p tm0 i0 t0 sz0 u0 A n c xs W) (hk0 : (x.kind != 5) = false) (hsz : x.size = (L : Int)) (hat : x.at_ = (a : Int)) (h1 : L ≤ 131072) (h2 : a ≤ L) (h3 : r.bn ≤ L - a) (hne : crossB tm0 i0 t0 sz0 u0 x.term x.bi x.bt x.size = false) (ha0 : 0 < a) :
    Calls Try.prog 78 #[.pointer (some ⟨p, 0, none⟩), .agg #[.int .u8 x.kind, .int .i64 x.group, .int .i64 x.from_, .int .i64 x.to_, .int .i64 x.term, .int .i64 x.index, .int .i64 x.logterm, .int .i64 x.commit, .bool x.ok, .slice r.eA x.es.length r.ec, .int .i64 x.bi, .int .i64 x.bt, .slice r.s.A0 r.s.n0 r.s.c0, .slice r.s.A1 r.s.n1 r.s.c1, .slice r.s.A2 r.s.n2 r.s.c2, .slice r.s.A3 r.s.n3 r.s.c3, .int .i64 x.size, .int .i64 x.at_, .int .i64 x.tag, .slice r.bA r.bn r.bc]] W (RNo p tm0 i0 t0 sz0 u0 A n c xs W) := by
  rw [hsz] at hne
  have HNE := Lib.hid hne
  clear hne
  have HK0 := Lib.hid hk0
  have HSZX := Lib.hid hsz
  have HATX := Lib.hid hat
  clear hk0 hsz hat
  have HO : Hid (Ok W ((W.alloc (.cells #[.int .u8 x.kind, .int .i64 x.group, .int .i64 x.from_, .int .i64 x.to_, .int .i64 x.term, .int .i64 x.index, .int .i64 x.logterm, .int .i64 x.commit, .bool x.ok, .slice r.eA x.es.length r.ec, .int .i64 x.bi, .int .i64 x.bt, .slice r.s.A0 r.s.n0 r.s.c0, .slice r.s.A1 r.s.n1 r.s.c1, .slice r.s.A2 r.s.n2 r.s.c2, .slice r.s.A3 r.s.n3 r.s.c3, .int .i64 x.size, .int .i64 x.at_, .int .i64 x.tag, .slice r.bA r.bn r.bc] 95)).alloc (.cells #[.int .i64 0, .int .i64 0, .slice none 0 0, .slice none 0 0, .slice none 0 0, .slice none 0 0, .slice none 0 0] 97))) := Lib.hid (((Ok.refl W).alloc _).alloc _)
  have HF : Hid (RAt p tm0 i0 t0 sz0 u0 A n c xs ((W.alloc (.cells #[.int .u8 x.kind, .int .i64 x.group, .int .i64 x.from_, .int .i64 x.to_, .int .i64 x.term, .int .i64 x.index, .int .i64 x.logterm, .int .i64 x.commit, .bool x.ok, .slice r.eA x.es.length r.ec, .int .i64 x.bi, .int .i64 x.bt, .slice r.s.A0 r.s.n0 r.s.c0, .slice r.s.A1 r.s.n1 r.s.c1, .slice r.s.A2 r.s.n2 r.s.c2, .slice r.s.A3 r.s.n3 r.s.c3, .int .i64 x.size, .int .i64 x.at_, .int .i64 x.tag, .slice r.bA r.bn r.bc] 95)).alloc (.cells #[.int .i64 0, .int .i64 0, .slice none 0 0, .slice none 0 0, .slice none 0 0, .slice none 0 0, .slice none 0 0] 97))) := Lib.hid (h.ok HO.out)
  have HX : Hid (((W.alloc (.cells #[.int .u8 x.kind, .int .i64 x.group, .int .i64 x.from_, .int .i64 x.to_, .int .i64 x.term, .int .i64 x.index, .int .i64 x.logterm, .int .i64 x.commit, .bool x.ok, .slice r.eA x.es.length r.ec, .int .i64 x.bi, .int .i64 x.bt, .slice r.s.A0 r.s.n0 r.s.c0, .slice r.s.A1 r.s.n1 r.s.c1, .slice r.s.A2 r.s.n2 r.s.c2, .slice r.s.A3 r.s.n3 r.s.c3, .int .i64 x.size, .int .i64 x.at_, .int .i64 x.tag, .slice r.bA r.bn r.bc] 95)).alloc (.cells #[.int .i64 0, .int .i64 0, .slice none 0 0, .slice none 0 0, .slice none 0 0, .slice none 0 0, .slice none 0 0] 97)).heap[W.heap.size]? = some (.cells #[.int .u8 x.kind, .int .i64 x.group, .int .i64 x.from_, .int .i64 x.to_, .int .i64 x.term, .int .i64 x.index, .int .i64 x.logterm, .int .i64 x.commit, .bool x.ok, .slice r.eA x.es.length r.ec, .int .i64 x.bi, .int .i64 x.bt, .slice r.s.A0 r.s.n0 r.s.c0, .slice r.s.A1 r.s.n1 r.s.c1, .slice r.s.A2 r.s.n2 r.s.c2, .slice r.s.A3 r.s.n3 r.s.c3, .int .i64 x.size, .int .i64 x.at_, .int .i64 x.tag, .slice r.bA r.bn r.bc] 95 (0, 0))) := Lib.hid (blk_old (blk_new rfl))
  have HI : Hid (((W.alloc (.cells #[.int .u8 x.kind, .int .i64 x.group, .int .i64 x.from_, .int .i64 x.to_, .int .i64 x.term, .int .i64 x.index, .int .i64 x.logterm, .int .i64 x.commit, .bool x.ok, .slice r.eA x.es.length r.ec, .int .i64 x.bi, .int .i64 x.bt, .slice r.s.A0 r.s.n0 r.s.c0, .slice r.s.A1 r.s.n1 r.s.c1, .slice r.s.A2 r.s.n2 r.s.c2, .slice r.s.A3 r.s.n3 r.s.c3, .int .i64 x.size, .int .i64 x.at_, .int .i64 x.tag, .slice r.bA r.bn r.bc] 95)).alloc (.cells #[.int .i64 0, .int .i64 0, .slice none 0 0, .slice none 0 0, .slice none 0 0, .slice none 0 0, .slice none 0 0] 97)).heap[W.heap.size + 1]? = some (.cells #[.int .i64 0, .int .i64 0, .slice none 0 0, .slice none 0 0, .slice none 0 0, .slice none 0 0, .slice none 0 0] 97 (0, 0))) := Lib.hid (blk_new (by rw [World.size_alloc]))
  have HOB := Lib.hid h.ownGe
  have HPL := Lib.hid h.lt
  clear h
  go_enter Try.func78, Try.ntmps78
  go_upto_region 1 with fail
  generalize ((W.alloc (.cells #[.int .u8 x.kind, .int .i64 x.group, .int .i64 x.from_, .int .i64 x.to_, .int .i64 x.term, .int .i64 x.index, .int .i64 x.logterm, .int .i64 x.commit, .bool x.ok, .slice r.eA x.es.length r.ec, .int .i64 x.bi, .int .i64 x.bt, .slice r.s.A0 r.s.n0 r.s.c0, .slice r.s.A1 r.s.n1 r.s.c1, .slice r.s.A2 r.s.n2 r.s.c2, .slice r.s.A3 r.s.n3 r.s.c3, .int .i64 x.size, .int .i64 x.at_, .int .i64 x.tag, .slice r.bA r.bn r.bc] 95)).alloc (.cells #[.int .i64 0, .int .i64 0, .slice none 0 0, .slice none 0 0, .slice none 0 0, .slice none 0 0, .slice none 0 0] 97)) = w0 at *
  obtain ⟨g, hg⟩ : ∃ g, W.heap.size = g := ⟨_, rfl⟩
  have HG := Lib.hid hg
  rw [hg] at HX HI HOB HPL ⊢
  clear hg
  have a0 : w0.cell? ⟨g, 0, none⟩ = some (.int .u8 x.kind) := (cell_of_heap HX.out 0).trans rfl
  have a16 : w0.cell? ⟨g, 16, none⟩ = some (.int .i64 (L : Int)) := HSZX.out ▸ (cell_of_heap HX.out 16).trans rfl
  have a17 : w0.cell? ⟨g, 17, none⟩ = some (.int .i64 (a : Int)) := HATX.out ▸ (cell_of_heap HX.out 17).trans rfl
  have a19 : w0.cell? ⟨g, 19, none⟩ = some (.slice r.bA r.bn r.bc) := (cell_of_heap HX.out 19).trans rfl
  have k0 := HK0.out
  have d4 : decide ((L : Int) < (0 : Int)) = false := decide_eq_false (by omega)
  have d1 : decide ((131072 : Int) < (L : Int)) = false := decide_eq_false (by omega)
  have d5 : decide ((a : Int) < (0 : Int)) = false := decide_eq_false (by omega)
  have d2 : decide (L < a) = false := decide_eq_false (by omega)
  have d3 : decide ((L : Int) - (a : Int) < (r.bn : Int)) = false := decide_eq_false (by omega)
  have p0 := HF.out.c0
  have p1 := HF.out.c1
  have p2 := HF.out.c2
  have p3 := HF.out.c3
  have p4 := HF.out.c4
  have a4 : w0.cell? ⟨g, 4, none⟩ = some (.int .i64 x.term) := (cell_of_heap HX.out 4).trans rfl
  have a10 : w0.cell? ⟨g, 10, none⟩ = some (.int .i64 x.bi) := (cell_of_heap HX.out 10).trans rfl
  have a11 : w0.cell? ⟨g, 11, none⟩ = some (.int .i64 x.bt) := (cell_of_heap HX.out 11).trans rfl
  go_upto_region 3 with fail
  clear k0 d4 d1 d5 d2 d3 a0 a19
  go_cut [88] from 46 to 88 (fun v wx => v = .bool true ∧ wx = w0.drew)
  case first =>
    cases hu : u0 with
    | false =>
      rw [hu] at p0
      go_region
      all_goals (go_wp2_with fail; go_meet; exact ⟨rfl, rfl⟩)
    | true =>
    rw [hu] at p0
    cases e1 : (tm0 != x.term) with
    | true =>
      go_region
      all_goals (go_wp2_with fail; go_meet; exact ⟨rfl, rfl⟩)
    | false =>
    cases e2 : (i0 != x.bi) with
    | true =>
      go_region
      all_goals (go_wp2_with fail; go_meet; exact ⟨rfl, rfl⟩)
    | false =>
    cases e3 : (t0 != x.bt) with
    | true =>
      go_region
      all_goals (go_wp2_with fail; go_meet; exact ⟨rfl, rfl⟩)
    | false =>
    cases e4 : (sz0 != (L : Int)) with
    | true =>
      go_region
      all_goals (go_wp2_with fail; go_meet; exact ⟨rfl, rfl⟩)
    | false =>
    exfalso
    have h := HNE.out
    have q1 : tm0 = x.term := by simpa using e1
    have q2 : i0 = x.bi := by simpa using e2
    have q3 : t0 = x.bt := by simpa using e3
    have q4 : sz0 = (L : Int) := by simpa using e4
    rw [hu, q1, q2, q3, q4] at h
    simp [crossB] at h
  case rest =>
  obtain ⟨rfl, rfl⟩ := hcut
  clear p0 p1 p2 p3 p4 a4 a10 a11 a16
  have HOD : Hid (Ok w0 w0.drew) := Lib.hid (Ok.refl w0).drew
  have HI2 := Lib.hid (blk_ok HOD.out HI.out)
  have HF2 := Lib.hid (HF.out.ok HOD.out)
  have HO2 := Lib.hid (HO.out.trans HOD.out)
  replace a17 := HOD.out.cell a17
  generalize w0.drew = w1 at *
  have dn : ((a : Int) != (0 : Int)) = true := by simp; omega
  have z0 : w1.cell? ⟨g + 1, 0, none⟩ = some (.int .i64 0) := (cell_of_heap HI2.out 0).trans rfl
  have y0 : w1.frozen? ⟨g + 1, 0, none⟩ = false := frz_raw HI2.out 0
  have z1 : w1.cell? ⟨g + 1, 1, none⟩ = some (.int .i64 0) := (cell_of_heap HI2.out 1).trans rfl
  have y1 : w1.frozen? ⟨g + 1, 1, none⟩ = false := frz_raw HI2.out 1
  have z2 : w1.cell? ⟨g + 1, 2, none⟩ = some (.slice none 0 0) := (cell_of_heap HI2.out 2).trans rfl
  have y2 : w1.frozen? ⟨g + 1, 2, none⟩ = false := frz_raw HI2.out 2
  have z3 : w1.cell? ⟨g + 1, 3, none⟩ = some (.slice none 0 0) := (cell_of_heap HI2.out 3).trans rfl
  have y3 : w1.frozen? ⟨g + 1, 3, none⟩ = false := frz_raw HI2.out 3
  have z4 : w1.cell? ⟨g + 1, 4, none⟩ = some (.slice none 0 0) := (cell_of_heap HI2.out 4).trans rfl
  have y4 : w1.frozen? ⟨g + 1, 4, none⟩ = false := frz_raw HI2.out 4
  have z5 : w1.cell? ⟨g + 1, 5, none⟩ = some (.slice none 0 0) := (cell_of_heap HI2.out 5).trans rfl
  have y5 : w1.frozen? ⟨g + 1, 5, none⟩ = false := frz_raw HI2.out 5
  have z6 : w1.cell? ⟨g + 1, 6, none⟩ = some (.slice none 0 0) := (cell_of_heap HI2.out 6).trans rfl
  have y6 : w1.frozen? ⟨g + 1, 6, none⟩ = false := frz_raw HI2.out 6
  go_upto_region 5 with fail
  go_wp2_with fail
  refine bodyPost_ret (v := .tuple #[.int .i64 0, .bool false, .agg #[.int .i64 0, .int .i64 0, .slice none 0 0, .slice none 0 0, .slice none 0 0, .slice none 0 0, .slice none 0 0]]) (by simp [results, Try.results78, go_sem, z0, z1, z2, z3, z4, z5, z6]; try rfl) rfl ?_
  clear z0 z1 z2 z3 z4 z5 z6 y0 y1 y2 y3 y4 y5 y6
  have hn1 : g + 1 ≠ p := by have := HPL.out; omega
  have hn2 : (Value.slice A n c).ownBlock ≠ some (g + 1) := fun e => by have := HOB.out _ e; omega
  refine ⟨rfl, ?_, ?_⟩
  · (repeat (refine RAt.far ?_ (g + 1) _ _ hn1 hn2)); exact HF2.out
  · have hgW : W.heap.size ≤ g + 1 := by have := HG.out; omega
    show Below W.heap.size W _
    (repeat (refine Below.setCell ?_ hgW _)); exact HO2.out
end Go.Proofs.Ytolfdncmlfnbdaa
