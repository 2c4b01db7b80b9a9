/- Rows of entries, and letters, kept as they were lent. -/
import Derived.Test.YtolfdncmlfnbdaaIh
namespace Go.Proofs.Ytolfdncmlfnbdaa
open Go.RowKit

set_option maxRecDepth 100000 in
set_option maxHeartbeats 8000000 in
theorem keptEntries_w (B : Nat) (A A2 : Option Addr) (n c d : Nat) (l : List En) (hn6 : n ≤ 100000) (W : World) (h : EntsL W B A n c l) (h2 : EntsIn W A2 l) : Calls Try.prog 132 #[.slice A n c, .slice A2 n d] W (Ret W (.bool true)) := by
  obtain ⟨g, rfl, hl, hcap, hat, hmk⟩ := h.at
  have HL := Lib.hid hl
  have HAT := Lib.hid hat
  have HMK := Lib.hid hmk
  have H2 := Lib.hid h2
  have HN6 := Lib.hid hn6
  have e0 : ((n : Int) != (n : Int)) = false := by simp
  have e1 : IntKind.i64.wrap ((n : Int) + 12) = (n : Int) + 12 := IntWalk.i64_in _ (by omega)
  have b0 : (0 : Int) ≤ (n : Int) + 12 := by omega
  have b1 : (n : Int) + 12 ≤ (c : Int) := by omega
  clear h h2 hl hat hmk
  go_enter Try.func132, Try.ntmps132
  go_wp2_with fail
  clear e0 b0 b1 e1 hcap
  go_loopw [6] (fun v wr => ∃ k : Nat, k ≤ n + 12 ∧ v = .int .i64 k ∧ Ok W wr) (fun v _ => n + 12 - (intOf v).toNat)
  case atStart => exact ⟨0, Nat.zero_le _, rfl, Ok.refl _⟩
  case round =>
    obtain ⟨k, hk, rfl, okr⟩ := hrel
    have HO := Lib.hid okr
    clear okr
    have hn6 := HN6.out
    have ek : k < n + 12 → IntKind.i64.wrap ((k : Int) + 1) = (k : Int) + 1 := fun _ => IntWalk.i64_in _ (by omega)
    by_cases hlt : k < n + 12
    · have d1 : decide ((k : Int) < (n : Int) + 12) = true := decide_eq_true (by omega)
      have d1n : decide (k < n + 12) = true := decide_eq_true hlt
      have ek := ek hlt
      have HLT : Hid (n + 12 - ((k : Int) + 1).toNat < n + 12 - (k : Int).toNat) := Lib.hid (by omega)
      have HLK : Hid (k + 1 ≤ n + 12) := Lib.hid hlt
      have i0 : (0 : Int) ≤ (k : Int) := Int.natCast_nonneg _
      have i1 : (k : Int) < (n : Int) + 12 := by omega
      by_cases hkn : k < n
      · have d2 : decide ((k : Int) < (n : Int)) = true := decide_eq_true (by omega)
        have d2n : decide (k < n) = true := decide_eq_true hkn
        have d3 : decide ((k : Int) ≥ (n : Int)) = false := decide_eq_false (by omega)
        have d3n : decide (n ≤ k) = false := decide_eq_false (by omega)
        have i2 : (k : Int) < (n : Int) := by omega
        obtain ⟨r, hr, hc⟩ := HAT.out k hkn
        obtain ⟨b, off, q, rfl, hr2, hq⟩ := H2.out k (by rw [HL.out]; exact hkn)
        have hq1 := fun d os => Calls.regrown_of (keptEntry_w B r q (enA l k) (Go.Sort.grow (redrawn wr d) os) (hr.hi (Hi.ok (HO.out.trans (below_regrown wr d os)))) (hr2.ok (HO.out.trans (below_regrown wr d os))))
        have x0 : wr.cell? ⟨g, k * 7, none⟩ = some (.int .i64 (enA l k).term) := HO.out.cell (hc 0 (by decide))
        have x1 : wr.cell? ⟨g, k * 7 + 1, none⟩ = some (.int .u8 (enA l k).kind) := HO.out.cell (hc 1 (by decide))
        have x2 : wr.cell? ⟨g, k * 7 + 2, none⟩ = some (.slice r.A r.n r.c) := HO.out.cell (hc 2 (by decide))
        have x3 : wr.cell? ⟨g, k * 7 + 3, none⟩ = some (.slice r.s.A0 r.s.n0 r.s.c0) := HO.out.cell (hc 3 (by decide))
        have x4 : wr.cell? ⟨g, k * 7 + 4, none⟩ = some (.slice r.s.A1 r.s.n1 r.s.c1) := HO.out.cell (hc 4 (by decide))
        have x5 : wr.cell? ⟨g, k * 7 + 5, none⟩ = some (.slice r.s.A2 r.s.n2 r.s.c2) := HO.out.cell (hc 5 (by decide))
        have x6 : wr.cell? ⟨g, k * 7 + 6, none⟩ = some (.slice r.s.A3 r.s.n3 r.s.c3) := HO.out.cell (hc 6 (by decide))
        have y0 : wr.cell? ⟨b, off + k * 7, none⟩ = some (.int .i64 (enA l k).term) := HO.out.cell (hq 0 (by decide))
        have y1 : wr.cell? ⟨b, off + k * 7 + 1, none⟩ = some (.int .u8 (enA l k).kind) := HO.out.cell (hq 1 (by decide))
        have y2 : wr.cell? ⟨b, off + k * 7 + 2, none⟩ = some (.slice q.A q.n q.c) := HO.out.cell (hq 2 (by decide))
        have y3 : wr.cell? ⟨b, off + k * 7 + 3, none⟩ = some (.slice q.s.A0 q.s.n0 q.s.c0) := HO.out.cell (hq 3 (by decide))
        have y4 : wr.cell? ⟨b, off + k * 7 + 4, none⟩ = some (.slice q.s.A1 q.s.n1 q.s.c1) := HO.out.cell (hq 4 (by decide))
        have y5 : wr.cell? ⟨b, off + k * 7 + 5, none⟩ = some (.slice q.s.A2 q.s.n2 q.s.c2) := HO.out.cell (hq 5 (by decide))
        have y6 : wr.cell? ⟨b, off + k * 7 + 6, none⟩ = some (.slice q.s.A3 q.s.n3 q.s.c3) := HO.out.cell (hq 6 (by decide))
        generalize enA l k = e at *
        clear hc hq hr hr2 hlt hkn
        unfold ER.val ER.cells at hq1
        have kx0 := cell_regrown x0
        have kx1 := cell_regrown x1
        have kx2 := cell_regrown x2
        have kx3 := cell_regrown x3
        have kx4 := cell_regrown x4
        have kx5 := cell_regrown x5
        have kx6 := cell_regrown x6
        have ky0 := cell_regrown y0
        have ky1 := cell_regrown y1
        have ky2 := cell_regrown y2
        have ky3 := cell_regrown y3
        have ky4 := cell_regrown y4
        have ky5 := cell_regrown y5
        have ky6 := cell_regrown y6
        go_upto_region 7 with fail
        refine wp_region_quiet_below (by kernel_rfl) (by kernel_rfl) ?_
        refine HeldF.out ?_
        repeat (
          refine hqF_step (fun K hK => ?_)
          go_simp
          first
            | (refine hK _ ?_; clear hK K)
            | (apply Exists.intro
               refine ⟨fun _ => ?_, hK _ ?_⟩
               (with_reducible first | exact hq1 _ _)
               clear hK K))
        refine HeldF.mk (wpQuiet_nil ?_)
        intro _ hw'
        obtain ⟨⟨dq, osq⟩, hw''⟩ := hw'
        subst hw''
        have HO2 := Lib.hid (Ok.trans HO.out (below_regrown wr dq osq))
        clear hq1 x0 kx0 x1 kx1 x2 kx2 x3 kx3 x4 kx4 x5 kx5 x6 kx6 y0 ky0 y1 ky1 y2 ky2 y3 ky3 y4 ky4 y5 ky5 y6 ky6
        generalize Go.Sort.grow (redrawn wr dq) osq = w2 at *
        go_wp2_with fail
        exact ⟨⟨k + 1, HLK.out, rfl, HO2.out⟩, HLT.out⟩
      · obtain ⟨j, hj⟩ : ∃ j, k = n + j := ⟨k - n, by omega⟩
        have hj12 : j < 12 := by omega
        have d2 : decide ((k : Int) < (n : Int)) = false := decide_eq_false (by omega)
        have d2n : decide (k < n) = false := decide_eq_false hkn
        have d3 : decide ((k : Int) ≥ (n : Int)) = true := decide_eq_true (by omega)
        have d3n : decide (n ≤ k) = true := decide_eq_true (by omega)
        have s2 : wrap64 ((k : Int) - (n : Int)) = (j : Int) := by simp only [wrap64]; omega
        have s6 : IntKind.i64.wrap ((k : Int) - (n : Int)) = (j : Int) := by simp only [IntKind.wrap_i64]; omega
        have hc := HMK.out j hj12
        rw [← hj] at hc
        have hq1 := fun d os => Calls.regrown_of (markEntry_w j hj12 (Go.Sort.grow (redrawn wr d) os))
        have hq2 := fun d os => Calls.regrown_of (sameEntry_w er0 er0 (markE j) (Go.Sort.grow (redrawn wr d) os) (markE_at _ j) (markE_at _ j))
        have x0 : wr.cell? ⟨g, k * 7, none⟩ = some (.int .i64 (markE j).term) := HO.out.cell (hc 0 (by decide))
        have x1 : wr.cell? ⟨g, k * 7 + 1, none⟩ = some (.int .u8 (markE j).kind) := HO.out.cell (hc 1 (by decide))
        have x2 : wr.cell? ⟨g, k * 7 + 2, none⟩ = some (.slice none 0 0) := HO.out.cell (hc 2 (by decide))
        have x3 : wr.cell? ⟨g, k * 7 + 3, none⟩ = some (.slice none 0 0) := HO.out.cell (hc 3 (by decide))
        have x4 : wr.cell? ⟨g, k * 7 + 4, none⟩ = some (.slice none 0 0) := HO.out.cell (hc 4 (by decide))
        have x5 : wr.cell? ⟨g, k * 7 + 5, none⟩ = some (.slice none 0 0) := HO.out.cell (hc 5 (by decide))
        have x6 : wr.cell? ⟨g, k * 7 + 6, none⟩ = some (.slice none 0 0) := HO.out.cell (hc 6 (by decide))
        unfold er0 ER.val ER.cells at hq1 hq2
        generalize (markE j).term = tj at *
        generalize (markE j).kind = tk at *
        clear hc hj hj12 hlt hkn
        have kx0 := cell_regrown x0
        have kx1 := cell_regrown x1
        have kx2 := cell_regrown x2
        have kx3 := cell_regrown x3
        have kx4 := cell_regrown x4
        have kx5 := cell_regrown x5
        have kx6 := cell_regrown x6
        go_upto_region 7 with fail
        refine wp_region_quiet_below (by kernel_rfl) (by kernel_rfl) ?_
        refine HeldF.out ?_
        repeat (
          refine hqF_step (fun K hK => ?_)
          go_simp
          first
            | (refine hK _ ?_; clear hK K)
            | (apply Exists.intro
               refine ⟨fun _ => ?_, hK _ ?_⟩
               (with_reducible first | exact hq1 _ _ | exact hq2 _ _)
               clear hK K))
        refine HeldF.mk (wpQuiet_nil ?_)
        intro _ hw'
        obtain ⟨⟨dq, osq⟩, hw''⟩ := hw'
        subst hw''
        have HO2 := Lib.hid (Ok.trans HO.out (below_regrown wr dq osq))
        clear hq1 hq2 x0 kx0 x1 kx1 x2 kx2 x3 kx3 x4 kx4 x5 kx5 x6 kx6
        generalize Go.Sort.grow (redrawn wr dq) osq = w2 at *
        go_wp2_with fail
        exact ⟨⟨k + 1, HLK.out, rfl, HO2.out⟩, HLT.out⟩
    · have d1 : decide ((k : Int) < (n : Int) + 12) = false := decide_eq_false (by omega)
      have d1n : decide (k < n + 12) = false := decide_eq_false hlt
      go_wp2_with fail
      go_ret
      exact ⟨rfl, HO.out⟩
set_option maxRecDepth 100000 in
set_option maxHeartbeats 8000000 in
theorem keptLetter_w (B : Nat) (r q : LR) (x : Lt) (W : World) (h : LtL W B r x) (h2 : LtAt W q x) : Calls Try.prog 71 #[r.val x, q.val x] W (Ret W (.bool true)) := by
  have H1 := Lib.hid h
  have H2 := Lib.hid h2
  clear h h2
  have HS := Lib.hid (fun V (o : Ok W V) => sameLetter_w r q x V (H1.out.at.ok o) (H2.out.ok o))
  unfold LR.val at HS ⊢
  have HX0 := Lib.hid (blk2 W (.cells (r.cells x).toArray 95) (.cells (q.cells x).toArray 95))
  have HO0 : Hid (Ok W ((W.alloc (.cells (r.cells x).toArray 95)).alloc (.cells (q.cells x).toArray 95))) := Lib.hid (((Ok.refl W).alloc _).alloc _)
  have HI1 : Hid ((Try.prog.info? 95).map (·.size) = some (r.cells x).length) := Lib.hid (by show _ = some 20; kernel_rfl)
  have HI2 : Hid ((Try.prog.info? 95).map (·.size) = some (q.cells x).length) := Lib.hid (by show _ = some 20; kernel_rfl)
  go_enter Try.func71, Try.ntmps71
  go_upto_region 1 with fail
  generalize ((W.alloc (.cells (r.cells x).toArray 95)).alloc (.cells (q.cells x).toArray 95)) = w0 at *
  obtain ⟨g, hg⟩ : ∃ g, W.heap.size = g := ⟨_, rfl⟩
  rw [hg] at HX0 ⊢
  clear hg
  have HR1 := Lib.hid (range_raw HX0.out.1)
  have HR2 := Lib.hid (range_raw HX0.out.2)
  go_wp2_with (first | (refine wpList_load_mid rfl 95 (.tmp 2) rfl g 0 rfl (r.cells x) _ HR1.out Try.underlying95 rfl HI1.out ?_) | (refine wpList_load_mid rfl 95 (.tmp 3) rfl (g + 1) 0 rfl (q.cells x) _ HR2.out Try.underlying95 rfl HI2.out ?_))
  clear HR1 HR2 HI1 HI2
  refine (HS.out w0 HO0.out).mono ?_
  rintro _ w1 ⟨rfl, ok⟩
  have HO1 := Lib.hid (HO0.out.trans ok)
  have HX1 := Lib.hid (And.intro (blk_ok ok HX0.out.1) (blk_ok ok HX0.out.2))
  clear ok HO0 HX0
  have hx := HX1.out.1
  have hy := HX1.out.2
  have a9 : w1.cell? ⟨g, 9, none⟩ = some (.slice r.eA x.es.length r.ec) := (cell_of_heap hx 9).trans rfl
  have a10 : w1.cell? ⟨g, 10, none⟩ = some (.int .i64 x.bi) := (cell_of_heap hx 10).trans rfl
  have a11 : w1.cell? ⟨g, 11, none⟩ = some (.int .i64 x.bt) := (cell_of_heap hx 11).trans rfl
  have a12 : w1.cell? ⟨g, 12, none⟩ = some (.slice r.s.A0 r.s.n0 r.s.c0) := (cell_of_heap hx 12).trans rfl
  have a13 : w1.cell? ⟨g, 13, none⟩ = some (.slice r.s.A1 r.s.n1 r.s.c1) := (cell_of_heap hx 13).trans rfl
  have a14 : w1.cell? ⟨g, 14, none⟩ = some (.slice r.s.A2 r.s.n2 r.s.c2) := (cell_of_heap hx 14).trans rfl
  have a15 : w1.cell? ⟨g, 15, none⟩ = some (.slice r.s.A3 r.s.n3 r.s.c3) := (cell_of_heap hx 15).trans rfl
  have a19 : w1.cell? ⟨g, 19, none⟩ = some (.slice r.bA r.bn r.bc) := (cell_of_heap hx 19).trans rfl
  have b9 : w1.cell? ⟨(g + 1), 9, none⟩ = some (.slice q.eA x.es.length q.ec) := (cell_of_heap hy 9).trans rfl
  have b10 : w1.cell? ⟨(g + 1), 10, none⟩ = some (.int .i64 x.bi) := (cell_of_heap hy 10).trans rfl
  have b11 : w1.cell? ⟨(g + 1), 11, none⟩ = some (.int .i64 x.bt) := (cell_of_heap hy 11).trans rfl
  have b12 : w1.cell? ⟨(g + 1), 12, none⟩ = some (.slice q.s.A0 q.s.n0 q.s.c0) := (cell_of_heap hy 12).trans rfl
  have b13 : w1.cell? ⟨(g + 1), 13, none⟩ = some (.slice q.s.A1 q.s.n1 q.s.c1) := (cell_of_heap hy 13).trans rfl
  have b14 : w1.cell? ⟨(g + 1), 14, none⟩ = some (.slice q.s.A2 q.s.n2 q.s.c2) := (cell_of_heap hy 14).trans rfl
  have b15 : w1.cell? ⟨(g + 1), 15, none⟩ = some (.slice q.s.A3 q.s.n3 q.s.c3) := (cell_of_heap hy 15).trans rfl
  have b19 : w1.cell? ⟨(g + 1), 19, none⟩ = some (.slice q.bA q.bn q.bc) := (cell_of_heap hy 19).trans rfl
  clear hx hy
  go_wp2_with fail
  clear a9 a10 a11 a12 a13 a14 a15 a19 b9 b10 b11 b12 b13 b14 b15 b19
  refine (keptEntries_w B r.eA q.eA x.es.length r.ec q.ec x.es H1.out.en w1 (H1.out.es.hi (Hi.ok HO1.out)) (H2.out.es.ok HO1.out)).mono ?_
  rintro _ w2 ⟨rfl, ok⟩
  have HO2 := Lib.hid (HO1.out.trans ok)
  have HX2 := Lib.hid (And.intro (blk_ok ok HX1.out.1) (blk_ok ok HX1.out.2))
  clear ok HO1 HX1
  have hx := HX2.out.1
  have hy := HX2.out.2
  have a9 : w2.cell? ⟨g, 9, none⟩ = some (.slice r.eA x.es.length r.ec) := (cell_of_heap hx 9).trans rfl
  have a10 : w2.cell? ⟨g, 10, none⟩ = some (.int .i64 x.bi) := (cell_of_heap hx 10).trans rfl
  have a11 : w2.cell? ⟨g, 11, none⟩ = some (.int .i64 x.bt) := (cell_of_heap hx 11).trans rfl
  have a12 : w2.cell? ⟨g, 12, none⟩ = some (.slice r.s.A0 r.s.n0 r.s.c0) := (cell_of_heap hx 12).trans rfl
  have a13 : w2.cell? ⟨g, 13, none⟩ = some (.slice r.s.A1 r.s.n1 r.s.c1) := (cell_of_heap hx 13).trans rfl
  have a14 : w2.cell? ⟨g, 14, none⟩ = some (.slice r.s.A2 r.s.n2 r.s.c2) := (cell_of_heap hx 14).trans rfl
  have a15 : w2.cell? ⟨g, 15, none⟩ = some (.slice r.s.A3 r.s.n3 r.s.c3) := (cell_of_heap hx 15).trans rfl
  have a19 : w2.cell? ⟨g, 19, none⟩ = some (.slice r.bA r.bn r.bc) := (cell_of_heap hx 19).trans rfl
  have b9 : w2.cell? ⟨(g + 1), 9, none⟩ = some (.slice q.eA x.es.length q.ec) := (cell_of_heap hy 9).trans rfl
  have b10 : w2.cell? ⟨(g + 1), 10, none⟩ = some (.int .i64 x.bi) := (cell_of_heap hy 10).trans rfl
  have b11 : w2.cell? ⟨(g + 1), 11, none⟩ = some (.int .i64 x.bt) := (cell_of_heap hy 11).trans rfl
  have b12 : w2.cell? ⟨(g + 1), 12, none⟩ = some (.slice q.s.A0 q.s.n0 q.s.c0) := (cell_of_heap hy 12).trans rfl
  have b13 : w2.cell? ⟨(g + 1), 13, none⟩ = some (.slice q.s.A1 q.s.n1 q.s.c1) := (cell_of_heap hy 13).trans rfl
  have b14 : w2.cell? ⟨(g + 1), 14, none⟩ = some (.slice q.s.A2 q.s.n2 q.s.c2) := (cell_of_heap hy 14).trans rfl
  have b15 : w2.cell? ⟨(g + 1), 15, none⟩ = some (.slice q.s.A3 q.s.n3 q.s.c3) := (cell_of_heap hy 15).trans rfl
  have b19 : w2.cell? ⟨(g + 1), 19, none⟩ = some (.slice q.bA q.bn q.bc) := (cell_of_heap hy 19).trans rfl
  clear hx hy
  go_wp2_with fail
  clear a9 a10 a11 a12 a13 a14 a15 a19 b9 b10 b11 b12 b13 b14 b15 b19
  refine (keptBase_w B x.bi x.bt r.s q.s x.cfg w2 (H1.out.cfg.hi (Hi.ok HO2.out)) (HO2.out.cfg H2.out.cfg)).mono ?_
  rintro _ w3 ⟨rfl, ok⟩
  have HO3 := Lib.hid (HO2.out.trans ok)
  have HX3 := Lib.hid (And.intro (blk_ok ok HX2.out.1) (blk_ok ok HX2.out.2))
  clear ok HO2 HX2
  have hx := HX3.out.1
  have hy := HX3.out.2
  have a9 : w3.cell? ⟨g, 9, none⟩ = some (.slice r.eA x.es.length r.ec) := (cell_of_heap hx 9).trans rfl
  have a10 : w3.cell? ⟨g, 10, none⟩ = some (.int .i64 x.bi) := (cell_of_heap hx 10).trans rfl
  have a11 : w3.cell? ⟨g, 11, none⟩ = some (.int .i64 x.bt) := (cell_of_heap hx 11).trans rfl
  have a12 : w3.cell? ⟨g, 12, none⟩ = some (.slice r.s.A0 r.s.n0 r.s.c0) := (cell_of_heap hx 12).trans rfl
  have a13 : w3.cell? ⟨g, 13, none⟩ = some (.slice r.s.A1 r.s.n1 r.s.c1) := (cell_of_heap hx 13).trans rfl
  have a14 : w3.cell? ⟨g, 14, none⟩ = some (.slice r.s.A2 r.s.n2 r.s.c2) := (cell_of_heap hx 14).trans rfl
  have a15 : w3.cell? ⟨g, 15, none⟩ = some (.slice r.s.A3 r.s.n3 r.s.c3) := (cell_of_heap hx 15).trans rfl
  have a19 : w3.cell? ⟨g, 19, none⟩ = some (.slice r.bA r.bn r.bc) := (cell_of_heap hx 19).trans rfl
  have b9 : w3.cell? ⟨(g + 1), 9, none⟩ = some (.slice q.eA x.es.length q.ec) := (cell_of_heap hy 9).trans rfl
  have b10 : w3.cell? ⟨(g + 1), 10, none⟩ = some (.int .i64 x.bi) := (cell_of_heap hy 10).trans rfl
  have b11 : w3.cell? ⟨(g + 1), 11, none⟩ = some (.int .i64 x.bt) := (cell_of_heap hy 11).trans rfl
  have b12 : w3.cell? ⟨(g + 1), 12, none⟩ = some (.slice q.s.A0 q.s.n0 q.s.c0) := (cell_of_heap hy 12).trans rfl
  have b13 : w3.cell? ⟨(g + 1), 13, none⟩ = some (.slice q.s.A1 q.s.n1 q.s.c1) := (cell_of_heap hy 13).trans rfl
  have b14 : w3.cell? ⟨(g + 1), 14, none⟩ = some (.slice q.s.A2 q.s.n2 q.s.c2) := (cell_of_heap hy 14).trans rfl
  have b15 : w3.cell? ⟨(g + 1), 15, none⟩ = some (.slice q.s.A3 q.s.n3 q.s.c3) := (cell_of_heap hy 15).trans rfl
  have b19 : w3.cell? ⟨(g + 1), 19, none⟩ = some (.slice q.bA q.bn q.bc) := (cell_of_heap hy 19).trans rfl
  clear hx hy
  go_wp2_with fail
  clear a9 a10 a11 a12 a13 a14 a15 a19 b9 b10 b11 b12 b13 b14 b15 b19
  refine (keptBytes_w w3 B r.bA r.bn r.bc x.bytes (H1.out.bytes.hi (Hi.ok HO3.out)) q.bA q.bn q.bc (HO3.out.bytes H2.out.bytes)).mono ?_
  rintro _ w4 ⟨rfl, ok⟩
  have HO4 := Lib.hid (HO3.out.trans ok)
  have HX4 := Lib.hid (And.intro (blk_ok ok HX3.out.1) (blk_ok ok HX3.out.2))
  clear ok HO3 HX3
  clear HX4
  go_wp2_with fail
  go_ret
  exact ⟨rfl, HO4.out⟩
end Go.Proofs.Ytolfdncmlfnbdaa
