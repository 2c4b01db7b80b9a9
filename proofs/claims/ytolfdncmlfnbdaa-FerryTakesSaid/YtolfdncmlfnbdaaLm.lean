/- A letter without entries written over. -/
import Derived.Test.YtolfdncmlfnbdaaLj
namespace Go.Proofs.Ytolfdncmlfnbdaa
open Go.RowKit

set_option maxRecDepth 100000 in
set_option maxHeartbeats 8000000 in
theorem overBytesG_w (v : Value) (B L : Nat) (w : World) (h : RowV w B L v) : Calls Try.prog 25 #[v] w (OverP B L w) := by
  rcases h with rfl | ⟨g, n, c, rfl, hB, hgL, hnc, hn, hcm, hR⟩
  · go_enter Try.func25, Try.ntmps25
    go_wp2_with fail
    go_loopw [3] (fun i wr => i = .int .i64 0 ∧ wr = w) (fun _ _ => 0)
    case atStart => exact ⟨rfl, rfl⟩
    case round =>
      obtain ⟨rfl, rfl⟩ := hrel
      go_wp2_with fail
      go_end0
      exact ⟨rfl, Below.refl _ _, fun _ _ h => h, fun _ _ _ _ h => h⟩
  · have HR := Lib.hid hR
    clear hR
    have s1 : wrap64 ((n : Int) + 12) = (n : Int) + 12 := by simp only [wrap64]; omega
    by_cases hcn : (n : Int) + 12 < (c : Int)
    · obtain ⟨k, hk⟩ : ∃ k : Nat, (n : Int) + 12 = (k : Int) := ⟨n + 12, by omega⟩
      rw [hk] at hcn s1
      have d1 : decide ((k : Int) < (c : Int)) = true := decide_eq_true hcn
      have d2 : decide (k < c) = true := decide_eq_true (by omega)
      have hk0 : (0 : Int) ≤ (k : Int) := Int.natCast_nonneg _
      have hki : (k : Int) ≤ (c : Int) := by omega
      go_enter Try.func25, Try.ntmps25
      go_wp2_with fail
      go_loopw [3] (fun i wr => ∃ j : Nat, j ≤ k ∧ i = .int .i64 j ∧ Below B w wr ∧ Stay w wr ∧ Far L w wr) (fun i _ => k - (intOf i).toNat)
      case atStart => exact ⟨0, Nat.zero_le _, rfl, Below.refl _ _, fun _ _ h => h, fun _ _ _ _ h => h⟩
      case round =>
        obtain ⟨j, hj, rfl, hbel, hst, hfar⟩ := hrel
        have HBL := Lib.hid hbel
        have HST := Lib.hid hst
        have HFR := Lib.hid hfar
        clear hbel hst hfar
        by_cases hlt : j < k
        · obtain ⟨hcs, hfs⟩ := HST.out _ _ HR.out
          obtain ⟨x, hx⟩ := hcs j (by omega)
          have hf := hfs j (by omega)
          clear hcs hfs
          have hj0 : (0 : Int) ≤ (j : Int) := Int.natCast_nonneg _
          have hj1 : (j : Int) < (k : Int) := by omega
          have hmk := fun w' => markByte_w 2 j (by omega) (by omega) w'
          have HFIN : Hid (∀ y, Below B w (wr.setCell ⟨g, j, none⟩ y) ∧ Stay w (wr.setCell ⟨g, j, none⟩ y) ∧ Far L w (wr.setCell ⟨g, j, none⟩ y)) := Lib.hid fun y =>
            ⟨Below.setCell HBL.out hB _, fun _ _ h => (HST.out _ _ h).set _ _, fun b o v hb h => cell_set (by omega) (HFR.out b o v hb h)⟩
          go_wp2_with fail
          refine (hmk _).mono ?_
          rintro e w2 ⟨rfl, rfl⟩
          go_wp2_with fail
          go_roundw
          case rel => exact ⟨j + 1, by omega, by go_num, (HFIN.out _).1, (HFIN.out _).2.1, (HFIN.out _).2.2⟩
          case measure => simp [intOf]; omega
        · have hje : j = k := by omega
          subst hje
          go_wp2_with fail
          go_end0
          exact ⟨rfl, HBL.out, HST.out, HFR.out⟩
    · have d1 : decide ((n : Int) + 12 < (c : Int)) = false := decide_eq_false hcn
      have hc0 : (0 : Int) ≤ (c : Int) := Int.natCast_nonneg _
      go_enter Try.func25, Try.ntmps25
      go_wp2_with fail
      go_loopw [3] (fun i wr => ∃ j : Nat, j ≤ c ∧ i = .int .i64 j ∧ Below B w wr ∧ Stay w wr ∧ Far L w wr) (fun i _ => c - (intOf i).toNat)
      case atStart => exact ⟨0, Nat.zero_le _, rfl, Below.refl _ _, fun _ _ h => h, fun _ _ _ _ h => h⟩
      case round =>
        obtain ⟨j, hj, rfl, hbel, hst, hfar⟩ := hrel
        have HBL := Lib.hid hbel
        have HST := Lib.hid hst
        have HFR := Lib.hid hfar
        clear hbel hst hfar
        by_cases hlt : j < c
        · obtain ⟨hcs, hfs⟩ := HST.out _ _ HR.out
          obtain ⟨x, hx⟩ := hcs j (by omega)
          have hf := hfs j (by omega)
          clear hcs hfs
          have hj0 : (0 : Int) ≤ (j : Int) := Int.natCast_nonneg _
          have hj1 : (j : Int) < (c : Int) := by omega
          have hmk := fun w' => markByte_w 2 j (by omega) (by omega) w'
          have HFIN : Hid (∀ y, Below B w (wr.setCell ⟨g, j, none⟩ y) ∧ Stay w (wr.setCell ⟨g, j, none⟩ y) ∧ Far L w (wr.setCell ⟨g, j, none⟩ y)) := Lib.hid fun y =>
            ⟨Below.setCell HBL.out hB _, fun _ _ h => (HST.out _ _ h).set _ _, fun b o v hb h => cell_set (by omega) (HFR.out b o v hb h)⟩
          go_wp2_with fail
          refine (hmk _).mono ?_
          rintro e w2 ⟨rfl, rfl⟩
          go_wp2_with fail
          go_roundw
          case rel => exact ⟨j + 1, by omega, by go_num, (HFIN.out _).1, (HFIN.out _).2.1, (HFIN.out _).2.2⟩
          case measure => simp [intOf]; omega
        · have hje : j = c := by omega
          subst hje
          go_wp2_with fail
          go_end0
          exact ⟨rfl, HBL.out, HST.out, HFR.out⟩
theorem OwnN.rowV {w : World} {B n c : Nat} {A : Option Addr} {xs : List B8} (h : OwnN w B (.slice A n c) xs) (hl : n ≤ 100000) : RowV w B w.heap.size (.slice A n c) := by
  have hn := h.len'
  rcases h.2 with ⟨e, _⟩ | ⟨g, cap, cur, e, hB, hg, h1, h2, h3, h4⟩
  · exact .inl e
  · simp only [Value.slice.injEq] at e
    obtain ⟨rfl, rfl, rfl⟩ := e
    refine .inr ⟨g, _, c, rfl, hB, (Array.getElem?_eq_some_iff.1 hg).1, by omega, by omega, by unfold maxLen at h2; omega, fun j hj => ?_, fun j _ => ?_⟩
    · rw [cell_of_heap hg]; exact ⟨cur[j]'(by omega), by simp⟩
    · rw [World.frozen?, hg]; simp
theorem OwnM.rowV {w : World} {B : Nat} {v : Value} {xs : List Int} (h : OwnM w B v xs) : RowV w B w.heap.size v := by
  have hl := h.2
  rcases h.1.2 with ⟨rfl, _⟩ | ⟨g, cap, cur, rfl, hB, hg, h1, h2, h3, h4⟩
  · exact .inl rfl
  · refine .inr ⟨g, _, cap, rfl, hB, (Array.getElem?_eq_some_iff.1 hg).1, h1, by omega, by unfold maxLen at h2; omega, fun j hj => ?_, fun j _ => ?_⟩
    · rw [cell_of_heap hg]; exact ⟨cur[j]'(by omega), by simp⟩
    · rw [World.frozen?, hg]; simp
theorem RowV.up {w : World} {B L L' : Nat} {v : Value} (h : RowV w B L v) (k : L ≤ L') : RowV w B L' v := by
  rcases h with rfl | ⟨g, n, c, rfl, h0, h1, h2⟩
  · exact .inl rfl
  · exact .inr ⟨g, n, c, rfl, h0, Nat.lt_of_lt_of_le h1 k, h2⟩
set_option maxRecDepth 100000 in
theorem overNil_w (W : World) : Calls Try.prog 130 #[.slice none 0 0] W (fun e w' => e = .returned (.tuple #[]) ∧ Ok W w') := by
  go_enter Try.func130, Try.ntmps130
  go_wp2_with fail
  go_loopw [2] (fun i wr => i = .int .i64 0 ∧ wr = W) (fun _ _ => 0)
  case atStart => exact ⟨rfl, rfl⟩
  case round =>
    obtain ⟨rfl, rfl⟩ := hrel
    go_wp2_with fail
    go_loopw [4] (fun i wx => i = .int .i64 0 ∧ wx = wr) (fun _ _ => 0)
    case atStart => exact ⟨rfl, rfl⟩
    case round =>
      obtain ⟨rfl, rfl⟩ := hrel
      go_wp2_with fail
      go_end0
      exact ⟨rfl, Ok.refl _⟩
end Go.Proofs.Ytolfdncmlfnbdaa
namespace Go.Proofs.Ytolfdncmlfnbdaa
open Go.RowKit

theorem stay_ok {w w' : World} (k : Ok w w') : Stay w w' := fun _ _ h => h.ok k
theorem far_ok {L : Nat} {w w' : World} (k : Ok w w') : Far L w w' := fun _ _ _ _ h => k.cell h
theorem OverCP.pre {B L : Nat} {W w w' : World} {e : Ending} (k : Ok W w) (hB : B ≤ W.heap.size) (h : OverCP B L w e w') : OverCP B L W e w' :=
  ⟨h.1, Below.trans (Below.mono k hB) h.2.1, fun g c q => h.2.2.1 g c (stay_ok k g c q), fun b o v q c => h.2.2.2 b o v q (k.cell c)⟩
theorem OverCP.seq {B L : Nat} {W w w' : World} {e e' : Ending} (h : OverCP B L W e w) (k : OverCP B L w e' w') : OverCP B L W e' w' :=
  ⟨k.1, Below.trans h.2.1 k.2.1, fun g c q => k.2.2.1 g c (h.2.2.1 g c q), fun b o v q c => k.2.2.2 b o v q (h.2.2.2 b o v q c)⟩
structure CfgV (w : World) (B L : Nat) (s : S4) : Prop where
  h0 : RowV w B L (.slice s.A0 s.n0 s.c0)
  h1 : RowV w B L (.slice s.A1 s.n1 s.c1)
  h2 : RowV w B L (.slice s.A2 s.n2 s.c2)
  h3 : RowV w B L (.slice s.A3 s.n3 s.c3)
theorem CfgV.stay {w w' : World} {B L : Nat} {s : S4} (h : CfgV w B L s) (k : Stay w w') : CfgV w' B L s := ⟨h.h0.stay k, h.h1.stay k, h.h2.stay k, h.h3.stay k⟩
set_option maxRecDepth 100000 in
theorem overBase_w (bi bt : Int) (s : S4) (B L : Nat) (W : World) (h : CfgV W B L s) (hB : B ≤ W.heap.size) (hL : L ≤ W.heap.size) : Calls Try.prog 131 #[baseV bi bt s] W (OverCP B L W) := by
  have HC := Lib.hid (fun V (o : Ok W V) => overConfig_w B L s.A0 s.A1 s.A2 s.A3 s.n0 s.c0 s.n1 s.c1 s.n2 s.c2 s.n3 s.c3 V (h.h0.stay (stay_ok o)) (h.h1.stay (stay_ok o)) (h.h2.stay (stay_ok o)) (h.h3.stay (stay_ok o)) (Nat.le_trans hB o.size) (Nat.le_trans hL o.size))
  have HB := Lib.hid hB
  clear h hB hL
  unfold baseV
  have HO : Hid (Ok W (W.alloc (.cells #[.int .i64 bi, .int .i64 bt, .slice s.A0 s.n0 s.c0, .slice s.A1 s.n1 s.c1, .slice s.A2 s.n2 s.c2, .slice s.A3 s.n3 s.c3] 93))) := Lib.hid ((Ok.refl W).alloc _)
  go_enter Try.func131, Try.ntmps131
  go_wp2_with fail
  (with_reducible refine (HC.out _ HO.out).mono ?_)
  rintro _ w2 hh
  have HQ := Lib.hid (hh.pre HO.out HB.out)
  obtain ⟨rfl, -⟩ := hh
  go_wp2_with fail
  go_end0
  exact HQ.out
set_option maxRecDepth 100000 in
set_option maxHeartbeats 4000000 in
theorem overLetter_w (r : LR) (x : Lt) (he : x.es = []) (h0 : r.eA = none) (hc : r.ec = 0) (B L : Nat) (W : World) (h : CfgV W B L r.s) (hb : RowV W B L (.slice r.bA r.bn r.bc)) (hB : B ≤ W.heap.size) (hL : L ≤ W.heap.size) : Calls Try.prog 70 #[r.val x] W (OverCP B L W) := by
  have HV := Lib.hid h
  have HBV := Lib.hid hb
  have HB := Lib.hid hB
  have HLL := Lib.hid hL
  have h9 : (r.cells x)[9]? = some (.slice none 0 0) := by
    show some (Value.slice r.eA x.es.length r.ec) = _
    rw [he, h0, hc]
    rfl
  have H9 := Lib.hid h9
  clear h hb hB he h0 hc h9 hL
  unfold LR.val
  have HX0 : Hid ((W.alloc (.cells (r.cells x).toArray 95)).heap[W.heap.size]? = some (.cells (r.cells x).toArray 95 (0, 0))) := Lib.hid (heap_alloc_new W _)
  have HO0 : Hid (Ok W (W.alloc (.cells (r.cells x).toArray 95))) := Lib.hid ((Ok.refl W).alloc _)
  go_enter Try.func70, Try.ntmps70
  go_upto_region 1 with fail
  generalize (W.alloc (.cells (r.cells x).toArray 95)) = w0 at *
  obtain ⟨g, hg⟩ : ∃ g, W.heap.size = g := ⟨_, rfl⟩
  have HG : Hid (L ≤ g) := Lib.hid (by rw [← hg]; exact HLL.out)
  have HG2 := Lib.hid hg
  rw [hg] at HX0 ⊢
  clear hg
  have a9 : w0.cell? ⟨g, 9, none⟩ = some (.slice none 0 0) := by rw [cell_of_heap HX0.out 9, List.getElem?_toArray]; exact H9.out
  go_wp2_with fail
  clear a9
  refine (overNil_w w0).mono ?_
  rintro _ w1 ⟨rfl, o1⟩
  have HO1 := Lib.hid (HO0.out.trans o1)
  have hx := blk_ok o1 HX0.out
  have a10 : w1.cell? ⟨g, 10, none⟩ = some (.int .i64 x.bi) := (cell_of_heap hx 10).trans rfl
  have a11 : w1.cell? ⟨g, 11, none⟩ = some (.int .i64 x.bt) := (cell_of_heap hx 11).trans rfl
  have a12 : w1.cell? ⟨g, 12, none⟩ = some (.slice r.s.A0 r.s.n0 r.s.c0) := (cell_of_heap hx 12).trans rfl
  have a13 : w1.cell? ⟨g, 13, none⟩ = some (.slice r.s.A1 r.s.n1 r.s.c1) := (cell_of_heap hx 13).trans rfl
  have a14 : w1.cell? ⟨g, 14, none⟩ = some (.slice r.s.A2 r.s.n2 r.s.c2) := (cell_of_heap hx 14).trans rfl
  have a15 : w1.cell? ⟨g, 15, none⟩ = some (.slice r.s.A3 r.s.n3 r.s.c3) := (cell_of_heap hx 15).trans rfl
  have HA19 : Hid (w1.cell? ⟨g, 19, none⟩ = some (.slice r.bA r.bn r.bc)) := Lib.hid ((cell_of_heap hx 19).trans rfl)
  clear hx o1 HX0 HO0
  have HBS := Lib.hid (overBase_w x.bi x.bt r.s B L w1 (HV.out.stay (stay_ok HO1.out)) (Nat.le_trans HB.out HO1.out.size) (Nat.le_trans HLL.out HO1.out.size))
  unfold baseV at HBS
  go_wp2_with fail
  clear a10 a11 a12 a13 a14 a15
  refine HBS.out.mono ?_
  clear HBS
  rintro _ w2 hh
  have HQ := Lib.hid (hh.pre HO1.out HB.out)
  have a19 := hh.2.2.2 g 19 _ HG.out HA19.out
  have HS2 := Lib.hid hh.2.1.size
  obtain ⟨rfl, -⟩ := hh
  go_wp2_with fail
  clear a19
  refine (overBytesG_w _ B L w2 (HBV.out.stay HQ.out.2.2.1)).mono ?_
  rintro _ w3 hh
  have HR := Lib.hid (OverCP.seq HQ.out hh)
  obtain ⟨rfl, -⟩ := hh
  go_wp2_with fail
  go_end0
  exact HR.out
end Go.Proofs.Ytolfdncmlfnbdaa
