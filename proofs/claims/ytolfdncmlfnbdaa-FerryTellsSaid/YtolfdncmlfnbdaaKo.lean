/- The law FerryTells, walked. -/
import Derived.Test.YtolfdncmlfnbdaaKn
import Derived.Test.YtolfdncmlfnbdaaKl
namespace Go.Proofs.Ytolfdncmlfnbdaa
open Go.RowKit
set_option maxRecDepth 100000 in
set_option maxHeartbeats 8000000 in
theorem ferryTells_w (r : LR) (x : Lt) (q : IR) (m : Im) (W : World) (hl : LtAt W r x) (hm : ImAt W q m) : Calls Try.prog 8 #[r.val x, q.val m] W (Ret W (.bool true)) := by
  have HNQ := Lib.hid (BytesIn.len' hm.bytes)
  have HL := Lib.hid hl
  have HM := Lib.hid hm
  have HX0 : Hid (((W.alloc (.cells (r.cells x).toArray 95)).alloc (.cells #[.int .i64 m.bi, .int .i64 m.bt, .slice q.s.A0 q.s.n0 q.s.c0, .slice q.s.A1 q.s.n1 q.s.c1, .slice q.s.A2 q.s.n2 q.s.c2, .slice q.s.A3 q.s.n3 q.s.c3, .slice q.A q.n q.c] 97)).heap[W.heap.size]? = some (.cells (r.cells x).toArray 95 (0, 0))) := Lib.hid (blk_old (blk_new rfl))
  have HY0 : Hid (((W.alloc (.cells (r.cells x).toArray 95)).alloc (.cells #[.int .i64 m.bi, .int .i64 m.bt, .slice q.s.A0 q.s.n0 q.s.c0, .slice q.s.A1 q.s.n1 q.s.c1, .slice q.s.A2 q.s.n2 q.s.c2, .slice q.s.A3 q.s.n3 q.s.c3, .slice q.A q.n q.c] 97)).heap[W.heap.size + 1]? = some (.cells #[.int .i64 m.bi, .int .i64 m.bt, .slice q.s.A0 q.s.n0 q.s.c0, .slice q.s.A1 q.s.n1 q.s.c1, .slice q.s.A2 q.s.n2 q.s.c2, .slice q.s.A3 q.s.n3 q.s.c3, .slice q.A q.n q.c] 97 (0, 0))) := Lib.hid (blk_new (by rw [World.size_alloc]))
  have HO : Hid (Ok W ((W.alloc (.cells (r.cells x).toArray 95)).alloc (.cells #[.int .i64 m.bi, .int .i64 m.bt, .slice q.s.A0 q.s.n0 q.s.c0, .slice q.s.A1 q.s.n1 q.s.c1, .slice q.s.A2 q.s.n2 q.s.c2, .slice q.s.A3 q.s.n3 q.s.c3, .slice q.A q.n q.c] 97))) := Lib.hid (((Ok.refl W).alloc _).alloc _)
  unfold LR.val IR.val
  clear hl hm
  go_enter Try.func8, Try.ntmps8
  go_upto_region 1 with fail
  generalize ((W.alloc (.cells (r.cells x).toArray 95)).alloc (.cells #[.int .i64 m.bi, .int .i64 m.bt, .slice q.s.A0 q.s.n0 q.s.c0, .slice q.s.A1 q.s.n1 q.s.c1, .slice q.s.A2 q.s.n2 q.s.c2, .slice q.s.A3 q.s.n3 q.s.c3, .slice q.A q.n q.c] 97)) = w0 at *
  obtain ⟨g, hg⟩ : ∃ g, W.heap.size = g := ⟨_, rfl⟩
  have HG := Lib.hid hg
  rw [hg] at HX0 HY0 ⊢
  clear hg
  go_wp2_with fail
  (with_reducible refine (awake_f w0).mono ?_)
  rintro _ w1 ⟨rfl, o1⟩
  have HO1 := Lib.hid o1
  have HRX : Hid (w1.rangeAt g 0 (r.cells x)) := Lib.hid (range_raw (blk_ok o1 HX0.out))
  have HRY : Hid (w1.rangeAt (g + 1) 0 (q.cells m)) := Lib.hid (range_raw (blk_ok o1 HY0.out))
  have HIN := Lib.hid (info95' r x)
  clear o1
  have HTL : Hid (∀ V, Ok W V → V.rangeAt V.heap.size 0 (r.cells x) → True) := Lib.hid (fun _ _ _ => trivial)
  have hlen20 : (r.cells x).length = 20 := rfl
  have hfd : List.foldl (fun (cs : Array Value) (x : Value × Nat) => cs.setIfInBounds x.snd x.fst) #[.int .u8 0, .int .i64 0, .int .i64 0, .int .i64 0, .int .i64 0, .int .i64 0, .int .i64 0, .int .i64 0, .bool false, .slice none 0 0, .int .i64 0, .int .i64 0, .slice none 0 0, .slice none 0 0, .slice none 0 0, .slice none 0 0, .int .i64 0, .int .i64 0, .int .i64 0, .slice none 0 0] (r.cells x).zipIdx = (r.cells x).toArray := fold20 r x
  go_upto_region 3 with fail
  go_wp2_with ((with_reducible show wpList _ _ _ (⟨_, .load 95 (.tmp 2), _, _, _, _⟩ :: _) _ _); refine wpList_load_mid rfl 95 (.tmp 2) rfl g 0 rfl (r.cells x) _ HRX.out Try.underlying95 rfl HIN.out ?_)
  generalize hw2 : w1.alloc (.cells (r.cells x).toArray 95) = w2
  have HW2 : Hid (w1.alloc (.cells (r.cells x).toArray 95) = w2) := Lib.hid hw2
  have HO2 : Hid (Ok w1 w2) := Lib.hid (by rw [← HW2.out]; exact (Ok.refl w1).alloc _)
  have HOW : Hid (Ok W w2) := Lib.hid (HO.out.trans (HO1.out.trans HO2.out))
  have HR2 : Hid (w2.rangeAt w1.heap.size 0 (r.cells x)) := Lib.hid (by rw [← HW2.out]; exact range_new w1 _ 95)
  clear hw2 HW2 hlen20 hfd
  have HGR := Lib.hid (great_w (some ⟨w1.heap.size, 0, none⟩) 1 1 [x] rfl (by omega) w2 (fun j hj => by
    obtain rfl : j = 0 := by simpa using hj
    exact ⟨w1.heap.size, 0, r, rfl, HL.out.ok HOW.out, HR2.out⟩))
  (with_reducible refine HGR.out.mono ?_)
  rintro _ w3 ⟨big, rfl, o3, hbig⟩
  have HO3 := Lib.hid (HOW.out.trans o3)
  have HO13 := Lib.hid (HO2.out.trans o3)
  clear o3 HGR HR2 HOW HO2
  have c6 : w3.cell? ⟨g + 1, 6, none⟩ = some (.slice q.A q.n q.c) := HO13.out.cell (by have := HRY.out 6 _ rfl; rwa [Nat.zero_add] at this)
  have c2 : w3.cell? ⟨g + 1, 2, none⟩ = some (.slice q.s.A0 q.s.n0 q.s.c0) := HO13.out.cell (by have := HRY.out 2 _ rfl; rwa [Nat.zero_add] at this)
  have c3 : w3.cell? ⟨g + 1, 3, none⟩ = some (.slice q.s.A1 q.s.n1 q.s.c1) := HO13.out.cell (by have := HRY.out 3 _ rfl; rwa [Nat.zero_add] at this)
  have c4 : w3.cell? ⟨g + 1, 4, none⟩ = some (.slice q.s.A2 q.s.n2 q.s.c2) := HO13.out.cell (by have := HRY.out 4 _ rfl; rwa [Nat.zero_add] at this)
  have c5 : w3.cell? ⟨g + 1, 5, none⟩ = some (.slice q.s.A3 q.s.n3 q.s.c3) := HO13.out.cell (by have := HRY.out 5 _ rfl; rwa [Nat.zero_add] at this)
  cases big with
  | true =>
    clear c6 c2 c3 c4 c5 hbig
    go_wp2_with fail
    go_ret
    exact ⟨rfl, HO3.out⟩
  | false =>
  have HBIG := Lib.hid (hbig rfl)
  clear hbig
  by_cases h6 : 6000 < q.n
  · have d6 : decide ((6000 : Int) < (q.n : Int)) = true := decide_eq_true (by omega)
    clear c2 c3 c4 c5
    go_wp2_with fail
    go_ret
    exact ⟨rfl, HO3.out⟩
  have d6 : decide ((6000 : Int) < (q.n : Int)) = false := decide_eq_false (by omega)
  have HQN : Hid (q.n ≤ 6000) := Lib.hid (by omega)
  have HCF := Lib.hid (configOf_w q.s m.cfg w3 (HM.out.ok HO3.out).cfg)
  unfold S4.v at HCF
  clear h6
  go_wp2_with fail
  (with_reducible refine HCF.out.mono ?_)
  rintro _ w4 ⟨rfl, o4⟩
  have HO4 := Lib.hid (HO3.out.trans o4)
  have HO14 := Lib.hid (HO13.out.trans o4)
  clear o4 HCF HO3 HO13 c6 c2 c3 c4 c5 d6
  by_cases h1 : 100 < cfgL m.cfg
  · have d1 : decide ((100 : Int) < (cfgL m.cfg : Int)) = true := decide_eq_true (by omega)
    go_wp2_with fail
    go_ret
    exact ⟨rfl, HO4.out⟩
  have d1 : decide ((100 : Int) < (cfgL m.cfg : Int)) = false := decide_eq_false (by omega)
  have HFI := Lib.hid (fineOf (by omega : cfgL m.cfg ≤ 100))
  have HLE : Hid (LtLe x) := Lib.hid (by have := (HBIG.out).2 0 (by simp); exact LtS.le this)
  clear h1
  go_upto_region 5 with fail
  clear d1
  have HMB : Hid (m.bytes.length ≤ 1000000) := Lib.hid (by have := HNQ.out.1; have := HQN.out; omega)
  have HRX4 := Lib.hid (range_ok HRX.out HO14.out)
  have HRY4 := Lib.hid (range_ok HRY.out HO14.out)
  have HI7 := Lib.hid info97
  clear HRX HRY HO14 HX0 HY0 HTL HO HO1
  go_cut [5, 6] from 29 to 32 (fun v5 v6 wx => ∃ g5 g6 ra qa, v5 = .pointer (some ⟨g5, 0, none⟩) ∧ v6 = .pointer (some ⟨g6, 0, none⟩) ∧ LentR W x m g5 g6 ra qa wx ∧ wx.rangeAt g 0 (r.cells x) ∧ wx.rangeAt (g + 1) 0 (q.cells m))
  case first =>
    rename_i K0 Q0 hK0
    have HKK := Lib.hid hK0
    clear hK0
    refine Until.begin (S := fun w => w.rangeAt g 0 (r.cells x) ∧ w.rangeAt (g + 1) 0 (q.cells m)) (j := 7) (by kernel_rfl) ?_ ?_
    · exact ⟨range_ok HRX4.out (Ok.refl w4).drew, range_ok HRY4.out (Ok.refl w4).drew⟩
    intro hS0
    have HOK0 : Hid (Ok W w4.drew) := Lib.hid (HO4.out.trans (Ok.refl w4).drew)
    have HV0 : Hid (W.heap.size ≤ w4.drew.heap.size ∧ g + 1 < w4.drew.heap.size) := Lib.hid ⟨HOK0.out.size, World.block_lt_of_cell? _ _ (hS0.2 0 _ rfl)⟩
    generalize w4.drew = V0 at *
    obtain ⟨B0, hB0⟩ : ∃ B0, V0.heap.size = B0 := ⟨_, rfl⟩
    have HB0 := Lib.hid hB0
    rw [hB0] at HV0
    clear hB0
    refine Until.take (i := 0) (v := .agg (r.cells x).toArray) rfl (by kernel_rfl) (by kernel_rfl) (by kernel_rfl) (by kernel_rfl) (fun _ _ _ h => h) (yieldsIf_load_mid (by rfl) 95 (.tmp 2) rfl g 0 rfl (r.cells x) _ (fun _ h => h.1) Try.underlying95 rfl HIN.out) hS0 ?_
    try go_frame
    refine Until.take (i := 2) (v := .agg (q.cells m).toArray) rfl (by kernel_rfl) (by kernel_rfl) (by kernel_rfl) (by kernel_rfl) (fun _ _ _ h => h) (yieldsIf_load_mid (by rfl) 97 (.tmp 3) rfl (g + 1) 0 rfl (q.cells m) _ (fun _ h => h.2) Try.underlying97 rfl HI7.out) hS0 ?_
    try go_frame
    refine Until.three (i := 1) (k := 4) (l := 5) (by kernel_rfl) rfl rfl rfl (fun K hK => ?_) (fun K hK => ?_) (fun K hK => ?_)
    · have HK := Lib.hid hK
      clear hK
      go_simp
      refine (lentLetter_w r x V0 (HL.out.ok HOK0.out) HLE.out).mono ?_
      rintro _ V1 ⟨ra, rfl, hlt, ok⟩
      have HLT := Lib.hid hlt
      have HD0 := Lib.hid ok
      clear hlt
      have HOK1 : Hid (Ok W V1) := Lib.hid (HOK0.out.trans ok)
      have hS1 := (⟨range_ok hS0.1 ok, range_ok hS0.2 ok⟩ : _ ∧ _)
      clear ok
      refine HK.out.out _ _ (fun _ => hS1) (fun _ => ?_)
      clear HK K
      try go_frame
      refine Until.three (i := 3) (k := 4) (l := 5) (by kernel_rfl) rfl rfl rfl (fun K hK => ?_) (fun K hK => ?_) (fun K hK => ?_)
      · have HK := Lib.hid hK
        clear hK
        go_simp
        refine (lentImage_w q m V1 (HM.out.ok HOK1.out) ⟨HFI.out, HMB.out⟩).mono ?_
        rintro _ V2 ⟨qa, he, him, ok⟩
        rw [IR.val_eq] at he
        subst he
        have HIM := Lib.hid him
        have HD1 := Lib.hid ok
        clear him
        have HOK2 : Hid (Ok W V2) := Lib.hid (HOK1.out.trans ok)
        have hS2 := (⟨range_ok hS1.1 ok, range_ok hS1.2 ok⟩ : _ ∧ _)
        clear ok
        refine HK.out.out _ _ (fun _ => hS2) (fun _ => ?_)
        clear HK K
        try go_frame
        refine Until.two (i := 4) (k := 5) (by kernel_rfl) rfl rfl (fun K hK => ?_) (fun K hK => ?_)
        · have HK := Lib.hid hK
          clear hK
          go_simp
          have ok : Ok V2 (V2.alloc (.cells #[.int .u8 0, .int .i64 0, .int .i64 0, .int .i64 0, .int .i64 0, .int .i64 0, .int .i64 0, .int .i64 0, .bool false, .slice none 0 0, .int .i64 0, .int .i64 0, .slice none 0 0, .slice none 0 0, .slice none 0 0, .slice none 0 0, .int .i64 0, .int .i64 0, .int .i64 0, .slice none 0 0] 95)) := (Ok.refl _).alloc _
          have HD2 := Lib.hid ok
          have HZ5 : Hid ((V2.alloc (.cells #[.int .u8 0, .int .i64 0, .int .i64 0, .int .i64 0, .int .i64 0, .int .i64 0, .int .i64 0, .int .i64 0, .bool false, .slice none 0 0, .int .i64 0, .int .i64 0, .slice none 0 0, .slice none 0 0, .slice none 0 0, .slice none 0 0, .int .i64 0, .int .i64 0, .int .i64 0, .slice none 0 0] 95)).heap[V2.heap.size]? = some (.cells #[.int .u8 0, .int .i64 0, .int .i64 0, .int .i64 0, .int .i64 0, .int .i64 0, .int .i64 0, .int .i64 0, .bool false, .slice none 0 0, .int .i64 0, .int .i64 0, .slice none 0 0, .slice none 0 0, .slice none 0 0, .slice none 0 0, .int .i64 0, .int .i64 0, .int .i64 0, .slice none 0 0] 95 (0, 0))) := Lib.hid (heap_alloc_new V2 _)
          generalize V2.alloc (.cells #[.int .u8 0, .int .i64 0, .int .i64 0, .int .i64 0, .int .i64 0, .int .i64 0, .int .i64 0, .int .i64 0, .bool false, .slice none 0 0, .int .i64 0, .int .i64 0, .slice none 0 0, .slice none 0 0, .slice none 0 0, .slice none 0 0, .int .i64 0, .int .i64 0, .int .i64 0, .slice none 0 0] 95) = V3 at *
          have HOK3 : Hid (Ok W V3) := Lib.hid (HOK2.out.trans ok)
          have hS3 := (⟨range_ok hS2.1 ok, range_ok hS2.2 ok⟩ : _ ∧ _)
          clear ok
          refine HK.out.out _ _ (fun _ => hS3) (fun _ => ?_)
          clear HK K
          try go_frame
          refine Until.one (i := 5) (by kernel_rfl) rfl (fun K hK => ?_)
          have HK := Lib.hid hK
          clear hK
          go_simp
          have ok : Ok V3 (V3.alloc (.cells #[.int .i64 0, .int .i64 0, .slice none 0 0, .slice none 0 0, .slice none 0 0, .slice none 0 0, .slice none 0 0] 97)) := (Ok.refl _).alloc _
          have HD3 := Lib.hid ok
          have HZ6 : Hid ((V3.alloc (.cells #[.int .i64 0, .int .i64 0, .slice none 0 0, .slice none 0 0, .slice none 0 0, .slice none 0 0, .slice none 0 0] 97)).heap[V3.heap.size]? = some (.cells #[.int .i64 0, .int .i64 0, .slice none 0 0, .slice none 0 0, .slice none 0 0, .slice none 0 0, .slice none 0 0] 97 (0, 0))) := Lib.hid (heap_alloc_new V3 _)
          generalize V3.alloc (.cells #[.int .i64 0, .int .i64 0, .slice none 0 0, .slice none 0 0, .slice none 0 0, .slice none 0 0, .slice none 0 0] 97) = V4 at *
          have HOK4 : Hid (Ok W V4) := Lib.hid (HOK3.out.trans ok)
          have hS4 := (⟨range_ok hS3.1 ok, range_ok hS3.2 ok⟩ : _ ∧ _)
          clear ok
          refine HK.out.out _ _ (fun _ => hS4) (fun _ => ?_)
          clear HK K
          try go_frame
          have HH5 : Hid (V4.heap[V2.heap.size]? = some (.cells #[.int .u8 0, .int .i64 0, .int .i64 0, .int .i64 0, .int .i64 0, .int .i64 0, .int .i64 0, .int .i64 0, .bool false, .slice none 0 0, .int .i64 0, .int .i64 0, .slice none 0 0, .slice none 0 0, .slice none 0 0, .slice none 0 0, .int .i64 0, .int .i64 0, .int .i64 0, .slice none 0 0] 95 (0, 0))) := Lib.hid (blk_ok HD3.out HZ5.out)
          have HH6 : Hid (V4.heap[V3.heap.size]? = some (.cells #[.int .i64 0, .int .i64 0, .slice none 0 0, .slice none 0 0, .slice none 0 0, .slice none 0 0, .slice none 0 0] 97 (0, 0))) := Lib.hid (blk_ok (Ok.refl _) HZ6.out)
          have HLT2 : Hid (LtL V4 W.heap.size ra x) := Lib.hid ((HLT.out.hi (Hi.ok (HD1.out.trans (HD2.out.trans HD3.out)))).mono HOK0.out.size)
          have HIM2 : Hid (ImL V4 W.heap.size qa m) := Lib.hid ((HIM.out.hi (Hi.ok (HD2.out.trans HD3.out))).mono HOK1.out.size)
          have HNE : Hid (V2.heap.size ≠ V3.heap.size) := Lib.hid (by have h1 := lt_raw HZ5.out; have h2 : V3.heap.size ≤ V3.heap.size := Nat.le_refl _; omega)
          have HG5 : Hid (B0 ≤ V2.heap.size ∧ B0 ≤ V3.heap.size) := Lib.hid (by rw [← HB0.out]; exact ⟨(HD0.out.trans HD1.out).size, (HD0.out.trans (HD1.out.trans HD2.out)).size⟩)
          have HXO : Hid (Ok W V4) := Lib.hid HOK4.out
          have hSV := hS4
          obtain ⟨g5, hg5⟩ : ∃ g5, V2.heap.size = g5 := ⟨_, rfl⟩
          obtain ⟨g6, hg6⟩ : ∃ g6, V3.heap.size = g6 := ⟨_, rfl⟩
          rw [hg5, hg6] at HNE HG5
          rw [hg5] at HH5 ⊢
          rw [hg6] at HH6 ⊢
          clear hg5 hg6 HZ5 HZ6 HLT HIM HD0 HOK0 HD1 HOK1 HD2 HOK2 HD3 HOK3 HOK4 hS0 hS1 hS2 hS3 hS4
          generalize V4 = V at *
          have HMK := Lib.hid (lentR_mk HH5.out rfl HH6.out rfl HNE.out ⟨Nat.le_trans HV0.out.1 HG5.out.1, Nat.le_trans HV0.out.1 HG5.out.2⟩ HLT2.out HIM2.out HXO.out)
          refine Until.one (i := 6) (by kernel_rfl) rfl (fun K hK => ?_)
          have HK := Lib.hid hK
          clear hK
          rw [if_pos (by rfl)]
          refine wp_store_mid 95 (.tmp 5) (.tmp 30) rfl g5 0 (ra.cells x).toArray rfl rfl HMK.out.1 (info95a ra x) (cells_one ra x) ?_
          have hS9 := (⟨range_block hSV.1 (sets_other g5 (ra.cells x) 0 V g (by have := HV0.out; have := HG5.out; omega)), range_block hSV.2 (sets_other g5 (ra.cells x) 0 V (g + 1) (by have := HV0.out; have := HG5.out; omega))⟩ : _ ∧ _)
          rw [List.toList_toArray]
          obtain ⟨V6, hV6⟩ : ∃ V6, V.setCells g5 0 (ra.cells x) = V6 := ⟨_, rfl⟩
          rw [hV6] at HMK hS9 ⊢
          clear hV6
          refine HK.out.out _ _ (fun _ => hS9) (fun _ => ?_)
          have hSA := (⟨range_block hS9.1 (sets_other g6 (qa.cells m) 0 V6 g (by have := HV0.out; have := HG5.out; omega)), range_block hS9.2 (sets_other g6 (qa.cells m) 0 V6 (g + 1) (by have := HV0.out; have := HG5.out; omega))⟩ : _ ∧ _)
          have HSA := Lib.hid hSA
          clear hSA
          clear HK K hS9 hSV HH5 HH6 HLT2 HIM2 HXO
          try go_frame
          refine Until.one (i := 7) (by kernel_rfl) rfl (fun K hK => ?_)
          have HK := Lib.hid hK
          clear hK
          rw [if_pos (by rfl)]
          refine wp_store_mid 97 (.tmp 6) (.tmp 32) rfl g6 0 (qa.cells m).toArray rfl rfl HMK.out.2.1 (info97a qa m) (cells_one7 qa m) ?_
          rw [List.toList_toArray]
          refine HK.out.out _ _ (fun h => absurd (h.symm.trans (by kernel_rfl : _ = true)) Bool.false_ne_true) (fun _ => ?_)
          clear HK K
          try go_frame
          refine Until.done (by kernel_rfl) ?_ _
          refine HKK.out _ _ ?_
          clear HKK
          go_meet
          exact ⟨g5, g6, ra, qa, rfl, rfl, HMK.out.2.2, HSA.out⟩
        · have HK := Lib.hid hK
          clear hK
          go_simp
          have ok : Ok V2 (V2.alloc (.cells #[.int .i64 0, .int .i64 0, .slice none 0 0, .slice none 0 0, .slice none 0 0, .slice none 0 0, .slice none 0 0] 97)) := (Ok.refl _).alloc _
          have HD2 := Lib.hid ok
          have HZ6 : Hid ((V2.alloc (.cells #[.int .i64 0, .int .i64 0, .slice none 0 0, .slice none 0 0, .slice none 0 0, .slice none 0 0, .slice none 0 0] 97)).heap[V2.heap.size]? = some (.cells #[.int .i64 0, .int .i64 0, .slice none 0 0, .slice none 0 0, .slice none 0 0, .slice none 0 0, .slice none 0 0] 97 (0, 0))) := Lib.hid (heap_alloc_new V2 _)
          generalize V2.alloc (.cells #[.int .i64 0, .int .i64 0, .slice none 0 0, .slice none 0 0, .slice none 0 0, .slice none 0 0, .slice none 0 0] 97) = V3 at *
          have HOK3 : Hid (Ok W V3) := Lib.hid (HOK2.out.trans ok)
          have hS3 := (⟨range_ok hS2.1 ok, range_ok hS2.2 ok⟩ : _ ∧ _)
          clear ok
          refine HK.out.out _ _ (fun _ => hS3) (fun _ => ?_)
          clear HK K
          try go_frame
          refine Until.one (i := 4) (by kernel_rfl) rfl (fun K hK => ?_)
          have HK := Lib.hid hK
          clear hK
          go_simp
          have ok : Ok V3 (V3.alloc (.cells #[.int .u8 0, .int .i64 0, .int .i64 0, .int .i64 0, .int .i64 0, .int .i64 0, .int .i64 0, .int .i64 0, .bool false, .slice none 0 0, .int .i64 0, .int .i64 0, .slice none 0 0, .slice none 0 0, .slice none 0 0, .slice none 0 0, .int .i64 0, .int .i64 0, .int .i64 0, .slice none 0 0] 95)) := (Ok.refl _).alloc _
          have HD3 := Lib.hid ok
          have HZ5 : Hid ((V3.alloc (.cells #[.int .u8 0, .int .i64 0, .int .i64 0, .int .i64 0, .int .i64 0, .int .i64 0, .int .i64 0, .int .i64 0, .bool false, .slice none 0 0, .int .i64 0, .int .i64 0, .slice none 0 0, .slice none 0 0, .slice none 0 0, .slice none 0 0, .int .i64 0, .int .i64 0, .int .i64 0, .slice none 0 0] 95)).heap[V3.heap.size]? = some (.cells #[.int .u8 0, .int .i64 0, .int .i64 0, .int .i64 0, .int .i64 0, .int .i64 0, .int .i64 0, .int .i64 0, .bool false, .slice none 0 0, .int .i64 0, .int .i64 0, .slice none 0 0, .slice none 0 0, .slice none 0 0, .slice none 0 0, .int .i64 0, .int .i64 0, .int .i64 0, .slice none 0 0] 95 (0, 0))) := Lib.hid (heap_alloc_new V3 _)
          generalize V3.alloc (.cells #[.int .u8 0, .int .i64 0, .int .i64 0, .int .i64 0, .int .i64 0, .int .i64 0, .int .i64 0, .int .i64 0, .bool false, .slice none 0 0, .int .i64 0, .int .i64 0, .slice none 0 0, .slice none 0 0, .slice none 0 0, .slice none 0 0, .int .i64 0, .int .i64 0, .int .i64 0, .slice none 0 0] 95) = V4 at *
          have HOK4 : Hid (Ok W V4) := Lib.hid (HOK3.out.trans ok)
          have hS4 := (⟨range_ok hS3.1 ok, range_ok hS3.2 ok⟩ : _ ∧ _)
          clear ok
          refine HK.out.out _ _ (fun _ => hS4) (fun _ => ?_)
          clear HK K
          try go_frame
          have HH5 : Hid (V4.heap[V3.heap.size]? = some (.cells #[.int .u8 0, .int .i64 0, .int .i64 0, .int .i64 0, .int .i64 0, .int .i64 0, .int .i64 0, .int .i64 0, .bool false, .slice none 0 0, .int .i64 0, .int .i64 0, .slice none 0 0, .slice none 0 0, .slice none 0 0, .slice none 0 0, .int .i64 0, .int .i64 0, .int .i64 0, .slice none 0 0] 95 (0, 0))) := Lib.hid (blk_ok (Ok.refl _) HZ5.out)
          have HH6 : Hid (V4.heap[V2.heap.size]? = some (.cells #[.int .i64 0, .int .i64 0, .slice none 0 0, .slice none 0 0, .slice none 0 0, .slice none 0 0, .slice none 0 0] 97 (0, 0))) := Lib.hid (blk_ok HD3.out HZ6.out)
          have HLT2 : Hid (LtL V4 W.heap.size ra x) := Lib.hid ((HLT.out.hi (Hi.ok (HD1.out.trans (HD2.out.trans HD3.out)))).mono HOK0.out.size)
          have HIM2 : Hid (ImL V4 W.heap.size qa m) := Lib.hid ((HIM.out.hi (Hi.ok (HD2.out.trans HD3.out))).mono HOK1.out.size)
          have HNE : Hid (V3.heap.size ≠ V2.heap.size) := Lib.hid (by have h1 := lt_raw HZ6.out; have h2 : V3.heap.size ≤ V3.heap.size := Nat.le_refl _; omega)
          have HG5 : Hid (B0 ≤ V3.heap.size ∧ B0 ≤ V2.heap.size) := Lib.hid (by rw [← HB0.out]; exact ⟨(HD0.out.trans (HD1.out.trans HD2.out)).size, (HD0.out.trans HD1.out).size⟩)
          have HXO : Hid (Ok W V4) := Lib.hid HOK4.out
          have hSV := hS4
          obtain ⟨g5, hg5⟩ : ∃ g5, V3.heap.size = g5 := ⟨_, rfl⟩
          obtain ⟨g6, hg6⟩ : ∃ g6, V2.heap.size = g6 := ⟨_, rfl⟩
          rw [hg5, hg6] at HNE HG5
          rw [hg5] at HH5 ⊢
          rw [hg6] at HH6 ⊢
          clear hg5 hg6 HZ5 HZ6 HLT HIM HD0 HOK0 HD1 HOK1 HD2 HOK2 HD3 HOK3 HOK4 hS0 hS1 hS2 hS3 hS4
          generalize V4 = V at *
          have HMK := Lib.hid (lentR_mk HH5.out rfl HH6.out rfl HNE.out ⟨Nat.le_trans HV0.out.1 HG5.out.1, Nat.le_trans HV0.out.1 HG5.out.2⟩ HLT2.out HIM2.out HXO.out)
          refine Until.one (i := 6) (by kernel_rfl) rfl (fun K hK => ?_)
          have HK := Lib.hid hK
          clear hK
          rw [if_pos (by rfl)]
          refine wp_store_mid 95 (.tmp 5) (.tmp 30) rfl g5 0 (ra.cells x).toArray rfl rfl HMK.out.1 (info95a ra x) (cells_one ra x) ?_
          have hS9 := (⟨range_block hSV.1 (sets_other g5 (ra.cells x) 0 V g (by have := HV0.out; have := HG5.out; omega)), range_block hSV.2 (sets_other g5 (ra.cells x) 0 V (g + 1) (by have := HV0.out; have := HG5.out; omega))⟩ : _ ∧ _)
          rw [List.toList_toArray]
          obtain ⟨V6, hV6⟩ : ∃ V6, V.setCells g5 0 (ra.cells x) = V6 := ⟨_, rfl⟩
          rw [hV6] at HMK hS9 ⊢
          clear hV6
          refine HK.out.out _ _ (fun _ => hS9) (fun _ => ?_)
          have hSA := (⟨range_block hS9.1 (sets_other g6 (qa.cells m) 0 V6 g (by have := HV0.out; have := HG5.out; omega)), range_block hS9.2 (sets_other g6 (qa.cells m) 0 V6 (g + 1) (by have := HV0.out; have := HG5.out; omega))⟩ : _ ∧ _)
          have HSA := Lib.hid hSA
          clear hSA
          clear HK K hS9 hSV HH5 HH6 HLT2 HIM2 HXO
          try go_frame
          refine Until.one (i := 7) (by kernel_rfl) rfl (fun K hK => ?_)
          have HK := Lib.hid hK
          clear hK
          rw [if_pos (by rfl)]
          refine wp_store_mid 97 (.tmp 6) (.tmp 32) rfl g6 0 (qa.cells m).toArray rfl rfl HMK.out.2.1 (info97a qa m) (cells_one7 qa m) ?_
          rw [List.toList_toArray]
          refine HK.out.out _ _ (fun h => absurd (h.symm.trans (by kernel_rfl : _ = true)) Bool.false_ne_true) (fun _ => ?_)
          clear HK K
          try go_frame
          refine Until.done (by kernel_rfl) ?_ _
          refine HKK.out _ _ ?_
          clear HKK
          go_meet
          exact ⟨g5, g6, ra, qa, rfl, rfl, HMK.out.2.2, HSA.out⟩
      · have HK := Lib.hid hK
        clear hK
        go_simp
        have ok : Ok V1 (V1.alloc (.cells #[.int .u8 0, .int .i64 0, .int .i64 0, .int .i64 0, .int .i64 0, .int .i64 0, .int .i64 0, .int .i64 0, .bool false, .slice none 0 0, .int .i64 0, .int .i64 0, .slice none 0 0, .slice none 0 0, .slice none 0 0, .slice none 0 0, .int .i64 0, .int .i64 0, .int .i64 0, .slice none 0 0] 95)) := (Ok.refl _).alloc _
        have HD1 := Lib.hid ok
        have HZ5 : Hid ((V1.alloc (.cells #[.int .u8 0, .int .i64 0, .int .i64 0, .int .i64 0, .int .i64 0, .int .i64 0, .int .i64 0, .int .i64 0, .bool false, .slice none 0 0, .int .i64 0, .int .i64 0, .slice none 0 0, .slice none 0 0, .slice none 0 0, .slice none 0 0, .int .i64 0, .int .i64 0, .int .i64 0, .slice none 0 0] 95)).heap[V1.heap.size]? = some (.cells #[.int .u8 0, .int .i64 0, .int .i64 0, .int .i64 0, .int .i64 0, .int .i64 0, .int .i64 0, .int .i64 0, .bool false, .slice none 0 0, .int .i64 0, .int .i64 0, .slice none 0 0, .slice none 0 0, .slice none 0 0, .slice none 0 0, .int .i64 0, .int .i64 0, .int .i64 0, .slice none 0 0] 95 (0, 0))) := Lib.hid (heap_alloc_new V1 _)
        generalize V1.alloc (.cells #[.int .u8 0, .int .i64 0, .int .i64 0, .int .i64 0, .int .i64 0, .int .i64 0, .int .i64 0, .int .i64 0, .bool false, .slice none 0 0, .int .i64 0, .int .i64 0, .slice none 0 0, .slice none 0 0, .slice none 0 0, .slice none 0 0, .int .i64 0, .int .i64 0, .int .i64 0, .slice none 0 0] 95) = V2 at *
        have HOK2 : Hid (Ok W V2) := Lib.hid (HOK1.out.trans ok)
        have hS2 := (⟨range_ok hS1.1 ok, range_ok hS1.2 ok⟩ : _ ∧ _)
        clear ok
        refine HK.out.out _ _ (fun _ => hS2) (fun _ => ?_)
        clear HK K
        try go_frame
        refine Until.two (i := 3) (k := 5) (by kernel_rfl) rfl rfl (fun K hK => ?_) (fun K hK => ?_)
        · have HK := Lib.hid hK
          clear hK
          go_simp
          refine (lentImage_w q m V2 (HM.out.ok HOK2.out) ⟨HFI.out, HMB.out⟩).mono ?_
          rintro _ V3 ⟨qa, he, him, ok⟩
          rw [IR.val_eq] at he
          subst he
          have HIM := Lib.hid him
          have HD2 := Lib.hid ok
          clear him
          have HOK3 : Hid (Ok W V3) := Lib.hid (HOK2.out.trans ok)
          have hS3 := (⟨range_ok hS2.1 ok, range_ok hS2.2 ok⟩ : _ ∧ _)
          clear ok
          refine HK.out.out _ _ (fun _ => hS3) (fun _ => ?_)
          clear HK K
          try go_frame
          refine Until.one (i := 5) (by kernel_rfl) rfl (fun K hK => ?_)
          have HK := Lib.hid hK
          clear hK
          go_simp
          have ok : Ok V3 (V3.alloc (.cells #[.int .i64 0, .int .i64 0, .slice none 0 0, .slice none 0 0, .slice none 0 0, .slice none 0 0, .slice none 0 0] 97)) := (Ok.refl _).alloc _
          have HD3 := Lib.hid ok
          have HZ6 : Hid ((V3.alloc (.cells #[.int .i64 0, .int .i64 0, .slice none 0 0, .slice none 0 0, .slice none 0 0, .slice none 0 0, .slice none 0 0] 97)).heap[V3.heap.size]? = some (.cells #[.int .i64 0, .int .i64 0, .slice none 0 0, .slice none 0 0, .slice none 0 0, .slice none 0 0, .slice none 0 0] 97 (0, 0))) := Lib.hid (heap_alloc_new V3 _)
          generalize V3.alloc (.cells #[.int .i64 0, .int .i64 0, .slice none 0 0, .slice none 0 0, .slice none 0 0, .slice none 0 0, .slice none 0 0] 97) = V4 at *
          have HOK4 : Hid (Ok W V4) := Lib.hid (HOK3.out.trans ok)
          have hS4 := (⟨range_ok hS3.1 ok, range_ok hS3.2 ok⟩ : _ ∧ _)
          clear ok
          refine HK.out.out _ _ (fun _ => hS4) (fun _ => ?_)
          clear HK K
          try go_frame
          have HH5 : Hid (V4.heap[V1.heap.size]? = some (.cells #[.int .u8 0, .int .i64 0, .int .i64 0, .int .i64 0, .int .i64 0, .int .i64 0, .int .i64 0, .int .i64 0, .bool false, .slice none 0 0, .int .i64 0, .int .i64 0, .slice none 0 0, .slice none 0 0, .slice none 0 0, .slice none 0 0, .int .i64 0, .int .i64 0, .int .i64 0, .slice none 0 0] 95 (0, 0))) := Lib.hid (blk_ok (HD2.out.trans HD3.out) HZ5.out)
          have HH6 : Hid (V4.heap[V3.heap.size]? = some (.cells #[.int .i64 0, .int .i64 0, .slice none 0 0, .slice none 0 0, .slice none 0 0, .slice none 0 0, .slice none 0 0] 97 (0, 0))) := Lib.hid (blk_ok (Ok.refl _) HZ6.out)
          have HLT2 : Hid (LtL V4 W.heap.size ra x) := Lib.hid ((HLT.out.hi (Hi.ok (HD1.out.trans (HD2.out.trans HD3.out)))).mono HOK0.out.size)
          have HIM2 : Hid (ImL V4 W.heap.size qa m) := Lib.hid ((HIM.out.hi (Hi.ok HD3.out)).mono HOK2.out.size)
          have HNE : Hid (V1.heap.size ≠ V3.heap.size) := Lib.hid (by have h1 := lt_raw HZ5.out; have h2 : V2.heap.size ≤ V3.heap.size := HD2.out.size; omega)
          have HG5 : Hid (B0 ≤ V1.heap.size ∧ B0 ≤ V3.heap.size) := Lib.hid (by rw [← HB0.out]; exact ⟨HD0.out.size, (HD0.out.trans (HD1.out.trans HD2.out)).size⟩)
          have HXO : Hid (Ok W V4) := Lib.hid HOK4.out
          have hSV := hS4
          obtain ⟨g5, hg5⟩ : ∃ g5, V1.heap.size = g5 := ⟨_, rfl⟩
          obtain ⟨g6, hg6⟩ : ∃ g6, V3.heap.size = g6 := ⟨_, rfl⟩
          rw [hg5, hg6] at HNE HG5
          rw [hg5] at HH5 ⊢
          rw [hg6] at HH6 ⊢
          clear hg5 hg6 HZ5 HZ6 HLT HIM HD0 HOK0 HD1 HOK1 HD2 HOK2 HD3 HOK3 HOK4 hS0 hS1 hS2 hS3 hS4
          generalize V4 = V at *
          have HMK := Lib.hid (lentR_mk HH5.out rfl HH6.out rfl HNE.out ⟨Nat.le_trans HV0.out.1 HG5.out.1, Nat.le_trans HV0.out.1 HG5.out.2⟩ HLT2.out HIM2.out HXO.out)
          refine Until.one (i := 6) (by kernel_rfl) rfl (fun K hK => ?_)
          have HK := Lib.hid hK
          clear hK
          rw [if_pos (by rfl)]
          refine wp_store_mid 95 (.tmp 5) (.tmp 30) rfl g5 0 (ra.cells x).toArray rfl rfl HMK.out.1 (info95a ra x) (cells_one ra x) ?_
          have hS9 := (⟨range_block hSV.1 (sets_other g5 (ra.cells x) 0 V g (by have := HV0.out; have := HG5.out; omega)), range_block hSV.2 (sets_other g5 (ra.cells x) 0 V (g + 1) (by have := HV0.out; have := HG5.out; omega))⟩ : _ ∧ _)
          rw [List.toList_toArray]
          obtain ⟨V6, hV6⟩ : ∃ V6, V.setCells g5 0 (ra.cells x) = V6 := ⟨_, rfl⟩
          rw [hV6] at HMK hS9 ⊢
          clear hV6
          refine HK.out.out _ _ (fun _ => hS9) (fun _ => ?_)
          have hSA := (⟨range_block hS9.1 (sets_other g6 (qa.cells m) 0 V6 g (by have := HV0.out; have := HG5.out; omega)), range_block hS9.2 (sets_other g6 (qa.cells m) 0 V6 (g + 1) (by have := HV0.out; have := HG5.out; omega))⟩ : _ ∧ _)
          have HSA := Lib.hid hSA
          clear hSA
          clear HK K hS9 hSV HH5 HH6 HLT2 HIM2 HXO
          try go_frame
          refine Until.one (i := 7) (by kernel_rfl) rfl (fun K hK => ?_)
          have HK := Lib.hid hK
          clear hK
          rw [if_pos (by rfl)]
          refine wp_store_mid 97 (.tmp 6) (.tmp 32) rfl g6 0 (qa.cells m).toArray rfl rfl HMK.out.2.1 (info97a qa m) (cells_one7 qa m) ?_
          rw [List.toList_toArray]
          refine HK.out.out _ _ (fun h => absurd (h.symm.trans (by kernel_rfl : _ = true)) Bool.false_ne_true) (fun _ => ?_)
          clear HK K
          try go_frame
          refine Until.done (by kernel_rfl) ?_ _
          refine HKK.out _ _ ?_
          clear HKK
          go_meet
          exact ⟨g5, g6, ra, qa, rfl, rfl, HMK.out.2.2, HSA.out⟩
        · have HK := Lib.hid hK
          clear hK
          go_simp
          have ok : Ok V2 (V2.alloc (.cells #[.int .i64 0, .int .i64 0, .slice none 0 0, .slice none 0 0, .slice none 0 0, .slice none 0 0, .slice none 0 0] 97)) := (Ok.refl _).alloc _
          have HD2 := Lib.hid ok
          have HZ6 : Hid ((V2.alloc (.cells #[.int .i64 0, .int .i64 0, .slice none 0 0, .slice none 0 0, .slice none 0 0, .slice none 0 0, .slice none 0 0] 97)).heap[V2.heap.size]? = some (.cells #[.int .i64 0, .int .i64 0, .slice none 0 0, .slice none 0 0, .slice none 0 0, .slice none 0 0, .slice none 0 0] 97 (0, 0))) := Lib.hid (heap_alloc_new V2 _)
          generalize V2.alloc (.cells #[.int .i64 0, .int .i64 0, .slice none 0 0, .slice none 0 0, .slice none 0 0, .slice none 0 0, .slice none 0 0] 97) = V3 at *
          have HOK3 : Hid (Ok W V3) := Lib.hid (HOK2.out.trans ok)
          have hS3 := (⟨range_ok hS2.1 ok, range_ok hS2.2 ok⟩ : _ ∧ _)
          clear ok
          refine HK.out.out _ _ (fun _ => hS3) (fun _ => ?_)
          clear HK K
          try go_frame
          refine Until.one (i := 3) (by kernel_rfl) rfl (fun K hK => ?_)
          have HK := Lib.hid hK
          clear hK
          go_simp
          refine (lentImage_w q m V3 (HM.out.ok HOK3.out) ⟨HFI.out, HMB.out⟩).mono ?_
          rintro _ V4 ⟨qa, he, him, ok⟩
          rw [IR.val_eq] at he
          subst he
          have HIM := Lib.hid him
          have HD3 := Lib.hid ok
          clear him
          have HOK4 : Hid (Ok W V4) := Lib.hid (HOK3.out.trans ok)
          have hS4 := (⟨range_ok hS3.1 ok, range_ok hS3.2 ok⟩ : _ ∧ _)
          clear ok
          refine HK.out.out _ _ (fun _ => hS4) (fun _ => ?_)
          clear HK K
          try go_frame
          have HH5 : Hid (V4.heap[V1.heap.size]? = some (.cells #[.int .u8 0, .int .i64 0, .int .i64 0, .int .i64 0, .int .i64 0, .int .i64 0, .int .i64 0, .int .i64 0, .bool false, .slice none 0 0, .int .i64 0, .int .i64 0, .slice none 0 0, .slice none 0 0, .slice none 0 0, .slice none 0 0, .int .i64 0, .int .i64 0, .int .i64 0, .slice none 0 0] 95 (0, 0))) := Lib.hid (blk_ok (HD2.out.trans HD3.out) HZ5.out)
          have HH6 : Hid (V4.heap[V2.heap.size]? = some (.cells #[.int .i64 0, .int .i64 0, .slice none 0 0, .slice none 0 0, .slice none 0 0, .slice none 0 0, .slice none 0 0] 97 (0, 0))) := Lib.hid (blk_ok HD3.out HZ6.out)
          have HLT2 : Hid (LtL V4 W.heap.size ra x) := Lib.hid ((HLT.out.hi (Hi.ok (HD1.out.trans (HD2.out.trans HD3.out)))).mono HOK0.out.size)
          have HIM2 : Hid (ImL V4 W.heap.size qa m) := Lib.hid ((HIM.out.hi (Hi.ok (Ok.refl _))).mono HOK3.out.size)
          have HNE : Hid (V1.heap.size ≠ V2.heap.size) := Lib.hid (by have h1 := lt_raw HZ5.out; have h2 : V2.heap.size ≤ V2.heap.size := Nat.le_refl _; omega)
          have HG5 : Hid (B0 ≤ V1.heap.size ∧ B0 ≤ V2.heap.size) := Lib.hid (by rw [← HB0.out]; exact ⟨HD0.out.size, (HD0.out.trans HD1.out).size⟩)
          have HXO : Hid (Ok W V4) := Lib.hid HOK4.out
          have hSV := hS4
          obtain ⟨g5, hg5⟩ : ∃ g5, V1.heap.size = g5 := ⟨_, rfl⟩
          obtain ⟨g6, hg6⟩ : ∃ g6, V2.heap.size = g6 := ⟨_, rfl⟩
          rw [hg5, hg6] at HNE HG5
          rw [hg5] at HH5 ⊢
          rw [hg6] at HH6 ⊢
          clear hg5 hg6 HZ5 HZ6 HLT HIM HD0 HOK0 HD1 HOK1 HD2 HOK2 HD3 HOK3 HOK4 hS0 hS1 hS2 hS3 hS4
          generalize V4 = V at *
          have HMK := Lib.hid (lentR_mk HH5.out rfl HH6.out rfl HNE.out ⟨Nat.le_trans HV0.out.1 HG5.out.1, Nat.le_trans HV0.out.1 HG5.out.2⟩ HLT2.out HIM2.out HXO.out)
          refine Until.one (i := 6) (by kernel_rfl) rfl (fun K hK => ?_)
          have HK := Lib.hid hK
          clear hK
          rw [if_pos (by rfl)]
          refine wp_store_mid 95 (.tmp 5) (.tmp 30) rfl g5 0 (ra.cells x).toArray rfl rfl HMK.out.1 (info95a ra x) (cells_one ra x) ?_
          have hS9 := (⟨range_block hSV.1 (sets_other g5 (ra.cells x) 0 V g (by have := HV0.out; have := HG5.out; omega)), range_block hSV.2 (sets_other g5 (ra.cells x) 0 V (g + 1) (by have := HV0.out; have := HG5.out; omega))⟩ : _ ∧ _)
          rw [List.toList_toArray]
          obtain ⟨V6, hV6⟩ : ∃ V6, V.setCells g5 0 (ra.cells x) = V6 := ⟨_, rfl⟩
          rw [hV6] at HMK hS9 ⊢
          clear hV6
          refine HK.out.out _ _ (fun _ => hS9) (fun _ => ?_)
          have hSA := (⟨range_block hS9.1 (sets_other g6 (qa.cells m) 0 V6 g (by have := HV0.out; have := HG5.out; omega)), range_block hS9.2 (sets_other g6 (qa.cells m) 0 V6 (g + 1) (by have := HV0.out; have := HG5.out; omega))⟩ : _ ∧ _)
          have HSA := Lib.hid hSA
          clear hSA
          clear HK K hS9 hSV HH5 HH6 HLT2 HIM2 HXO
          try go_frame
          refine Until.one (i := 7) (by kernel_rfl) rfl (fun K hK => ?_)
          have HK := Lib.hid hK
          clear hK
          rw [if_pos (by rfl)]
          refine wp_store_mid 97 (.tmp 6) (.tmp 32) rfl g6 0 (qa.cells m).toArray rfl rfl HMK.out.2.1 (info97a qa m) (cells_one7 qa m) ?_
          rw [List.toList_toArray]
          refine HK.out.out _ _ (fun h => absurd (h.symm.trans (by kernel_rfl : _ = true)) Bool.false_ne_true) (fun _ => ?_)
          clear HK K
          try go_frame
          refine Until.done (by kernel_rfl) ?_ _
          refine HKK.out _ _ ?_
          clear HKK
          go_meet
          exact ⟨g5, g6, ra, qa, rfl, rfl, HMK.out.2.2, HSA.out⟩
      · have HK := Lib.hid hK
        clear hK
        go_simp
        have ok : Ok V1 (V1.alloc (.cells #[.int .i64 0, .int .i64 0, .slice none 0 0, .slice none 0 0, .slice none 0 0, .slice none 0 0, .slice none 0 0] 97)) := (Ok.refl _).alloc _
        have HD1 := Lib.hid ok
        have HZ6 : Hid ((V1.alloc (.cells #[.int .i64 0, .int .i64 0, .slice none 0 0, .slice none 0 0, .slice none 0 0, .slice none 0 0, .slice none 0 0] 97)).heap[V1.heap.size]? = some (.cells #[.int .i64 0, .int .i64 0, .slice none 0 0, .slice none 0 0, .slice none 0 0, .slice none 0 0, .slice none 0 0] 97 (0, 0))) := Lib.hid (heap_alloc_new V1 _)
        generalize V1.alloc (.cells #[.int .i64 0, .int .i64 0, .slice none 0 0, .slice none 0 0, .slice none 0 0, .slice none 0 0, .slice none 0 0] 97) = V2 at *
        have HOK2 : Hid (Ok W V2) := Lib.hid (HOK1.out.trans ok)
        have hS2 := (⟨range_ok hS1.1 ok, range_ok hS1.2 ok⟩ : _ ∧ _)
        clear ok
        refine HK.out.out _ _ (fun _ => hS2) (fun _ => ?_)
        clear HK K
        try go_frame
        refine Until.two (i := 3) (k := 4) (by kernel_rfl) rfl rfl (fun K hK => ?_) (fun K hK => ?_)
        · have HK := Lib.hid hK
          clear hK
          go_simp
          refine (lentImage_w q m V2 (HM.out.ok HOK2.out) ⟨HFI.out, HMB.out⟩).mono ?_
          rintro _ V3 ⟨qa, he, him, ok⟩
          rw [IR.val_eq] at he
          subst he
          have HIM := Lib.hid him
          have HD2 := Lib.hid ok
          clear him
          have HOK3 : Hid (Ok W V3) := Lib.hid (HOK2.out.trans ok)
          have hS3 := (⟨range_ok hS2.1 ok, range_ok hS2.2 ok⟩ : _ ∧ _)
          clear ok
          refine HK.out.out _ _ (fun _ => hS3) (fun _ => ?_)
          clear HK K
          try go_frame
          refine Until.one (i := 4) (by kernel_rfl) rfl (fun K hK => ?_)
          have HK := Lib.hid hK
          clear hK
          go_simp
          have ok : Ok V3 (V3.alloc (.cells #[.int .u8 0, .int .i64 0, .int .i64 0, .int .i64 0, .int .i64 0, .int .i64 0, .int .i64 0, .int .i64 0, .bool false, .slice none 0 0, .int .i64 0, .int .i64 0, .slice none 0 0, .slice none 0 0, .slice none 0 0, .slice none 0 0, .int .i64 0, .int .i64 0, .int .i64 0, .slice none 0 0] 95)) := (Ok.refl _).alloc _
          have HD3 := Lib.hid ok
          have HZ5 : Hid ((V3.alloc (.cells #[.int .u8 0, .int .i64 0, .int .i64 0, .int .i64 0, .int .i64 0, .int .i64 0, .int .i64 0, .int .i64 0, .bool false, .slice none 0 0, .int .i64 0, .int .i64 0, .slice none 0 0, .slice none 0 0, .slice none 0 0, .slice none 0 0, .int .i64 0, .int .i64 0, .int .i64 0, .slice none 0 0] 95)).heap[V3.heap.size]? = some (.cells #[.int .u8 0, .int .i64 0, .int .i64 0, .int .i64 0, .int .i64 0, .int .i64 0, .int .i64 0, .int .i64 0, .bool false, .slice none 0 0, .int .i64 0, .int .i64 0, .slice none 0 0, .slice none 0 0, .slice none 0 0, .slice none 0 0, .int .i64 0, .int .i64 0, .int .i64 0, .slice none 0 0] 95 (0, 0))) := Lib.hid (heap_alloc_new V3 _)
          generalize V3.alloc (.cells #[.int .u8 0, .int .i64 0, .int .i64 0, .int .i64 0, .int .i64 0, .int .i64 0, .int .i64 0, .int .i64 0, .bool false, .slice none 0 0, .int .i64 0, .int .i64 0, .slice none 0 0, .slice none 0 0, .slice none 0 0, .slice none 0 0, .int .i64 0, .int .i64 0, .int .i64 0, .slice none 0 0] 95) = V4 at *
          have HOK4 : Hid (Ok W V4) := Lib.hid (HOK3.out.trans ok)
          have hS4 := (⟨range_ok hS3.1 ok, range_ok hS3.2 ok⟩ : _ ∧ _)
          clear ok
          refine HK.out.out _ _ (fun _ => hS4) (fun _ => ?_)
          clear HK K
          try go_frame
          have HH5 : Hid (V4.heap[V3.heap.size]? = some (.cells #[.int .u8 0, .int .i64 0, .int .i64 0, .int .i64 0, .int .i64 0, .int .i64 0, .int .i64 0, .int .i64 0, .bool false, .slice none 0 0, .int .i64 0, .int .i64 0, .slice none 0 0, .slice none 0 0, .slice none 0 0, .slice none 0 0, .int .i64 0, .int .i64 0, .int .i64 0, .slice none 0 0] 95 (0, 0))) := Lib.hid (blk_ok (Ok.refl _) HZ5.out)
          have HH6 : Hid (V4.heap[V1.heap.size]? = some (.cells #[.int .i64 0, .int .i64 0, .slice none 0 0, .slice none 0 0, .slice none 0 0, .slice none 0 0, .slice none 0 0] 97 (0, 0))) := Lib.hid (blk_ok (HD2.out.trans HD3.out) HZ6.out)
          have HLT2 : Hid (LtL V4 W.heap.size ra x) := Lib.hid ((HLT.out.hi (Hi.ok (HD1.out.trans (HD2.out.trans HD3.out)))).mono HOK0.out.size)
          have HIM2 : Hid (ImL V4 W.heap.size qa m) := Lib.hid ((HIM.out.hi (Hi.ok HD3.out)).mono HOK2.out.size)
          have HNE : Hid (V3.heap.size ≠ V1.heap.size) := Lib.hid (by have h1 := lt_raw HZ6.out; have h2 : V2.heap.size ≤ V3.heap.size := HD2.out.size; omega)
          have HG5 : Hid (B0 ≤ V3.heap.size ∧ B0 ≤ V1.heap.size) := Lib.hid (by rw [← HB0.out]; exact ⟨(HD0.out.trans (HD1.out.trans HD2.out)).size, HD0.out.size⟩)
          have HXO : Hid (Ok W V4) := Lib.hid HOK4.out
          have hSV := hS4
          obtain ⟨g5, hg5⟩ : ∃ g5, V3.heap.size = g5 := ⟨_, rfl⟩
          obtain ⟨g6, hg6⟩ : ∃ g6, V1.heap.size = g6 := ⟨_, rfl⟩
          rw [hg5, hg6] at HNE HG5
          rw [hg5] at HH5 ⊢
          rw [hg6] at HH6 ⊢
          clear hg5 hg6 HZ5 HZ6 HLT HIM HD0 HOK0 HD1 HOK1 HD2 HOK2 HD3 HOK3 HOK4 hS0 hS1 hS2 hS3 hS4
          generalize V4 = V at *
          have HMK := Lib.hid (lentR_mk HH5.out rfl HH6.out rfl HNE.out ⟨Nat.le_trans HV0.out.1 HG5.out.1, Nat.le_trans HV0.out.1 HG5.out.2⟩ HLT2.out HIM2.out HXO.out)
          refine Until.one (i := 6) (by kernel_rfl) rfl (fun K hK => ?_)
          have HK := Lib.hid hK
          clear hK
          rw [if_pos (by rfl)]
          refine wp_store_mid 95 (.tmp 5) (.tmp 30) rfl g5 0 (ra.cells x).toArray rfl rfl HMK.out.1 (info95a ra x) (cells_one ra x) ?_
          have hS9 := (⟨range_block hSV.1 (sets_other g5 (ra.cells x) 0 V g (by have := HV0.out; have := HG5.out; omega)), range_block hSV.2 (sets_other g5 (ra.cells x) 0 V (g + 1) (by have := HV0.out; have := HG5.out; omega))⟩ : _ ∧ _)
          rw [List.toList_toArray]
          obtain ⟨V6, hV6⟩ : ∃ V6, V.setCells g5 0 (ra.cells x) = V6 := ⟨_, rfl⟩
          rw [hV6] at HMK hS9 ⊢
          clear hV6
          refine HK.out.out _ _ (fun _ => hS9) (fun _ => ?_)
          have hSA := (⟨range_block hS9.1 (sets_other g6 (qa.cells m) 0 V6 g (by have := HV0.out; have := HG5.out; omega)), range_block hS9.2 (sets_other g6 (qa.cells m) 0 V6 (g + 1) (by have := HV0.out; have := HG5.out; omega))⟩ : _ ∧ _)
          have HSA := Lib.hid hSA
          clear hSA
          clear HK K hS9 hSV HH5 HH6 HLT2 HIM2 HXO
          try go_frame
          refine Until.one (i := 7) (by kernel_rfl) rfl (fun K hK => ?_)
          have HK := Lib.hid hK
          clear hK
          rw [if_pos (by rfl)]
          refine wp_store_mid 97 (.tmp 6) (.tmp 32) rfl g6 0 (qa.cells m).toArray rfl rfl HMK.out.2.1 (info97a qa m) (cells_one7 qa m) ?_
          rw [List.toList_toArray]
          refine HK.out.out _ _ (fun h => absurd (h.symm.trans (by kernel_rfl : _ = true)) Bool.false_ne_true) (fun _ => ?_)
          clear HK K
          try go_frame
          refine Until.done (by kernel_rfl) ?_ _
          refine HKK.out _ _ ?_
          clear HKK
          go_meet
          exact ⟨g5, g6, ra, qa, rfl, rfl, HMK.out.2.2, HSA.out⟩
        · have HK := Lib.hid hK
          clear hK
          go_simp
          have ok : Ok V2 (V2.alloc (.cells #[.int .u8 0, .int .i64 0, .int .i64 0, .int .i64 0, .int .i64 0, .int .i64 0, .int .i64 0, .int .i64 0, .bool false, .slice none 0 0, .int .i64 0, .int .i64 0, .slice none 0 0, .slice none 0 0, .slice none 0 0, .slice none 0 0, .int .i64 0, .int .i64 0, .int .i64 0, .slice none 0 0] 95)) := (Ok.refl _).alloc _
          have HD2 := Lib.hid ok
          have HZ5 : Hid ((V2.alloc (.cells #[.int .u8 0, .int .i64 0, .int .i64 0, .int .i64 0, .int .i64 0, .int .i64 0, .int .i64 0, .int .i64 0, .bool false, .slice none 0 0, .int .i64 0, .int .i64 0, .slice none 0 0, .slice none 0 0, .slice none 0 0, .slice none 0 0, .int .i64 0, .int .i64 0, .int .i64 0, .slice none 0 0] 95)).heap[V2.heap.size]? = some (.cells #[.int .u8 0, .int .i64 0, .int .i64 0, .int .i64 0, .int .i64 0, .int .i64 0, .int .i64 0, .int .i64 0, .bool false, .slice none 0 0, .int .i64 0, .int .i64 0, .slice none 0 0, .slice none 0 0, .slice none 0 0, .slice none 0 0, .int .i64 0, .int .i64 0, .int .i64 0, .slice none 0 0] 95 (0, 0))) := Lib.hid (heap_alloc_new V2 _)
          generalize V2.alloc (.cells #[.int .u8 0, .int .i64 0, .int .i64 0, .int .i64 0, .int .i64 0, .int .i64 0, .int .i64 0, .int .i64 0, .bool false, .slice none 0 0, .int .i64 0, .int .i64 0, .slice none 0 0, .slice none 0 0, .slice none 0 0, .slice none 0 0, .int .i64 0, .int .i64 0, .int .i64 0, .slice none 0 0] 95) = V3 at *
          have HOK3 : Hid (Ok W V3) := Lib.hid (HOK2.out.trans ok)
          have hS3 := (⟨range_ok hS2.1 ok, range_ok hS2.2 ok⟩ : _ ∧ _)
          clear ok
          refine HK.out.out _ _ (fun _ => hS3) (fun _ => ?_)
          clear HK K
          try go_frame
          refine Until.one (i := 3) (by kernel_rfl) rfl (fun K hK => ?_)
          have HK := Lib.hid hK
          clear hK
          go_simp
          refine (lentImage_w q m V3 (HM.out.ok HOK3.out) ⟨HFI.out, HMB.out⟩).mono ?_
          rintro _ V4 ⟨qa, he, him, ok⟩
          rw [IR.val_eq] at he
          subst he
          have HIM := Lib.hid him
          have HD3 := Lib.hid ok
          clear him
          have HOK4 : Hid (Ok W V4) := Lib.hid (HOK3.out.trans ok)
          have hS4 := (⟨range_ok hS3.1 ok, range_ok hS3.2 ok⟩ : _ ∧ _)
          clear ok
          refine HK.out.out _ _ (fun _ => hS4) (fun _ => ?_)
          clear HK K
          try go_frame
          have HH5 : Hid (V4.heap[V2.heap.size]? = some (.cells #[.int .u8 0, .int .i64 0, .int .i64 0, .int .i64 0, .int .i64 0, .int .i64 0, .int .i64 0, .int .i64 0, .bool false, .slice none 0 0, .int .i64 0, .int .i64 0, .slice none 0 0, .slice none 0 0, .slice none 0 0, .slice none 0 0, .int .i64 0, .int .i64 0, .int .i64 0, .slice none 0 0] 95 (0, 0))) := Lib.hid (blk_ok HD3.out HZ5.out)
          have HH6 : Hid (V4.heap[V1.heap.size]? = some (.cells #[.int .i64 0, .int .i64 0, .slice none 0 0, .slice none 0 0, .slice none 0 0, .slice none 0 0, .slice none 0 0] 97 (0, 0))) := Lib.hid (blk_ok (HD2.out.trans HD3.out) HZ6.out)
          have HLT2 : Hid (LtL V4 W.heap.size ra x) := Lib.hid ((HLT.out.hi (Hi.ok (HD1.out.trans (HD2.out.trans HD3.out)))).mono HOK0.out.size)
          have HIM2 : Hid (ImL V4 W.heap.size qa m) := Lib.hid ((HIM.out.hi (Hi.ok (Ok.refl _))).mono HOK3.out.size)
          have HNE : Hid (V2.heap.size ≠ V1.heap.size) := Lib.hid (by have h1 := lt_raw HZ6.out; have h2 : V2.heap.size ≤ V2.heap.size := Nat.le_refl _; omega)
          have HG5 : Hid (B0 ≤ V2.heap.size ∧ B0 ≤ V1.heap.size) := Lib.hid (by rw [← HB0.out]; exact ⟨(HD0.out.trans HD1.out).size, HD0.out.size⟩)
          have HXO : Hid (Ok W V4) := Lib.hid HOK4.out
          have hSV := hS4
          obtain ⟨g5, hg5⟩ : ∃ g5, V2.heap.size = g5 := ⟨_, rfl⟩
          obtain ⟨g6, hg6⟩ : ∃ g6, V1.heap.size = g6 := ⟨_, rfl⟩
          rw [hg5, hg6] at HNE HG5
          rw [hg5] at HH5 ⊢
          rw [hg6] at HH6 ⊢
          clear hg5 hg6 HZ5 HZ6 HLT HIM HD0 HOK0 HD1 HOK1 HD2 HOK2 HD3 HOK3 HOK4 hS0 hS1 hS2 hS3 hS4
          generalize V4 = V at *
          have HMK := Lib.hid (lentR_mk HH5.out rfl HH6.out rfl HNE.out ⟨Nat.le_trans HV0.out.1 HG5.out.1, Nat.le_trans HV0.out.1 HG5.out.2⟩ HLT2.out HIM2.out HXO.out)
          refine Until.one (i := 6) (by kernel_rfl) rfl (fun K hK => ?_)
          have HK := Lib.hid hK
          clear hK
          rw [if_pos (by rfl)]
          refine wp_store_mid 95 (.tmp 5) (.tmp 30) rfl g5 0 (ra.cells x).toArray rfl rfl HMK.out.1 (info95a ra x) (cells_one ra x) ?_
          have hS9 := (⟨range_block hSV.1 (sets_other g5 (ra.cells x) 0 V g (by have := HV0.out; have := HG5.out; omega)), range_block hSV.2 (sets_other g5 (ra.cells x) 0 V (g + 1) (by have := HV0.out; have := HG5.out; omega))⟩ : _ ∧ _)
          rw [List.toList_toArray]
          obtain ⟨V6, hV6⟩ : ∃ V6, V.setCells g5 0 (ra.cells x) = V6 := ⟨_, rfl⟩
          rw [hV6] at HMK hS9 ⊢
          clear hV6
          refine HK.out.out _ _ (fun _ => hS9) (fun _ => ?_)
          have hSA := (⟨range_block hS9.1 (sets_other g6 (qa.cells m) 0 V6 g (by have := HV0.out; have := HG5.out; omega)), range_block hS9.2 (sets_other g6 (qa.cells m) 0 V6 (g + 1) (by have := HV0.out; have := HG5.out; omega))⟩ : _ ∧ _)
          have HSA := Lib.hid hSA
          clear hSA
          clear HK K hS9 hSV HH5 HH6 HLT2 HIM2 HXO
          try go_frame
          refine Until.one (i := 7) (by kernel_rfl) rfl (fun K hK => ?_)
          have HK := Lib.hid hK
          clear hK
          rw [if_pos (by rfl)]
          refine wp_store_mid 97 (.tmp 6) (.tmp 32) rfl g6 0 (qa.cells m).toArray rfl rfl HMK.out.2.1 (info97a qa m) (cells_one7 qa m) ?_
          rw [List.toList_toArray]
          refine HK.out.out _ _ (fun h => absurd (h.symm.trans (by kernel_rfl : _ = true)) Bool.false_ne_true) (fun _ => ?_)
          clear HK K
          try go_frame
          refine Until.done (by kernel_rfl) ?_ _
          refine HKK.out _ _ ?_
          clear HKK
          go_meet
          exact ⟨g5, g6, ra, qa, rfl, rfl, HMK.out.2.2, HSA.out⟩
    · have HK := Lib.hid hK
      clear hK
      go_simp
      have ok : Ok V0 (V0.alloc (.cells #[.int .u8 0, .int .i64 0, .int .i64 0, .int .i64 0, .int .i64 0, .int .i64 0, .int .i64 0, .int .i64 0, .bool false, .slice none 0 0, .int .i64 0, .int .i64 0, .slice none 0 0, .slice none 0 0, .slice none 0 0, .slice none 0 0, .int .i64 0, .int .i64 0, .int .i64 0, .slice none 0 0] 95)) := (Ok.refl _).alloc _
      have HD0 := Lib.hid ok
      have HZ5 : Hid ((V0.alloc (.cells #[.int .u8 0, .int .i64 0, .int .i64 0, .int .i64 0, .int .i64 0, .int .i64 0, .int .i64 0, .int .i64 0, .bool false, .slice none 0 0, .int .i64 0, .int .i64 0, .slice none 0 0, .slice none 0 0, .slice none 0 0, .slice none 0 0, .int .i64 0, .int .i64 0, .int .i64 0, .slice none 0 0] 95)).heap[V0.heap.size]? = some (.cells #[.int .u8 0, .int .i64 0, .int .i64 0, .int .i64 0, .int .i64 0, .int .i64 0, .int .i64 0, .int .i64 0, .bool false, .slice none 0 0, .int .i64 0, .int .i64 0, .slice none 0 0, .slice none 0 0, .slice none 0 0, .slice none 0 0, .int .i64 0, .int .i64 0, .int .i64 0, .slice none 0 0] 95 (0, 0))) := Lib.hid (heap_alloc_new V0 _)
      generalize V0.alloc (.cells #[.int .u8 0, .int .i64 0, .int .i64 0, .int .i64 0, .int .i64 0, .int .i64 0, .int .i64 0, .int .i64 0, .bool false, .slice none 0 0, .int .i64 0, .int .i64 0, .slice none 0 0, .slice none 0 0, .slice none 0 0, .slice none 0 0, .int .i64 0, .int .i64 0, .int .i64 0, .slice none 0 0] 95) = V1 at *
      have HOK1 : Hid (Ok W V1) := Lib.hid (HOK0.out.trans ok)
      have hS1 := (⟨range_ok hS0.1 ok, range_ok hS0.2 ok⟩ : _ ∧ _)
      clear ok
      refine HK.out.out _ _ (fun _ => hS1) (fun _ => ?_)
      clear HK K
      try go_frame
      refine Until.two (i := 1) (k := 5) (by kernel_rfl) rfl rfl (fun K hK => ?_) (fun K hK => ?_)
      · have HK := Lib.hid hK
        clear hK
        go_simp
        refine (lentLetter_w r x V1 (HL.out.ok HOK1.out) HLE.out).mono ?_
        rintro _ V2 ⟨ra, rfl, hlt, ok⟩
        have HLT := Lib.hid hlt
        have HD1 := Lib.hid ok
        clear hlt
        have HOK2 : Hid (Ok W V2) := Lib.hid (HOK1.out.trans ok)
        have hS2 := (⟨range_ok hS1.1 ok, range_ok hS1.2 ok⟩ : _ ∧ _)
        clear ok
        refine HK.out.out _ _ (fun _ => hS2) (fun _ => ?_)
        clear HK K
        try go_frame
        refine Until.two (i := 3) (k := 5) (by kernel_rfl) rfl rfl (fun K hK => ?_) (fun K hK => ?_)
        · have HK := Lib.hid hK
          clear hK
          go_simp
          refine (lentImage_w q m V2 (HM.out.ok HOK2.out) ⟨HFI.out, HMB.out⟩).mono ?_
          rintro _ V3 ⟨qa, he, him, ok⟩
          rw [IR.val_eq] at he
          subst he
          have HIM := Lib.hid him
          have HD2 := Lib.hid ok
          clear him
          have HOK3 : Hid (Ok W V3) := Lib.hid (HOK2.out.trans ok)
          have hS3 := (⟨range_ok hS2.1 ok, range_ok hS2.2 ok⟩ : _ ∧ _)
          clear ok
          refine HK.out.out _ _ (fun _ => hS3) (fun _ => ?_)
          clear HK K
          try go_frame
          refine Until.one (i := 5) (by kernel_rfl) rfl (fun K hK => ?_)
          have HK := Lib.hid hK
          clear hK
          go_simp
          have ok : Ok V3 (V3.alloc (.cells #[.int .i64 0, .int .i64 0, .slice none 0 0, .slice none 0 0, .slice none 0 0, .slice none 0 0, .slice none 0 0] 97)) := (Ok.refl _).alloc _
          have HD3 := Lib.hid ok
          have HZ6 : Hid ((V3.alloc (.cells #[.int .i64 0, .int .i64 0, .slice none 0 0, .slice none 0 0, .slice none 0 0, .slice none 0 0, .slice none 0 0] 97)).heap[V3.heap.size]? = some (.cells #[.int .i64 0, .int .i64 0, .slice none 0 0, .slice none 0 0, .slice none 0 0, .slice none 0 0, .slice none 0 0] 97 (0, 0))) := Lib.hid (heap_alloc_new V3 _)
          generalize V3.alloc (.cells #[.int .i64 0, .int .i64 0, .slice none 0 0, .slice none 0 0, .slice none 0 0, .slice none 0 0, .slice none 0 0] 97) = V4 at *
          have HOK4 : Hid (Ok W V4) := Lib.hid (HOK3.out.trans ok)
          have hS4 := (⟨range_ok hS3.1 ok, range_ok hS3.2 ok⟩ : _ ∧ _)
          clear ok
          refine HK.out.out _ _ (fun _ => hS4) (fun _ => ?_)
          clear HK K
          try go_frame
          have HH5 : Hid (V4.heap[V0.heap.size]? = some (.cells #[.int .u8 0, .int .i64 0, .int .i64 0, .int .i64 0, .int .i64 0, .int .i64 0, .int .i64 0, .int .i64 0, .bool false, .slice none 0 0, .int .i64 0, .int .i64 0, .slice none 0 0, .slice none 0 0, .slice none 0 0, .slice none 0 0, .int .i64 0, .int .i64 0, .int .i64 0, .slice none 0 0] 95 (0, 0))) := Lib.hid (blk_ok (HD1.out.trans (HD2.out.trans HD3.out)) HZ5.out)
          have HH6 : Hid (V4.heap[V3.heap.size]? = some (.cells #[.int .i64 0, .int .i64 0, .slice none 0 0, .slice none 0 0, .slice none 0 0, .slice none 0 0, .slice none 0 0] 97 (0, 0))) := Lib.hid (blk_ok (Ok.refl _) HZ6.out)
          have HLT2 : Hid (LtL V4 W.heap.size ra x) := Lib.hid ((HLT.out.hi (Hi.ok (HD2.out.trans HD3.out))).mono HOK1.out.size)
          have HIM2 : Hid (ImL V4 W.heap.size qa m) := Lib.hid ((HIM.out.hi (Hi.ok HD3.out)).mono HOK2.out.size)
          have HNE : Hid (V0.heap.size ≠ V3.heap.size) := Lib.hid (by have h1 := lt_raw HZ5.out; have h2 : V1.heap.size ≤ V3.heap.size := (HD1.out.trans HD2.out).size; omega)
          have HG5 : Hid (B0 ≤ V0.heap.size ∧ B0 ≤ V3.heap.size) := Lib.hid (by rw [← HB0.out]; exact ⟨Nat.le_refl _, (HD0.out.trans (HD1.out.trans HD2.out)).size⟩)
          have HXO : Hid (Ok W V4) := Lib.hid HOK4.out
          have hSV := hS4
          obtain ⟨g5, hg5⟩ : ∃ g5, V0.heap.size = g5 := ⟨_, rfl⟩
          obtain ⟨g6, hg6⟩ : ∃ g6, V3.heap.size = g6 := ⟨_, rfl⟩
          rw [hg5, hg6] at HNE HG5
          rw [hg5] at HH5 ⊢
          rw [hg6] at HH6 ⊢
          clear hg5 hg6 HZ5 HZ6 HLT HIM HD0 HOK0 HD1 HOK1 HD2 HOK2 HD3 HOK3 HOK4 hS0 hS1 hS2 hS3 hS4
          generalize V4 = V at *
          have HMK := Lib.hid (lentR_mk HH5.out rfl HH6.out rfl HNE.out ⟨Nat.le_trans HV0.out.1 HG5.out.1, Nat.le_trans HV0.out.1 HG5.out.2⟩ HLT2.out HIM2.out HXO.out)
          refine Until.one (i := 6) (by kernel_rfl) rfl (fun K hK => ?_)
          have HK := Lib.hid hK
          clear hK
          rw [if_pos (by rfl)]
          refine wp_store_mid 95 (.tmp 5) (.tmp 30) rfl g5 0 (ra.cells x).toArray rfl rfl HMK.out.1 (info95a ra x) (cells_one ra x) ?_
          have hS9 := (⟨range_block hSV.1 (sets_other g5 (ra.cells x) 0 V g (by have := HV0.out; have := HG5.out; omega)), range_block hSV.2 (sets_other g5 (ra.cells x) 0 V (g + 1) (by have := HV0.out; have := HG5.out; omega))⟩ : _ ∧ _)
          rw [List.toList_toArray]
          obtain ⟨V6, hV6⟩ : ∃ V6, V.setCells g5 0 (ra.cells x) = V6 := ⟨_, rfl⟩
          rw [hV6] at HMK hS9 ⊢
          clear hV6
          refine HK.out.out _ _ (fun _ => hS9) (fun _ => ?_)
          have hSA := (⟨range_block hS9.1 (sets_other g6 (qa.cells m) 0 V6 g (by have := HV0.out; have := HG5.out; omega)), range_block hS9.2 (sets_other g6 (qa.cells m) 0 V6 (g + 1) (by have := HV0.out; have := HG5.out; omega))⟩ : _ ∧ _)
          have HSA := Lib.hid hSA
          clear hSA
          clear HK K hS9 hSV HH5 HH6 HLT2 HIM2 HXO
          try go_frame
          refine Until.one (i := 7) (by kernel_rfl) rfl (fun K hK => ?_)
          have HK := Lib.hid hK
          clear hK
          rw [if_pos (by rfl)]
          refine wp_store_mid 97 (.tmp 6) (.tmp 32) rfl g6 0 (qa.cells m).toArray rfl rfl HMK.out.2.1 (info97a qa m) (cells_one7 qa m) ?_
          rw [List.toList_toArray]
          refine HK.out.out _ _ (fun h => absurd (h.symm.trans (by kernel_rfl : _ = true)) Bool.false_ne_true) (fun _ => ?_)
          clear HK K
          try go_frame
          refine Until.done (by kernel_rfl) ?_ _
          refine HKK.out _ _ ?_
          clear HKK
          go_meet
          exact ⟨g5, g6, ra, qa, rfl, rfl, HMK.out.2.2, HSA.out⟩
        · have HK := Lib.hid hK
          clear hK
          go_simp
          have ok : Ok V2 (V2.alloc (.cells #[.int .i64 0, .int .i64 0, .slice none 0 0, .slice none 0 0, .slice none 0 0, .slice none 0 0, .slice none 0 0] 97)) := (Ok.refl _).alloc _
          have HD2 := Lib.hid ok
          have HZ6 : Hid ((V2.alloc (.cells #[.int .i64 0, .int .i64 0, .slice none 0 0, .slice none 0 0, .slice none 0 0, .slice none 0 0, .slice none 0 0] 97)).heap[V2.heap.size]? = some (.cells #[.int .i64 0, .int .i64 0, .slice none 0 0, .slice none 0 0, .slice none 0 0, .slice none 0 0, .slice none 0 0] 97 (0, 0))) := Lib.hid (heap_alloc_new V2 _)
          generalize V2.alloc (.cells #[.int .i64 0, .int .i64 0, .slice none 0 0, .slice none 0 0, .slice none 0 0, .slice none 0 0, .slice none 0 0] 97) = V3 at *
          have HOK3 : Hid (Ok W V3) := Lib.hid (HOK2.out.trans ok)
          have hS3 := (⟨range_ok hS2.1 ok, range_ok hS2.2 ok⟩ : _ ∧ _)
          clear ok
          refine HK.out.out _ _ (fun _ => hS3) (fun _ => ?_)
          clear HK K
          try go_frame
          refine Until.one (i := 3) (by kernel_rfl) rfl (fun K hK => ?_)
          have HK := Lib.hid hK
          clear hK
          go_simp
          refine (lentImage_w q m V3 (HM.out.ok HOK3.out) ⟨HFI.out, HMB.out⟩).mono ?_
          rintro _ V4 ⟨qa, he, him, ok⟩
          rw [IR.val_eq] at he
          subst he
          have HIM := Lib.hid him
          have HD3 := Lib.hid ok
          clear him
          have HOK4 : Hid (Ok W V4) := Lib.hid (HOK3.out.trans ok)
          have hS4 := (⟨range_ok hS3.1 ok, range_ok hS3.2 ok⟩ : _ ∧ _)
          clear ok
          refine HK.out.out _ _ (fun _ => hS4) (fun _ => ?_)
          clear HK K
          try go_frame
          have HH5 : Hid (V4.heap[V0.heap.size]? = some (.cells #[.int .u8 0, .int .i64 0, .int .i64 0, .int .i64 0, .int .i64 0, .int .i64 0, .int .i64 0, .int .i64 0, .bool false, .slice none 0 0, .int .i64 0, .int .i64 0, .slice none 0 0, .slice none 0 0, .slice none 0 0, .slice none 0 0, .int .i64 0, .int .i64 0, .int .i64 0, .slice none 0 0] 95 (0, 0))) := Lib.hid (blk_ok (HD1.out.trans (HD2.out.trans HD3.out)) HZ5.out)
          have HH6 : Hid (V4.heap[V2.heap.size]? = some (.cells #[.int .i64 0, .int .i64 0, .slice none 0 0, .slice none 0 0, .slice none 0 0, .slice none 0 0, .slice none 0 0] 97 (0, 0))) := Lib.hid (blk_ok HD3.out HZ6.out)
          have HLT2 : Hid (LtL V4 W.heap.size ra x) := Lib.hid ((HLT.out.hi (Hi.ok (HD2.out.trans HD3.out))).mono HOK1.out.size)
          have HIM2 : Hid (ImL V4 W.heap.size qa m) := Lib.hid ((HIM.out.hi (Hi.ok (Ok.refl _))).mono HOK3.out.size)
          have HNE : Hid (V0.heap.size ≠ V2.heap.size) := Lib.hid (by have h1 := lt_raw HZ5.out; have h2 : V1.heap.size ≤ V2.heap.size := HD1.out.size; omega)
          have HG5 : Hid (B0 ≤ V0.heap.size ∧ B0 ≤ V2.heap.size) := Lib.hid (by rw [← HB0.out]; exact ⟨Nat.le_refl _, (HD0.out.trans HD1.out).size⟩)
          have HXO : Hid (Ok W V4) := Lib.hid HOK4.out
          have hSV := hS4
          obtain ⟨g5, hg5⟩ : ∃ g5, V0.heap.size = g5 := ⟨_, rfl⟩
          obtain ⟨g6, hg6⟩ : ∃ g6, V2.heap.size = g6 := ⟨_, rfl⟩
          rw [hg5, hg6] at HNE HG5
          rw [hg5] at HH5 ⊢
          rw [hg6] at HH6 ⊢
          clear hg5 hg6 HZ5 HZ6 HLT HIM HD0 HOK0 HD1 HOK1 HD2 HOK2 HD3 HOK3 HOK4 hS0 hS1 hS2 hS3 hS4
          generalize V4 = V at *
          have HMK := Lib.hid (lentR_mk HH5.out rfl HH6.out rfl HNE.out ⟨Nat.le_trans HV0.out.1 HG5.out.1, Nat.le_trans HV0.out.1 HG5.out.2⟩ HLT2.out HIM2.out HXO.out)
          refine Until.one (i := 6) (by kernel_rfl) rfl (fun K hK => ?_)
          have HK := Lib.hid hK
          clear hK
          rw [if_pos (by rfl)]
          refine wp_store_mid 95 (.tmp 5) (.tmp 30) rfl g5 0 (ra.cells x).toArray rfl rfl HMK.out.1 (info95a ra x) (cells_one ra x) ?_
          have hS9 := (⟨range_block hSV.1 (sets_other g5 (ra.cells x) 0 V g (by have := HV0.out; have := HG5.out; omega)), range_block hSV.2 (sets_other g5 (ra.cells x) 0 V (g + 1) (by have := HV0.out; have := HG5.out; omega))⟩ : _ ∧ _)
          rw [List.toList_toArray]
          obtain ⟨V6, hV6⟩ : ∃ V6, V.setCells g5 0 (ra.cells x) = V6 := ⟨_, rfl⟩
          rw [hV6] at HMK hS9 ⊢
          clear hV6
          refine HK.out.out _ _ (fun _ => hS9) (fun _ => ?_)
          have hSA := (⟨range_block hS9.1 (sets_other g6 (qa.cells m) 0 V6 g (by have := HV0.out; have := HG5.out; omega)), range_block hS9.2 (sets_other g6 (qa.cells m) 0 V6 (g + 1) (by have := HV0.out; have := HG5.out; omega))⟩ : _ ∧ _)
          have HSA := Lib.hid hSA
          clear hSA
          clear HK K hS9 hSV HH5 HH6 HLT2 HIM2 HXO
          try go_frame
          refine Until.one (i := 7) (by kernel_rfl) rfl (fun K hK => ?_)
          have HK := Lib.hid hK
          clear hK
          rw [if_pos (by rfl)]
          refine wp_store_mid 97 (.tmp 6) (.tmp 32) rfl g6 0 (qa.cells m).toArray rfl rfl HMK.out.2.1 (info97a qa m) (cells_one7 qa m) ?_
          rw [List.toList_toArray]
          refine HK.out.out _ _ (fun h => absurd (h.symm.trans (by kernel_rfl : _ = true)) Bool.false_ne_true) (fun _ => ?_)
          clear HK K
          try go_frame
          refine Until.done (by kernel_rfl) ?_ _
          refine HKK.out _ _ ?_
          clear HKK
          go_meet
          exact ⟨g5, g6, ra, qa, rfl, rfl, HMK.out.2.2, HSA.out⟩
      · have HK := Lib.hid hK
        clear hK
        go_simp
        have ok : Ok V1 (V1.alloc (.cells #[.int .i64 0, .int .i64 0, .slice none 0 0, .slice none 0 0, .slice none 0 0, .slice none 0 0, .slice none 0 0] 97)) := (Ok.refl _).alloc _
        have HD1 := Lib.hid ok
        have HZ6 : Hid ((V1.alloc (.cells #[.int .i64 0, .int .i64 0, .slice none 0 0, .slice none 0 0, .slice none 0 0, .slice none 0 0, .slice none 0 0] 97)).heap[V1.heap.size]? = some (.cells #[.int .i64 0, .int .i64 0, .slice none 0 0, .slice none 0 0, .slice none 0 0, .slice none 0 0, .slice none 0 0] 97 (0, 0))) := Lib.hid (heap_alloc_new V1 _)
        generalize V1.alloc (.cells #[.int .i64 0, .int .i64 0, .slice none 0 0, .slice none 0 0, .slice none 0 0, .slice none 0 0, .slice none 0 0] 97) = V2 at *
        have HOK2 : Hid (Ok W V2) := Lib.hid (HOK1.out.trans ok)
        have hS2 := (⟨range_ok hS1.1 ok, range_ok hS1.2 ok⟩ : _ ∧ _)
        clear ok
        refine HK.out.out _ _ (fun _ => hS2) (fun _ => ?_)
        clear HK K
        try go_frame
        refine Until.one (i := 1) (by kernel_rfl) rfl (fun K hK => ?_)
        have HK := Lib.hid hK
        clear hK
        go_simp
        refine (lentLetter_w r x V2 (HL.out.ok HOK2.out) HLE.out).mono ?_
        rintro _ V3 ⟨ra, rfl, hlt, ok⟩
        have HLT := Lib.hid hlt
        have HD2 := Lib.hid ok
        clear hlt
        have HOK3 : Hid (Ok W V3) := Lib.hid (HOK2.out.trans ok)
        have hS3 := (⟨range_ok hS2.1 ok, range_ok hS2.2 ok⟩ : _ ∧ _)
        clear ok
        refine HK.out.out _ _ (fun _ => hS3) (fun _ => ?_)
        clear HK K
        try go_frame
        refine Until.one (i := 3) (by kernel_rfl) rfl (fun K hK => ?_)
        have HK := Lib.hid hK
        clear hK
        go_simp
        refine (lentImage_w q m V3 (HM.out.ok HOK3.out) ⟨HFI.out, HMB.out⟩).mono ?_
        rintro _ V4 ⟨qa, he, him, ok⟩
        rw [IR.val_eq] at he
        subst he
        have HIM := Lib.hid him
        have HD3 := Lib.hid ok
        clear him
        have HOK4 : Hid (Ok W V4) := Lib.hid (HOK3.out.trans ok)
        have hS4 := (⟨range_ok hS3.1 ok, range_ok hS3.2 ok⟩ : _ ∧ _)
        clear ok
        refine HK.out.out _ _ (fun _ => hS4) (fun _ => ?_)
        clear HK K
        try go_frame
        have HH5 : Hid (V4.heap[V0.heap.size]? = some (.cells #[.int .u8 0, .int .i64 0, .int .i64 0, .int .i64 0, .int .i64 0, .int .i64 0, .int .i64 0, .int .i64 0, .bool false, .slice none 0 0, .int .i64 0, .int .i64 0, .slice none 0 0, .slice none 0 0, .slice none 0 0, .slice none 0 0, .int .i64 0, .int .i64 0, .int .i64 0, .slice none 0 0] 95 (0, 0))) := Lib.hid (blk_ok (HD1.out.trans (HD2.out.trans HD3.out)) HZ5.out)
        have HH6 : Hid (V4.heap[V1.heap.size]? = some (.cells #[.int .i64 0, .int .i64 0, .slice none 0 0, .slice none 0 0, .slice none 0 0, .slice none 0 0, .slice none 0 0] 97 (0, 0))) := Lib.hid (blk_ok (HD2.out.trans HD3.out) HZ6.out)
        have HLT2 : Hid (LtL V4 W.heap.size ra x) := Lib.hid ((HLT.out.hi (Hi.ok HD3.out)).mono HOK2.out.size)
        have HIM2 : Hid (ImL V4 W.heap.size qa m) := Lib.hid ((HIM.out.hi (Hi.ok (Ok.refl _))).mono HOK3.out.size)
        have HNE : Hid (V0.heap.size ≠ V1.heap.size) := Lib.hid (by have h1 := lt_raw HZ5.out; have h2 : V1.heap.size ≤ V1.heap.size := Nat.le_refl _; omega)
        have HG5 : Hid (B0 ≤ V0.heap.size ∧ B0 ≤ V1.heap.size) := Lib.hid (by rw [← HB0.out]; exact ⟨Nat.le_refl _, HD0.out.size⟩)
        have HXO : Hid (Ok W V4) := Lib.hid HOK4.out
        have hSV := hS4
        obtain ⟨g5, hg5⟩ : ∃ g5, V0.heap.size = g5 := ⟨_, rfl⟩
        obtain ⟨g6, hg6⟩ : ∃ g6, V1.heap.size = g6 := ⟨_, rfl⟩
        rw [hg5, hg6] at HNE HG5
        rw [hg5] at HH5 ⊢
        rw [hg6] at HH6 ⊢
        clear hg5 hg6 HZ5 HZ6 HLT HIM HD0 HOK0 HD1 HOK1 HD2 HOK2 HD3 HOK3 HOK4 hS0 hS1 hS2 hS3 hS4
        generalize V4 = V at *
        have HMK := Lib.hid (lentR_mk HH5.out rfl HH6.out rfl HNE.out ⟨Nat.le_trans HV0.out.1 HG5.out.1, Nat.le_trans HV0.out.1 HG5.out.2⟩ HLT2.out HIM2.out HXO.out)
        refine Until.one (i := 6) (by kernel_rfl) rfl (fun K hK => ?_)
        have HK := Lib.hid hK
        clear hK
        rw [if_pos (by rfl)]
        refine wp_store_mid 95 (.tmp 5) (.tmp 30) rfl g5 0 (ra.cells x).toArray rfl rfl HMK.out.1 (info95a ra x) (cells_one ra x) ?_
        have hS9 := (⟨range_block hSV.1 (sets_other g5 (ra.cells x) 0 V g (by have := HV0.out; have := HG5.out; omega)), range_block hSV.2 (sets_other g5 (ra.cells x) 0 V (g + 1) (by have := HV0.out; have := HG5.out; omega))⟩ : _ ∧ _)
        rw [List.toList_toArray]
        obtain ⟨V6, hV6⟩ : ∃ V6, V.setCells g5 0 (ra.cells x) = V6 := ⟨_, rfl⟩
        rw [hV6] at HMK hS9 ⊢
        clear hV6
        refine HK.out.out _ _ (fun _ => hS9) (fun _ => ?_)
        have hSA := (⟨range_block hS9.1 (sets_other g6 (qa.cells m) 0 V6 g (by have := HV0.out; have := HG5.out; omega)), range_block hS9.2 (sets_other g6 (qa.cells m) 0 V6 (g + 1) (by have := HV0.out; have := HG5.out; omega))⟩ : _ ∧ _)
        have HSA := Lib.hid hSA
        clear hSA
        clear HK K hS9 hSV HH5 HH6 HLT2 HIM2 HXO
        try go_frame
        refine Until.one (i := 7) (by kernel_rfl) rfl (fun K hK => ?_)
        have HK := Lib.hid hK
        clear hK
        rw [if_pos (by rfl)]
        refine wp_store_mid 97 (.tmp 6) (.tmp 32) rfl g6 0 (qa.cells m).toArray rfl rfl HMK.out.2.1 (info97a qa m) (cells_one7 qa m) ?_
        rw [List.toList_toArray]
        refine HK.out.out _ _ (fun h => absurd (h.symm.trans (by kernel_rfl : _ = true)) Bool.false_ne_true) (fun _ => ?_)
        clear HK K
        try go_frame
        refine Until.done (by kernel_rfl) ?_ _
        refine HKK.out _ _ ?_
        clear HKK
        go_meet
        exact ⟨g5, g6, ra, qa, rfl, rfl, HMK.out.2.2, HSA.out⟩
    · have HK := Lib.hid hK
      clear hK
      go_simp
      have ok : Ok V0 (V0.alloc (.cells #[.int .i64 0, .int .i64 0, .slice none 0 0, .slice none 0 0, .slice none 0 0, .slice none 0 0, .slice none 0 0] 97)) := (Ok.refl _).alloc _
      have HD0 := Lib.hid ok
      have HZ6 : Hid ((V0.alloc (.cells #[.int .i64 0, .int .i64 0, .slice none 0 0, .slice none 0 0, .slice none 0 0, .slice none 0 0, .slice none 0 0] 97)).heap[V0.heap.size]? = some (.cells #[.int .i64 0, .int .i64 0, .slice none 0 0, .slice none 0 0, .slice none 0 0, .slice none 0 0, .slice none 0 0] 97 (0, 0))) := Lib.hid (heap_alloc_new V0 _)
      generalize V0.alloc (.cells #[.int .i64 0, .int .i64 0, .slice none 0 0, .slice none 0 0, .slice none 0 0, .slice none 0 0, .slice none 0 0] 97) = V1 at *
      have HOK1 : Hid (Ok W V1) := Lib.hid (HOK0.out.trans ok)
      have hS1 := (⟨range_ok hS0.1 ok, range_ok hS0.2 ok⟩ : _ ∧ _)
      clear ok
      refine HK.out.out _ _ (fun _ => hS1) (fun _ => ?_)
      clear HK K
      try go_frame
      refine Until.two (i := 1) (k := 4) (by kernel_rfl) rfl rfl (fun K hK => ?_) (fun K hK => ?_)
      · have HK := Lib.hid hK
        clear hK
        go_simp
        refine (lentLetter_w r x V1 (HL.out.ok HOK1.out) HLE.out).mono ?_
        rintro _ V2 ⟨ra, rfl, hlt, ok⟩
        have HLT := Lib.hid hlt
        have HD1 := Lib.hid ok
        clear hlt
        have HOK2 : Hid (Ok W V2) := Lib.hid (HOK1.out.trans ok)
        have hS2 := (⟨range_ok hS1.1 ok, range_ok hS1.2 ok⟩ : _ ∧ _)
        clear ok
        refine HK.out.out _ _ (fun _ => hS2) (fun _ => ?_)
        clear HK K
        try go_frame
        refine Until.two (i := 3) (k := 4) (by kernel_rfl) rfl rfl (fun K hK => ?_) (fun K hK => ?_)
        · have HK := Lib.hid hK
          clear hK
          go_simp
          refine (lentImage_w q m V2 (HM.out.ok HOK2.out) ⟨HFI.out, HMB.out⟩).mono ?_
          rintro _ V3 ⟨qa, he, him, ok⟩
          rw [IR.val_eq] at he
          subst he
          have HIM := Lib.hid him
          have HD2 := Lib.hid ok
          clear him
          have HOK3 : Hid (Ok W V3) := Lib.hid (HOK2.out.trans ok)
          have hS3 := (⟨range_ok hS2.1 ok, range_ok hS2.2 ok⟩ : _ ∧ _)
          clear ok
          refine HK.out.out _ _ (fun _ => hS3) (fun _ => ?_)
          clear HK K
          try go_frame
          refine Until.one (i := 4) (by kernel_rfl) rfl (fun K hK => ?_)
          have HK := Lib.hid hK
          clear hK
          go_simp
          have ok : Ok V3 (V3.alloc (.cells #[.int .u8 0, .int .i64 0, .int .i64 0, .int .i64 0, .int .i64 0, .int .i64 0, .int .i64 0, .int .i64 0, .bool false, .slice none 0 0, .int .i64 0, .int .i64 0, .slice none 0 0, .slice none 0 0, .slice none 0 0, .slice none 0 0, .int .i64 0, .int .i64 0, .int .i64 0, .slice none 0 0] 95)) := (Ok.refl _).alloc _
          have HD3 := Lib.hid ok
          have HZ5 : Hid ((V3.alloc (.cells #[.int .u8 0, .int .i64 0, .int .i64 0, .int .i64 0, .int .i64 0, .int .i64 0, .int .i64 0, .int .i64 0, .bool false, .slice none 0 0, .int .i64 0, .int .i64 0, .slice none 0 0, .slice none 0 0, .slice none 0 0, .slice none 0 0, .int .i64 0, .int .i64 0, .int .i64 0, .slice none 0 0] 95)).heap[V3.heap.size]? = some (.cells #[.int .u8 0, .int .i64 0, .int .i64 0, .int .i64 0, .int .i64 0, .int .i64 0, .int .i64 0, .int .i64 0, .bool false, .slice none 0 0, .int .i64 0, .int .i64 0, .slice none 0 0, .slice none 0 0, .slice none 0 0, .slice none 0 0, .int .i64 0, .int .i64 0, .int .i64 0, .slice none 0 0] 95 (0, 0))) := Lib.hid (heap_alloc_new V3 _)
          generalize V3.alloc (.cells #[.int .u8 0, .int .i64 0, .int .i64 0, .int .i64 0, .int .i64 0, .int .i64 0, .int .i64 0, .int .i64 0, .bool false, .slice none 0 0, .int .i64 0, .int .i64 0, .slice none 0 0, .slice none 0 0, .slice none 0 0, .slice none 0 0, .int .i64 0, .int .i64 0, .int .i64 0, .slice none 0 0] 95) = V4 at *
          have HOK4 : Hid (Ok W V4) := Lib.hid (HOK3.out.trans ok)
          have hS4 := (⟨range_ok hS3.1 ok, range_ok hS3.2 ok⟩ : _ ∧ _)
          clear ok
          refine HK.out.out _ _ (fun _ => hS4) (fun _ => ?_)
          clear HK K
          try go_frame
          have HH5 : Hid (V4.heap[V3.heap.size]? = some (.cells #[.int .u8 0, .int .i64 0, .int .i64 0, .int .i64 0, .int .i64 0, .int .i64 0, .int .i64 0, .int .i64 0, .bool false, .slice none 0 0, .int .i64 0, .int .i64 0, .slice none 0 0, .slice none 0 0, .slice none 0 0, .slice none 0 0, .int .i64 0, .int .i64 0, .int .i64 0, .slice none 0 0] 95 (0, 0))) := Lib.hid (blk_ok (Ok.refl _) HZ5.out)
          have HH6 : Hid (V4.heap[V0.heap.size]? = some (.cells #[.int .i64 0, .int .i64 0, .slice none 0 0, .slice none 0 0, .slice none 0 0, .slice none 0 0, .slice none 0 0] 97 (0, 0))) := Lib.hid (blk_ok (HD1.out.trans (HD2.out.trans HD3.out)) HZ6.out)
          have HLT2 : Hid (LtL V4 W.heap.size ra x) := Lib.hid ((HLT.out.hi (Hi.ok (HD2.out.trans HD3.out))).mono HOK1.out.size)
          have HIM2 : Hid (ImL V4 W.heap.size qa m) := Lib.hid ((HIM.out.hi (Hi.ok HD3.out)).mono HOK2.out.size)
          have HNE : Hid (V3.heap.size ≠ V0.heap.size) := Lib.hid (by have h1 := lt_raw HZ6.out; have h2 : V1.heap.size ≤ V3.heap.size := (HD1.out.trans HD2.out).size; omega)
          have HG5 : Hid (B0 ≤ V3.heap.size ∧ B0 ≤ V0.heap.size) := Lib.hid (by rw [← HB0.out]; exact ⟨(HD0.out.trans (HD1.out.trans HD2.out)).size, Nat.le_refl _⟩)
          have HXO : Hid (Ok W V4) := Lib.hid HOK4.out
          have hSV := hS4
          obtain ⟨g5, hg5⟩ : ∃ g5, V3.heap.size = g5 := ⟨_, rfl⟩
          obtain ⟨g6, hg6⟩ : ∃ g6, V0.heap.size = g6 := ⟨_, rfl⟩
          rw [hg5, hg6] at HNE HG5
          rw [hg5] at HH5 ⊢
          rw [hg6] at HH6 ⊢
          clear hg5 hg6 HZ5 HZ6 HLT HIM HD0 HOK0 HD1 HOK1 HD2 HOK2 HD3 HOK3 HOK4 hS0 hS1 hS2 hS3 hS4
          generalize V4 = V at *
          have HMK := Lib.hid (lentR_mk HH5.out rfl HH6.out rfl HNE.out ⟨Nat.le_trans HV0.out.1 HG5.out.1, Nat.le_trans HV0.out.1 HG5.out.2⟩ HLT2.out HIM2.out HXO.out)
          refine Until.one (i := 6) (by kernel_rfl) rfl (fun K hK => ?_)
          have HK := Lib.hid hK
          clear hK
          rw [if_pos (by rfl)]
          refine wp_store_mid 95 (.tmp 5) (.tmp 30) rfl g5 0 (ra.cells x).toArray rfl rfl HMK.out.1 (info95a ra x) (cells_one ra x) ?_
          have hS9 := (⟨range_block hSV.1 (sets_other g5 (ra.cells x) 0 V g (by have := HV0.out; have := HG5.out; omega)), range_block hSV.2 (sets_other g5 (ra.cells x) 0 V (g + 1) (by have := HV0.out; have := HG5.out; omega))⟩ : _ ∧ _)
          rw [List.toList_toArray]
          obtain ⟨V6, hV6⟩ : ∃ V6, V.setCells g5 0 (ra.cells x) = V6 := ⟨_, rfl⟩
          rw [hV6] at HMK hS9 ⊢
          clear hV6
          refine HK.out.out _ _ (fun _ => hS9) (fun _ => ?_)
          have hSA := (⟨range_block hS9.1 (sets_other g6 (qa.cells m) 0 V6 g (by have := HV0.out; have := HG5.out; omega)), range_block hS9.2 (sets_other g6 (qa.cells m) 0 V6 (g + 1) (by have := HV0.out; have := HG5.out; omega))⟩ : _ ∧ _)
          have HSA := Lib.hid hSA
          clear hSA
          clear HK K hS9 hSV HH5 HH6 HLT2 HIM2 HXO
          try go_frame
          refine Until.one (i := 7) (by kernel_rfl) rfl (fun K hK => ?_)
          have HK := Lib.hid hK
          clear hK
          rw [if_pos (by rfl)]
          refine wp_store_mid 97 (.tmp 6) (.tmp 32) rfl g6 0 (qa.cells m).toArray rfl rfl HMK.out.2.1 (info97a qa m) (cells_one7 qa m) ?_
          rw [List.toList_toArray]
          refine HK.out.out _ _ (fun h => absurd (h.symm.trans (by kernel_rfl : _ = true)) Bool.false_ne_true) (fun _ => ?_)
          clear HK K
          try go_frame
          refine Until.done (by kernel_rfl) ?_ _
          refine HKK.out _ _ ?_
          clear HKK
          go_meet
          exact ⟨g5, g6, ra, qa, rfl, rfl, HMK.out.2.2, HSA.out⟩
        · have HK := Lib.hid hK
          clear hK
          go_simp
          have ok : Ok V2 (V2.alloc (.cells #[.int .u8 0, .int .i64 0, .int .i64 0, .int .i64 0, .int .i64 0, .int .i64 0, .int .i64 0, .int .i64 0, .bool false, .slice none 0 0, .int .i64 0, .int .i64 0, .slice none 0 0, .slice none 0 0, .slice none 0 0, .slice none 0 0, .int .i64 0, .int .i64 0, .int .i64 0, .slice none 0 0] 95)) := (Ok.refl _).alloc _
          have HD2 := Lib.hid ok
          have HZ5 : Hid ((V2.alloc (.cells #[.int .u8 0, .int .i64 0, .int .i64 0, .int .i64 0, .int .i64 0, .int .i64 0, .int .i64 0, .int .i64 0, .bool false, .slice none 0 0, .int .i64 0, .int .i64 0, .slice none 0 0, .slice none 0 0, .slice none 0 0, .slice none 0 0, .int .i64 0, .int .i64 0, .int .i64 0, .slice none 0 0] 95)).heap[V2.heap.size]? = some (.cells #[.int .u8 0, .int .i64 0, .int .i64 0, .int .i64 0, .int .i64 0, .int .i64 0, .int .i64 0, .int .i64 0, .bool false, .slice none 0 0, .int .i64 0, .int .i64 0, .slice none 0 0, .slice none 0 0, .slice none 0 0, .slice none 0 0, .int .i64 0, .int .i64 0, .int .i64 0, .slice none 0 0] 95 (0, 0))) := Lib.hid (heap_alloc_new V2 _)
          generalize V2.alloc (.cells #[.int .u8 0, .int .i64 0, .int .i64 0, .int .i64 0, .int .i64 0, .int .i64 0, .int .i64 0, .int .i64 0, .bool false, .slice none 0 0, .int .i64 0, .int .i64 0, .slice none 0 0, .slice none 0 0, .slice none 0 0, .slice none 0 0, .int .i64 0, .int .i64 0, .int .i64 0, .slice none 0 0] 95) = V3 at *
          have HOK3 : Hid (Ok W V3) := Lib.hid (HOK2.out.trans ok)
          have hS3 := (⟨range_ok hS2.1 ok, range_ok hS2.2 ok⟩ : _ ∧ _)
          clear ok
          refine HK.out.out _ _ (fun _ => hS3) (fun _ => ?_)
          clear HK K
          try go_frame
          refine Until.one (i := 3) (by kernel_rfl) rfl (fun K hK => ?_)
          have HK := Lib.hid hK
          clear hK
          go_simp
          refine (lentImage_w q m V3 (HM.out.ok HOK3.out) ⟨HFI.out, HMB.out⟩).mono ?_
          rintro _ V4 ⟨qa, he, him, ok⟩
          rw [IR.val_eq] at he
          subst he
          have HIM := Lib.hid him
          have HD3 := Lib.hid ok
          clear him
          have HOK4 : Hid (Ok W V4) := Lib.hid (HOK3.out.trans ok)
          have hS4 := (⟨range_ok hS3.1 ok, range_ok hS3.2 ok⟩ : _ ∧ _)
          clear ok
          refine HK.out.out _ _ (fun _ => hS4) (fun _ => ?_)
          clear HK K
          try go_frame
          have HH5 : Hid (V4.heap[V2.heap.size]? = some (.cells #[.int .u8 0, .int .i64 0, .int .i64 0, .int .i64 0, .int .i64 0, .int .i64 0, .int .i64 0, .int .i64 0, .bool false, .slice none 0 0, .int .i64 0, .int .i64 0, .slice none 0 0, .slice none 0 0, .slice none 0 0, .slice none 0 0, .int .i64 0, .int .i64 0, .int .i64 0, .slice none 0 0] 95 (0, 0))) := Lib.hid (blk_ok HD3.out HZ5.out)
          have HH6 : Hid (V4.heap[V0.heap.size]? = some (.cells #[.int .i64 0, .int .i64 0, .slice none 0 0, .slice none 0 0, .slice none 0 0, .slice none 0 0, .slice none 0 0] 97 (0, 0))) := Lib.hid (blk_ok (HD1.out.trans (HD2.out.trans HD3.out)) HZ6.out)
          have HLT2 : Hid (LtL V4 W.heap.size ra x) := Lib.hid ((HLT.out.hi (Hi.ok (HD2.out.trans HD3.out))).mono HOK1.out.size)
          have HIM2 : Hid (ImL V4 W.heap.size qa m) := Lib.hid ((HIM.out.hi (Hi.ok (Ok.refl _))).mono HOK3.out.size)
          have HNE : Hid (V2.heap.size ≠ V0.heap.size) := Lib.hid (by have h1 := lt_raw HZ6.out; have h2 : V1.heap.size ≤ V2.heap.size := HD1.out.size; omega)
          have HG5 : Hid (B0 ≤ V2.heap.size ∧ B0 ≤ V0.heap.size) := Lib.hid (by rw [← HB0.out]; exact ⟨(HD0.out.trans HD1.out).size, Nat.le_refl _⟩)
          have HXO : Hid (Ok W V4) := Lib.hid HOK4.out
          have hSV := hS4
          obtain ⟨g5, hg5⟩ : ∃ g5, V2.heap.size = g5 := ⟨_, rfl⟩
          obtain ⟨g6, hg6⟩ : ∃ g6, V0.heap.size = g6 := ⟨_, rfl⟩
          rw [hg5, hg6] at HNE HG5
          rw [hg5] at HH5 ⊢
          rw [hg6] at HH6 ⊢
          clear hg5 hg6 HZ5 HZ6 HLT HIM HD0 HOK0 HD1 HOK1 HD2 HOK2 HD3 HOK3 HOK4 hS0 hS1 hS2 hS3 hS4
          generalize V4 = V at *
          have HMK := Lib.hid (lentR_mk HH5.out rfl HH6.out rfl HNE.out ⟨Nat.le_trans HV0.out.1 HG5.out.1, Nat.le_trans HV0.out.1 HG5.out.2⟩ HLT2.out HIM2.out HXO.out)
          refine Until.one (i := 6) (by kernel_rfl) rfl (fun K hK => ?_)
          have HK := Lib.hid hK
          clear hK
          rw [if_pos (by rfl)]
          refine wp_store_mid 95 (.tmp 5) (.tmp 30) rfl g5 0 (ra.cells x).toArray rfl rfl HMK.out.1 (info95a ra x) (cells_one ra x) ?_
          have hS9 := (⟨range_block hSV.1 (sets_other g5 (ra.cells x) 0 V g (by have := HV0.out; have := HG5.out; omega)), range_block hSV.2 (sets_other g5 (ra.cells x) 0 V (g + 1) (by have := HV0.out; have := HG5.out; omega))⟩ : _ ∧ _)
          rw [List.toList_toArray]
          obtain ⟨V6, hV6⟩ : ∃ V6, V.setCells g5 0 (ra.cells x) = V6 := ⟨_, rfl⟩
          rw [hV6] at HMK hS9 ⊢
          clear hV6
          refine HK.out.out _ _ (fun _ => hS9) (fun _ => ?_)
          have hSA := (⟨range_block hS9.1 (sets_other g6 (qa.cells m) 0 V6 g (by have := HV0.out; have := HG5.out; omega)), range_block hS9.2 (sets_other g6 (qa.cells m) 0 V6 (g + 1) (by have := HV0.out; have := HG5.out; omega))⟩ : _ ∧ _)
          have HSA := Lib.hid hSA
          clear hSA
          clear HK K hS9 hSV HH5 HH6 HLT2 HIM2 HXO
          try go_frame
          refine Until.one (i := 7) (by kernel_rfl) rfl (fun K hK => ?_)
          have HK := Lib.hid hK
          clear hK
          rw [if_pos (by rfl)]
          refine wp_store_mid 97 (.tmp 6) (.tmp 32) rfl g6 0 (qa.cells m).toArray rfl rfl HMK.out.2.1 (info97a qa m) (cells_one7 qa m) ?_
          rw [List.toList_toArray]
          refine HK.out.out _ _ (fun h => absurd (h.symm.trans (by kernel_rfl : _ = true)) Bool.false_ne_true) (fun _ => ?_)
          clear HK K
          try go_frame
          refine Until.done (by kernel_rfl) ?_ _
          refine HKK.out _ _ ?_
          clear HKK
          go_meet
          exact ⟨g5, g6, ra, qa, rfl, rfl, HMK.out.2.2, HSA.out⟩
      · have HK := Lib.hid hK
        clear hK
        go_simp
        have ok : Ok V1 (V1.alloc (.cells #[.int .u8 0, .int .i64 0, .int .i64 0, .int .i64 0, .int .i64 0, .int .i64 0, .int .i64 0, .int .i64 0, .bool false, .slice none 0 0, .int .i64 0, .int .i64 0, .slice none 0 0, .slice none 0 0, .slice none 0 0, .slice none 0 0, .int .i64 0, .int .i64 0, .int .i64 0, .slice none 0 0] 95)) := (Ok.refl _).alloc _
        have HD1 := Lib.hid ok
        have HZ5 : Hid ((V1.alloc (.cells #[.int .u8 0, .int .i64 0, .int .i64 0, .int .i64 0, .int .i64 0, .int .i64 0, .int .i64 0, .int .i64 0, .bool false, .slice none 0 0, .int .i64 0, .int .i64 0, .slice none 0 0, .slice none 0 0, .slice none 0 0, .slice none 0 0, .int .i64 0, .int .i64 0, .int .i64 0, .slice none 0 0] 95)).heap[V1.heap.size]? = some (.cells #[.int .u8 0, .int .i64 0, .int .i64 0, .int .i64 0, .int .i64 0, .int .i64 0, .int .i64 0, .int .i64 0, .bool false, .slice none 0 0, .int .i64 0, .int .i64 0, .slice none 0 0, .slice none 0 0, .slice none 0 0, .slice none 0 0, .int .i64 0, .int .i64 0, .int .i64 0, .slice none 0 0] 95 (0, 0))) := Lib.hid (heap_alloc_new V1 _)
        generalize V1.alloc (.cells #[.int .u8 0, .int .i64 0, .int .i64 0, .int .i64 0, .int .i64 0, .int .i64 0, .int .i64 0, .int .i64 0, .bool false, .slice none 0 0, .int .i64 0, .int .i64 0, .slice none 0 0, .slice none 0 0, .slice none 0 0, .slice none 0 0, .int .i64 0, .int .i64 0, .int .i64 0, .slice none 0 0] 95) = V2 at *
        have HOK2 : Hid (Ok W V2) := Lib.hid (HOK1.out.trans ok)
        have hS2 := (⟨range_ok hS1.1 ok, range_ok hS1.2 ok⟩ : _ ∧ _)
        clear ok
        refine HK.out.out _ _ (fun _ => hS2) (fun _ => ?_)
        clear HK K
        try go_frame
        refine Until.one (i := 1) (by kernel_rfl) rfl (fun K hK => ?_)
        have HK := Lib.hid hK
        clear hK
        go_simp
        refine (lentLetter_w r x V2 (HL.out.ok HOK2.out) HLE.out).mono ?_
        rintro _ V3 ⟨ra, rfl, hlt, ok⟩
        have HLT := Lib.hid hlt
        have HD2 := Lib.hid ok
        clear hlt
        have HOK3 : Hid (Ok W V3) := Lib.hid (HOK2.out.trans ok)
        have hS3 := (⟨range_ok hS2.1 ok, range_ok hS2.2 ok⟩ : _ ∧ _)
        clear ok
        refine HK.out.out _ _ (fun _ => hS3) (fun _ => ?_)
        clear HK K
        try go_frame
        refine Until.one (i := 3) (by kernel_rfl) rfl (fun K hK => ?_)
        have HK := Lib.hid hK
        clear hK
        go_simp
        refine (lentImage_w q m V3 (HM.out.ok HOK3.out) ⟨HFI.out, HMB.out⟩).mono ?_
        rintro _ V4 ⟨qa, he, him, ok⟩
        rw [IR.val_eq] at he
        subst he
        have HIM := Lib.hid him
        have HD3 := Lib.hid ok
        clear him
        have HOK4 : Hid (Ok W V4) := Lib.hid (HOK3.out.trans ok)
        have hS4 := (⟨range_ok hS3.1 ok, range_ok hS3.2 ok⟩ : _ ∧ _)
        clear ok
        refine HK.out.out _ _ (fun _ => hS4) (fun _ => ?_)
        clear HK K
        try go_frame
        have HH5 : Hid (V4.heap[V1.heap.size]? = some (.cells #[.int .u8 0, .int .i64 0, .int .i64 0, .int .i64 0, .int .i64 0, .int .i64 0, .int .i64 0, .int .i64 0, .bool false, .slice none 0 0, .int .i64 0, .int .i64 0, .slice none 0 0, .slice none 0 0, .slice none 0 0, .slice none 0 0, .int .i64 0, .int .i64 0, .int .i64 0, .slice none 0 0] 95 (0, 0))) := Lib.hid (blk_ok (HD2.out.trans HD3.out) HZ5.out)
        have HH6 : Hid (V4.heap[V0.heap.size]? = some (.cells #[.int .i64 0, .int .i64 0, .slice none 0 0, .slice none 0 0, .slice none 0 0, .slice none 0 0, .slice none 0 0] 97 (0, 0))) := Lib.hid (blk_ok (HD1.out.trans (HD2.out.trans HD3.out)) HZ6.out)
        have HLT2 : Hid (LtL V4 W.heap.size ra x) := Lib.hid ((HLT.out.hi (Hi.ok HD3.out)).mono HOK2.out.size)
        have HIM2 : Hid (ImL V4 W.heap.size qa m) := Lib.hid ((HIM.out.hi (Hi.ok (Ok.refl _))).mono HOK3.out.size)
        have HNE : Hid (V1.heap.size ≠ V0.heap.size) := Lib.hid (by have h1 := lt_raw HZ6.out; have h2 : V1.heap.size ≤ V1.heap.size := Nat.le_refl _; omega)
        have HG5 : Hid (B0 ≤ V1.heap.size ∧ B0 ≤ V0.heap.size) := Lib.hid (by rw [← HB0.out]; exact ⟨HD0.out.size, Nat.le_refl _⟩)
        have HXO : Hid (Ok W V4) := Lib.hid HOK4.out
        have hSV := hS4
        obtain ⟨g5, hg5⟩ : ∃ g5, V1.heap.size = g5 := ⟨_, rfl⟩
        obtain ⟨g6, hg6⟩ : ∃ g6, V0.heap.size = g6 := ⟨_, rfl⟩
        rw [hg5, hg6] at HNE HG5
        rw [hg5] at HH5 ⊢
        rw [hg6] at HH6 ⊢
        clear hg5 hg6 HZ5 HZ6 HLT HIM HD0 HOK0 HD1 HOK1 HD2 HOK2 HD3 HOK3 HOK4 hS0 hS1 hS2 hS3 hS4
        generalize V4 = V at *
        have HMK := Lib.hid (lentR_mk HH5.out rfl HH6.out rfl HNE.out ⟨Nat.le_trans HV0.out.1 HG5.out.1, Nat.le_trans HV0.out.1 HG5.out.2⟩ HLT2.out HIM2.out HXO.out)
        refine Until.one (i := 6) (by kernel_rfl) rfl (fun K hK => ?_)
        have HK := Lib.hid hK
        clear hK
        rw [if_pos (by rfl)]
        refine wp_store_mid 95 (.tmp 5) (.tmp 30) rfl g5 0 (ra.cells x).toArray rfl rfl HMK.out.1 (info95a ra x) (cells_one ra x) ?_
        have hS9 := (⟨range_block hSV.1 (sets_other g5 (ra.cells x) 0 V g (by have := HV0.out; have := HG5.out; omega)), range_block hSV.2 (sets_other g5 (ra.cells x) 0 V (g + 1) (by have := HV0.out; have := HG5.out; omega))⟩ : _ ∧ _)
        rw [List.toList_toArray]
        obtain ⟨V6, hV6⟩ : ∃ V6, V.setCells g5 0 (ra.cells x) = V6 := ⟨_, rfl⟩
        rw [hV6] at HMK hS9 ⊢
        clear hV6
        refine HK.out.out _ _ (fun _ => hS9) (fun _ => ?_)
        have hSA := (⟨range_block hS9.1 (sets_other g6 (qa.cells m) 0 V6 g (by have := HV0.out; have := HG5.out; omega)), range_block hS9.2 (sets_other g6 (qa.cells m) 0 V6 (g + 1) (by have := HV0.out; have := HG5.out; omega))⟩ : _ ∧ _)
        have HSA := Lib.hid hSA
        clear hSA
        clear HK K hS9 hSV HH5 HH6 HLT2 HIM2 HXO
        try go_frame
        refine Until.one (i := 7) (by kernel_rfl) rfl (fun K hK => ?_)
        have HK := Lib.hid hK
        clear hK
        rw [if_pos (by rfl)]
        refine wp_store_mid 97 (.tmp 6) (.tmp 32) rfl g6 0 (qa.cells m).toArray rfl rfl HMK.out.2.1 (info97a qa m) (cells_one7 qa m) ?_
        rw [List.toList_toArray]
        refine HK.out.out _ _ (fun h => absurd (h.symm.trans (by kernel_rfl : _ = true)) Bool.false_ne_true) (fun _ => ?_)
        clear HK K
        try go_frame
        refine Until.done (by kernel_rfl) ?_ _
        refine HKK.out _ _ ?_
        clear HKK
        go_meet
        exact ⟨g5, g6, ra, qa, rfl, rfl, HMK.out.2.2, HSA.out⟩
  case rest =>
  obtain ⟨g5, g6, ra, qa, rfl, rfl, hlr, hrb⟩ := hcut
  have HLR := Lib.hid hlr
  have HRB := Lib.hid hrb
  have HI7a := Lib.hid (info97' qa m)
  have HIa := Lib.hid (info95' ra x)
  have HLEN : Hid (m.bytes.length ≤ 100000) := Lib.hid (by have := HNQ.out.1; have := HQN.out; omega)
  clear hlr hrb HRX4 HRY4 HO4
  go_upto_region 6 with fail
  go_wp2_with (first | ((with_reducible show wpList _ _ _ (⟨_, .load 95 (.tmp 5), _, _, _, _⟩ :: _) _ _); refine wpList_load_mid rfl 95 (.tmp 5) rfl g5 0 rfl (ra.cells x) _ HLR.out.b5 Try.underlying95 rfl HIa.out ?_) | ((with_reducible show wpList _ _ _ (⟨_, .load 97 (.tmp 6), _, _, _, _⟩ :: _) _ _); refine wpList_load_mid rfl 97 (.tmp 6) rfl g6 0 rfl (qa.cells m) _ HLR.out.b6 Try.underlying97 rfl HI7a.out ?_))
  (with_reducible refine (fill_v ra x qa m wc (ImL.at HLR.out.im) HFI.out HLEN.out).mono ?_)
  rintro _ w6 ⟨r7, y7, b7, rfl, hf7⟩
  have HF7 := Lib.hid hf7
  have HK6 := Lib.hid hf7.ok
  clear hf7
  have HBX7 := Lib.hid (box_new w6 #[.int .u8 0, .int .i64 0, .int .i64 0, .int .i64 0, .int .i64 0, .int .i64 0, .int .i64 0, .int .i64 0, .bool false, .slice none 0 0, .int .i64 0, .int .i64 0, .slice none 0 0, .slice none 0 0, .slice none 0 0, .slice none 0 0, .int .i64 0, .int .i64 0, .int .i64 0, .slice none 0 0] rfl r7 y7)
  have HTZ7 := Lib.hid HBX7.out.1
  have HOW7 := Lib.hid HBX7.out.2.1
  have HR7 := Lib.hid HBX7.out.2.2
  clear HBX7
  go_upto_region 7 with ((with_reducible show wpList _ _ _ (⟨none, .store 95 (.tmp 7) (.tmp 37), _, _, _, _⟩ :: _) _ _); refine wpList_store_mid rfl 95 (.tmp 7) (.tmp 37) rfl w6.heap.size 0 (r7.cells y7).toArray rfl rfl HTZ7.out (info95a r7 y7) (cells_one r7 y7) ?_; rw [List.toList_toArray])
  obtain ⟨w7, hw7⟩ : ∃ w7, (w6.alloc (.cells #[.int .u8 0, .int .i64 0, .int .i64 0, .int .i64 0, .int .i64 0, .int .i64 0, .int .i64 0, .int .i64 0, .bool false, .slice none 0 0, .int .i64 0, .int .i64 0, .slice none 0 0, .slice none 0 0, .slice none 0 0, .slice none 0 0, .int .i64 0, .int .i64 0, .int .i64 0, .slice none 0 0] 95)).setCells w6.heap.size 0 (r7.cells y7) = w7 := ⟨_, rfl⟩
  rw [hw7] at HOW7 HR7 ⊢
  obtain ⟨g7, hg7⟩ : ∃ g7, w6.heap.size = g7 := ⟨_, rfl⟩
  have HG7 := Lib.hid hg7
  rw [hg7] at HR7 ⊢
  clear hw7 hg7 HTZ7
  have HC7 : Hid (Ok wc w7) := Lib.hid (HK6.out.trans HOW7.out)
  have HRX7 := Lib.hid (range_ok HRB.out.1 HC7.out)
  have HRY7 := Lib.hid (range_ok HRB.out.2 HC7.out)
  go_wp2_with (first | ((with_reducible show wpList _ _ _ (⟨_, .load 95 (.tmp 2), _, _, _, _⟩ :: _) _ _); refine wpList_load_mid rfl 95 (.tmp 2) rfl g 0 rfl (r.cells x) _ HRX7.out Try.underlying95 rfl HIN.out ?_) | ((with_reducible show wpList _ _ _ (⟨_, .load 97 (.tmp 3), _, _, _, _⟩ :: _) _ _); refine wpList_load_mid rfl 97 (.tmp 3) rfl (g + 1) 0 rfl (q.cells m) _ HRY7.out Try.underlying97 rfl HI7.out ?_))
  (with_reducible refine (rfill_v r x q m w7 (HL.out.ok (HLR.out.ok.trans HC7.out)) HLE.out (HM.out.ok (HLR.out.ok.trans HC7.out)) HFI.out HLEN.out).mono ?_)
  rintro _ w8 ⟨r9, y9, b9, rfl, hf9⟩
  obtain ⟨rfl, rfl⟩ := fill_eq HF7.out hf9
  have HF9 := Lib.hid hf9
  have HK8 := Lib.hid hf9.ok
  clear hf9
  have HBX9 := Lib.hid (box_new w8 #[.int .u8 0, .int .i64 0, .int .i64 0, .int .i64 0, .int .i64 0, .int .i64 0, .int .i64 0, .int .i64 0, .bool false, .slice none 0 0, .int .i64 0, .int .i64 0, .slice none 0 0, .slice none 0 0, .slice none 0 0, .slice none 0 0, .int .i64 0, .int .i64 0, .int .i64 0, .slice none 0 0] rfl r9 y7)
  have HTZ9 := Lib.hid HBX9.out.1
  have HOW9 := Lib.hid HBX9.out.2.1
  have HR9 := Lib.hid HBX9.out.2.2
  clear HBX9
  go_upto_region 8 with ((with_reducible show wpList _ _ _ (⟨none, .store 95 (.tmp 9) (.tmp 43), _, _, _, _⟩ :: _) _ _); refine wpList_store_mid rfl 95 (.tmp 9) (.tmp 43) rfl w8.heap.size 0 (r9.cells y7).toArray rfl rfl HTZ9.out (info95a r9 y7) (cells_one r9 y7) ?_; rw [List.toList_toArray])
  obtain ⟨w9, hw9⟩ : ∃ w9, (w8.alloc (.cells #[.int .u8 0, .int .i64 0, .int .i64 0, .int .i64 0, .int .i64 0, .int .i64 0, .int .i64 0, .int .i64 0, .bool false, .slice none 0 0, .int .i64 0, .int .i64 0, .slice none 0 0, .slice none 0 0, .slice none 0 0, .slice none 0 0, .int .i64 0, .int .i64 0, .int .i64 0, .slice none 0 0] 95)).setCells w8.heap.size 0 (r9.cells y7) = w9 := ⟨_, rfl⟩
  rw [hw9] at HOW9 HR9 ⊢
  obtain ⟨g9, hg9⟩ : ∃ g9, w8.heap.size = g9 := ⟨_, rfl⟩
  rw [hg9] at HR9 ⊢
  clear hw9 hg9 HTZ9 HRX7 HRY7
  have HC69 : Hid (Ok w6 w9) := Lib.hid (HOW7.out.trans (HK8.out.trans HOW9.out))
  have HR79 := Lib.hid (range_ok HR7.out (HK8.out.trans HOW9.out))
  have HA7 := Lib.hid (FillA.at (HF7.out.far (Hi.ok HC69.out) (HK6.out.trans HC69.out)))
  have HA9 := Lib.hid (FillA.at (HF9.out.far (Hi.ok HOW9.out) (HK8.out.trans HOW9.out)))
  have hbb : (b7 != b7) = false := by cases b7 <;> rfl
  have HI7b := Lib.hid (info95' r7 y7)
  have HI9b := Lib.hid (info95' r9 y7)
  go_wp2_with (first | ((with_reducible show wpList _ _ _ (⟨_, .load 95 (.tmp 7), _, _, _, _⟩ :: _) _ _); refine wpList_load_w (by rfl) 95 (.tmp 7) rfl g7 0 rfl (r7.cells y7) _ HR79.out Try.underlying95 rfl HI7b.out ?_) | ((with_reducible show wpList _ _ _ (⟨_, .load 95 (.tmp 9), _, _, _, _⟩ :: _) _ _); refine wpList_load_w (by rfl) 95 (.tmp 9) rfl g9 0 rfl (r9.cells y7) _ HR9.out Try.underlying95 rfl HI9b.out ?_))
  (with_reducible refine (same_v r7 r9 y7 w9 HA7.out HA9.out).mono ?_)
  rintro _ w10 ⟨rfl, k10⟩
  have HK10 := Lib.hid k10
  clear k10 hbb
  have HR710 := Lib.hid (range_ok HR79.out HK10.out)
  have HC610 : Hid (Ok w6 w10) := Lib.hid (HC69.out.trans HK10.out)
  have HN7 := Lib.hid (HF7.out.far (Hi.ok HC610.out) (HK6.out.trans HC610.out))
  go_wp2_with ((with_reducible show wpList _ _ _ (⟨_, .load 95 (.tmp 7), _, _, _, _⟩ :: _) _ _); refine wpList_load_mid rfl 95 (.tmp 7) rfl g7 0 rfl (r7.cells y7) _ HR710.out Try.underlying95 rfl HI7b.out ?_)
  (with_reducible refine (over_v r7 y7 wc.heap.size w10 HN7.out (Nat.le_trans (ok_le HK6.out) (ok_le HC610.out))).mono ?_)
  rintro _ w11 ⟨rfl, hb11⟩
  have HC11 : Hid (Ok wc w11) := Lib.hid (Below.trans (HK6.out.trans HC610.out) hb11)
  clear hb11
  have HR511 := Lib.hid (range_ok HLR.out.b5 HC11.out)
  have HR611 := Lib.hid (range_ok HLR.out.b6 HC11.out)
  have HRX11 := Lib.hid (range_ok HRB.out.1 HC11.out)
  have HRY11 := Lib.hid (range_ok HRB.out.2 HC11.out)
  have HOX := Lib.hid (HLR.out.ok.trans HC11.out)
  have HLT11 := Lib.hid (HLR.out.lt.hi (Hi.ok HC11.out))
  have HIM11 := Lib.hid (HLR.out.im.hi (Hi.ok HC11.out))
  go_wp2_with (first | ((with_reducible show wpList _ _ _ (⟨_, .load 95 (.tmp 5), _, _, _, _⟩ :: _) _ _); refine wpList_load_mid rfl 95 (.tmp 5) rfl g5 0 rfl (ra.cells x) _ HR511.out Try.underlying95 rfl HIa.out ?_) | ((with_reducible show wpList _ _ _ (⟨_, .load 95 (.tmp 2), _, _, _, _⟩ :: _) _ _); refine wpList_load_mid rfl 95 (.tmp 2) rfl g 0 rfl (r.cells x) _ HRX11.out Try.underlying95 rfl HIN.out ?_))
  (with_reducible refine (kept_v W.heap.size ra r x w11 HLT11.out (HL.out.ok HOX.out)).mono ?_)
  rintro _ w12 ⟨rfl, k12⟩
  have HK12 := Lib.hid k12
  clear k12
  have HR612 := Lib.hid (range_ok HR611.out HK12.out)
  have HRY12 := Lib.hid (range_ok HRY11.out HK12.out)
  go_wp2_with (first | ((with_reducible show wpList _ _ _ (⟨_, .load 97 (.tmp 6), _, _, _, _⟩ :: _) _ _); refine wpList_load_w (by rfl) 97 (.tmp 6) rfl g6 0 rfl (qa.cells m) _ HR612.out Try.underlying97 rfl HI7a.out ?_) | ((with_reducible show wpList _ _ _ (⟨_, .load 97 (.tmp 3), _, _, _, _⟩ :: _) _ _); refine wpList_load_w (by rfl) 97 (.tmp 3) rfl (g + 1) 0 rfl (q.cells m) _ HRY12.out Try.underlying97 rfl HI7.out ?_))
  (with_reducible refine (keptI_v W.heap.size qa q m w12 (HIM11.out.hi (Hi.ok HK12.out)) (HM.out.ok (HOX.out.trans HK12.out))).mono ?_)
  rintro _ w13 ⟨rfl, k13⟩
  go_wp2_with fail
  go_ret
  exact ⟨rfl, HOX.out.trans (HK12.out.trans k13)⟩
end Go.Proofs.Ytolfdncmlfnbdaa
