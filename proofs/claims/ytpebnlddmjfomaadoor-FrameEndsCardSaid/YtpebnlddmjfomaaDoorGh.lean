/- The document's frame as bytes. -/
import Derived.Test.YtpebnlddmjfomaaDoorGg
import Derived.Test.YtpebnlddmjfomaaDoorRf
import Derived.Deep.CutRange
namespace Go.Proofs.YtpebnlddmjfomaaDoor
open Go.RowKit
theorem Until.two {P : Program} {ops : Array Oper} {Q : Exit → Act → World → Prop} {md : Region.Mode} {S : World → Prop} {j i k : Nat} {oi ok : Oper} {n : Nat} {listed : Array Bool} {a : Act} {w : World} (hr : Region.ready md ops listed = [i, k]) (hoi : ops[i]? = some oi) (hok : ops[k]? = some ok)
    (h : ∀ K : Act → World → Prop, Shut (∀ a w, ((listed.setIfInBounds i true).getD j true = false → S w) → (((listed.setIfInBounds i true).getD j true = false → S w) → Until P md ops Q S j n (listed.setIfInBounds i true) a w) → K a w) →
      if Region.wanted oi (yielded ops a.tmps) = true then Oper.wp P oi a w K Q else K (a.put oi.dst undef) w)
    (h' : ∀ K : Act → World → Prop, Shut (∀ a w, ((listed.setIfInBounds k true).getD j true = false → S w) → (((listed.setIfInBounds k true).getD j true = false → S w) → Until P md ops Q S j n (listed.setIfInBounds k true) a w) → K a w) →
      if Region.wanted ok (yielded ops a.tmps) = true then Oper.wp P ok a w K Q else K (a.put ok.dst undef) w) : Until P md ops Q S j (n + 1) listed a w :=
  ⟨fun h0 => (by rw [hr] at h0; cases h0), fun m hm => by
    rw [hr] at hm
    rcases List.mem_cons.1 hm with rfl | hm
    · exact wpOp_step hoi (fun K' hK => h K' (fun a w hS hW => hK a w ⟨hS, hW hS⟩))
    · obtain rfl := List.mem_singleton.1 hm
      exact wpOp_step hok (fun K' hK => h' K' (fun a w hS hW => hK a w ⟨hS, hW hS⟩))⟩
theorem rfour_w (n : Nat) (hn : n < 4294967296) (w : World) : Calls Tryd.prog 31 #[.int .u32 (n : Int)] w (FourP w n) := by
  have h0 : (0 : Int) ≤ (n : Int) := Int.natCast_nonneg _
  have h1 : (n : Int) < 4294967296 := by omega
  go_enter Tryd.func31, Tryd.ntmps31
  go_wp2_with fail
  go_ret
  exact ⟨rfl, by rw [four_cells n hn]⟩
def RowG (w : World) (xs : List B8) (e : Ending) (w' : World) : Prop := ∃ A n c, e = .returned (.slice A n c) ∧ OwnN w' w.heap.size (.slice A n c) xs ∧ Ok w w'
set_option maxRecDepth 100000 in
set_option maxHeartbeats 4000000 in
theorem rone_w (kn : Nat) (hk : kn < 256) (A : Option Addr) (n c : Nat) (d : List B8) (hd : d.length = n) (hn : n ≤ 300000) (W : World) (hB : BytesIn W (.slice A n c) d) :
    Calls Tryd.prog 19 #[.agg #[.int .i64 (kn : Int), .slice A n c]] W (RowG W (bytesF ⟨kn, d⟩)) := by
  have HB := Lib.hid hB
  have HN3 := Lib.hid hn
  have HN : Hid (n < 4294967296) := Lib.hid (by omega)
  have HDL := Lib.hid hd
  have HEK : Hid ((kn : Int) = ub (BitVec.ofNat 8 kn)) := Lib.hid (by rw [ub, BitVec.toNat_ofNat]; omega)
  have k0 : (0 : Int) ≤ (kn : Int) := Int.natCast_nonneg _
  have k1 : (kn : Int) < 256 := by omega
  have n0 : (0 : Int) ≤ (n : Int) := Int.natCast_nonneg _
  have n1 : (n : Int) < 4294967296 := by omega
  have wk : IntKind.u8.wrap (kn : Int) = (kn : Int) := by rw [IntKind.wrap_u8]; omega
  have wn : IntKind.u32.wrap (n : Int) = (n : Int) := by rw [IntKind.wrap_u32]; omega
  have HZC : Hid ((W.alloc (.cells #[.int .i64 (kn : Int), .slice A n c] 45)).heap[W.heap.size]? = some (.cells #[.int .i64 (kn : Int), .slice A n c] 45 (0, 0))) := Lib.hid (heap_alloc_new W _)
  have HOA : Hid (Ok W (W.alloc (.cells #[.int .i64 (kn : Int), .slice A n c] 45))) := Lib.hid ((Ok.refl W).alloc _)
  clear hB hd
  obtain ⟨z, hz⟩ : ∃ z, W.heap.size = z := ⟨_, rfl⟩
  rw [hz] at HZC
  go_enter Tryd.func19, Tryd.ntmps19
  go_upto_region 1 with fail
  clear hz
  generalize W.alloc (.cells #[.int .i64 (kn : Int), .slice A n c] 45) = w0 at *
  have x0 : w0.cell? ⟨z, 0, none⟩ = some (.int .i64 (kn : Int)) := by rw [cell_of_heap HZC.out]; rfl
  have x1 : w0.cell? ⟨z, 1, none⟩ = some (.slice A n c) := by rw [cell_of_heap HZC.out]; rfl
  have HBW := Lib.hid (HOA.out.bytes HB.out)
  have HSU : Hid (u (more 0#32 [headB kn n, d]) = ((sumF kn d : Nat) : Int)) := Lib.hid (by rw [sumF, HDL.out, u])
  have HSL : Hid (sumF kn d < 4294967296) := Lib.hid (by rw [sumF]; exact BitVec.isLt _)
  go_cut [3] from 5 to 14 (fun v wx => ∃ A3 N3 c3, v = .slice A3 N3 c3 ∧ OwnN wx w0.heap.size (.slice A3 N3 c3) (four n ++ [BitVec.ofNat 8 kn]) ∧ Ok w0 wx)
  case first =>
    rename_i K0 Q0 hK0
    have HK0 := Lib.hid hK0
    clear hK0
    refine Until.begin (S := fun V => V.cell? ⟨z, 0, none⟩ = some (.int .i64 (kn : Int)) ∧ V.cell? ⟨z, 1, none⟩ = some (.slice A n c)) (j := 10) (by kernel_rfl) ?_ ?_
    · exact ⟨(Ok.refl w0).drew.cell x0, (Ok.refl w0).drew.cell x1⟩
    intro hS
    have HD : Hid (Ok w0 w0.drew) := Lib.hid ((Ok.refl w0).drew)
    generalize w0.drew = V0 at *
    have hS0 := hS
    clear x0 x1
    refine Until.take0 (i := 0) (v := ?v0) rfl (by kernel_rfl) (by kernel_rfl) (by kernel_rfl) (by kernel_rfl) (fun _ _ _ h => h) (Or.inl ⟨by rfl, ?hy0⟩) (fun _ => hS) ?rest0
    case hy0 => ((intro w hSw); clear hSw; go_simp; (try with_reducible rfl))
    try go_frame
    refine Until.take (i := 1) (v := ?v1) rfl (by kernel_rfl) (by kernel_rfl) (by kernel_rfl) (by kernel_rfl) (fun _ _ _ h => h) (Or.inl ⟨by rfl, ?hy1⟩) hS ?rest1
    case hy1 => ((intro w hSw; (try dsimp only at hSw)); obtain ⟨s0, s1⟩ := hSw; go_simp; (try with_reducible rfl))
    try go_frame
    refine Until.take0 (i := 2) (v := ?v2) rfl (by kernel_rfl) (by kernel_rfl) (by kernel_rfl) (by kernel_rfl) (fun _ _ _ h => h) (Or.inl ⟨by rfl, ?hy2⟩) (fun _ => hS) ?rest2
    case hy2 => ((intro w hSw); clear hSw; go_simp; (try with_reducible rfl))
    try go_frame
    refine Until.take0 (i := 3) (v := ?v3) rfl (by kernel_rfl) (by kernel_rfl) (by kernel_rfl) (by kernel_rfl) (fun _ _ _ h => h) (Or.inl ⟨by rfl, ?hy3⟩) (fun _ => hS) ?rest3
    case hy3 => ((intro w hSw); clear hSw; go_simp; (try with_reducible rfl))
    try go_frame
    refine Until.take0 (i := 5) (v := ?v5) rfl (by kernel_rfl) (by kernel_rfl) (by kernel_rfl) (by kernel_rfl) (fun _ _ _ h => h) (Or.inl ⟨by rfl, ?hy5⟩) (fun _ => hS) ?rest5
    case hy5 => ((intro w hSw); clear hSw; go_simp; (try with_reducible rfl))
    try go_frame
    refine Until.take (i := 6) (v := ?v6) rfl (by kernel_rfl) (by kernel_rfl) (by kernel_rfl) (by kernel_rfl) (fun _ _ _ h => h) (Or.inl ⟨by rfl, ?hy6⟩) hS ?rest6
    case hy6 => ((intro w hSw; (try dsimp only at hSw)); obtain ⟨s0, s1⟩ := hSw; go_simp; (try with_reducible rfl))
    try go_frame
    refine Until.take0 (i := 7) (v := ?v7) rfl (by kernel_rfl) (by kernel_rfl) (by kernel_rfl) (by kernel_rfl) (fun _ _ _ h => h) (Or.inl ⟨by rfl, ?hy7⟩) (fun _ => hS) ?rest7
    case hy7 => ((intro w hSw); clear hSw; go_simp; (try with_reducible rfl))
    try go_frame
    refine Until.two (i := 4) (k := 8) (by kernel_rfl) rfl rfl (fun K hK => ?_) (fun K hK => ?_)
    · have HK := Lib.hid hK
      clear hK
      go_simp
      refine (rfour_w n HN.out V0).mono ?_
      rintro _ _ ⟨rfl, rfl⟩
      have HO1 : Hid (OwnN (V0.alloc (.cells ((four n).map bv).toArray 5)) V0.heap.size (.slice (some ⟨V0.heap.size, 0, none⟩) 4 4) (four n)) := Lib.hid (own_new V0 (four n) 4 rfl (by decide))
      have HK1 : Hid (Ok V0 (V0.alloc (.cells ((four n).map bv).toArray 5))) := Lib.hid ((Ok.refl V0).alloc _)
      generalize V0.alloc (.cells ((four n).map bv).toArray 5) = V1 at *
      have hS1 := (⟨HK1.out.cell hS.1, HK1.out.cell hS.2⟩ : _ ∧ _)
      refine HK.out.out _ _ (fun _ => hS1) (fun _ => ?_)
      clear hS
      have hS := hS1
      clear HK K
      try go_frame
      refine Until.one (i := 8) (by kernel_rfl) rfl (fun K hK => ?_)
      have HK := Lib.hid hK
      clear hK
      go_simp
      have HO2 := Lib.hid (HO1.out.ok ((Ok.refl V1).alloc (.cells #[.int .u8 (kn : Int)] 5)))
      have HB2 : Hid (BytesIn (V1.alloc (.cells #[.int .u8 (kn : Int)] 5)) (.slice (some ⟨V1.heap.size, 0, none⟩) 1 1) [BitVec.ofNat 8 kn]) := Lib.hid (bytes_new V1 [BitVec.ofNat 8 kn] _ 5 (0, 0) _ 1 1 rfl rfl (Nat.le_refl _) (by simp) (by simp [← HEK.out]))
      have HK2 : Hid (Ok V0 (V1.alloc (.cells #[.int .u8 (kn : Int)] 5))) := Lib.hid (HK1.out.alloc _)
      have hS2 := (⟨((Ok.refl V1).alloc (.cells #[.int .u8 (kn : Int)] 5)).cell hS.1, ((Ok.refl V1).alloc (.cells #[.int .u8 (kn : Int)] 5)).cell hS.2⟩ : _ ∧ _)
      generalize V1.alloc (.cells #[.int .u8 (kn : Int)] 5) = V2 at *
      refine HK.out.out _ _ (fun _ => hS2) (fun _ => ?_)
      clear hS
      have hS := hS2
      clear HK K
      try go_frame
      refine Until.one (i := 9) (by kernel_rfl) rfl (fun K hK => ?_)
      have HK := Lib.hid hK
      clear hK
      refine step_appB (by rfl) _ _ (by rfl) V0.heap.size _ (four n) [BitVec.ofNat 8 kn] _ (by rfl) (by rfl) HO2.out HB2.out (by simp [four_len]) HK2.out.size ?_
      intro A3 N3 c3 V3 ho3 hb3 hg3
      have HO3 := Lib.hid ho3
      have HK3 : Hid (Ok V0 V3) := Lib.hid (Below.trans HK2.out hb3)
      clear ho3 hg3
      have hS3 := (⟨HK3.out.cell hS0.1, HK3.out.cell hS0.2⟩ : _ ∧ _)
      refine HK.out.out _ _ (fun _ => hS3) (fun _ => ?_)
      clear hS
      have hS := hS3
      clear HK K
      try go_frame
      refine Until.one (i := 10) (by kernel_rfl) rfl (fun K hK => ?_)
      have HK := Lib.hid hK
      clear hK
      go_simp
      refine HK.out.out _ _ (fun h => absurd (h.symm.trans (by kernel_rfl : _ = true)) Bool.false_ne_true) (fun _ => ?_)
      clear HK K
      try go_frame
      refine Until.done (by kernel_rfl) ?_ _
      refine HK0.out _ _ ?_
      clear HK0
      go_meet
      exact ⟨A3, N3, c3, rfl, HO3.out.mono (by have := HD.out.size; omega), Ok.trans HD.out HK3.out⟩
    · have HK := Lib.hid hK
      clear hK
      go_simp
      have HB1 : Hid (BytesIn (V0.alloc (.cells #[.int .u8 (kn : Int)] 5)) (.slice (some ⟨V0.heap.size, 0, none⟩) 1 1) [BitVec.ofNat 8 kn]) := Lib.hid (bytes_new V0 [BitVec.ofNat 8 kn] _ 5 (0, 0) _ 1 1 rfl rfl (Nat.le_refl _) (by simp) (by simp [← HEK.out]))
      have HK1 : Hid (Ok V0 (V0.alloc (.cells #[.int .u8 (kn : Int)] 5))) := Lib.hid ((Ok.refl V0).alloc _)
      generalize V0.alloc (.cells #[.int .u8 (kn : Int)] 5) = V1 at *
      
      have hS1 := (⟨HK1.out.cell hS.1, HK1.out.cell hS.2⟩ : _ ∧ _)
      refine HK.out.out _ _ (fun _ => hS1) (fun _ => ?_)
      clear hS
      have hS := hS1
      clear HK K
      try go_frame
      refine Until.one (i := 4) (by kernel_rfl) rfl (fun K hK => ?_)
      have HK := Lib.hid hK
      clear hK
      go_simp
      refine (rfour_w n HN.out V1).mono ?_
      rintro _ _ ⟨rfl, rfl⟩
      have HO2 : Hid (OwnN (V1.alloc (.cells ((four n).map bv).toArray 5)) V1.heap.size (.slice (some ⟨V1.heap.size, 0, none⟩) 4 4) (four n)) := Lib.hid (own_new V1 (four n) 4 rfl (by decide))
      have HB2 := Lib.hid (((Ok.refl V1).alloc (.cells ((four n).map bv).toArray 5)).bytes HB1.out)
      have HK2 : Hid (Ok V1 (V1.alloc (.cells ((four n).map bv).toArray 5))) := Lib.hid ((Ok.refl V1).alloc _)
      have hS2 := (⟨HK2.out.cell hS.1, HK2.out.cell hS.2⟩ : _ ∧ _)
      generalize V1.alloc (.cells ((four n).map bv).toArray 5) = V2 at *
      refine HK.out.out _ _ (fun _ => hS2) (fun _ => ?_)
      clear hS
      have hS := hS2
      clear HK K
      try go_frame
      refine Until.one (i := 9) (by kernel_rfl) rfl (fun K hK => ?_)
      have HK := Lib.hid hK
      clear hK
      refine step_appB (by rfl) _ _ (by rfl) V1.heap.size _ (four n) [BitVec.ofNat 8 kn] _ (by rfl) (by rfl) HO2.out HB2.out (by simp [four_len]) HK2.out.size ?_
      intro A3 N3 c3 V3 ho3 hb3 hg3
      have HO3 : Hid (OwnN V3 V0.heap.size (.slice A3 N3 c3) (four n ++ [BitVec.ofNat 8 kn])) := Lib.hid (ho3.mono HK1.out.size)
      have HK3 : Hid (Ok V0 V3) := Lib.hid (Ok.trans HK1.out (Below.trans HK2.out hb3))
      clear ho3 hg3
      have hS3 := (⟨HK3.out.cell hS0.1, HK3.out.cell hS0.2⟩ : _ ∧ _)
      refine HK.out.out _ _ (fun _ => hS3) (fun _ => ?_)
      clear hS
      have hS := hS3
      clear HK K
      try go_frame
      refine Until.one (i := 10) (by kernel_rfl) rfl (fun K hK => ?_)
      have HK := Lib.hid hK
      clear hK
      go_simp
      refine HK.out.out _ _ (fun h => absurd (h.symm.trans (by kernel_rfl : _ = true)) Bool.false_ne_true) (fun _ => ?_)
      clear HK K
      try go_frame
      refine Until.done (by kernel_rfl) ?_ _
      refine HK0.out _ _ ?_
      clear HK0
      go_meet
      exact ⟨A3, N3, c3, rfl, HO3.out.mono (by have := HD.out.size; omega), Ok.trans HD.out HK3.out⟩
  case rest =>
    obtain ⟨A3, N3, c3, rfl, ho3, hk3⟩ := hcut
    have HO3 : Hid (OwnN wc w0.heap.size (.slice A3 N3 c3) (headB kn n)) := Lib.hid ho3
    have HK3 := Lib.hid hk3
    have x4 := hk3.cell x1
    clear ho3 hk3
    go_wp2_with fail
    have HR4 : Hid (RowsIn (wc.alloc (.cells #[.slice A3 N3 c3, .slice A n c] 23)) (.slice (some ⟨wc.heap.size, 0, none⟩) 2 2) [headB kn n, d]) := Lib.hid (rows2_of _ _ _ _ _ _ _ (by go_cell) (by go_cell) (((Ok.refl wc).alloc _).bytes (HO3.out.bytes (by simp [headB, four_len]))) ((HK3.out.alloc _).bytes HBW.out))
    refine (rsum_v _ _ [headB kn n, d] HR4.out (by have := HDL.out; have := HN3.out; simp [tot, headB, four_len]; omega)).mono ?_
    rintro _ w5 ⟨rfl, hk5⟩
    have HOW5 := Lib.hid (HO3.out.ok (Ok.trans ((Ok.refl wc).alloc _) hk5))
    have HKW5 := Lib.hid (Ok.trans (HK3.out.alloc _) hk5)
    have x5 := HKW5.out.cell x1
    rw [HSU.out]
    clear hk5 x4
    go_upto_region 3 with fail
    refine Until.begin (S := fun V => V.cell? ⟨z, 1, none⟩ = some (.slice A n c)) (j := 7) (by kernel_rfl) ?_ ?_
    · exact (Ok.refl w5).drew.cell x5
    intro hS
    have HD : Hid (Ok w5 w5.drew) := Lib.hid ((Ok.refl w5).drew)
    generalize w5.drew = V5 at *
    refine Until.take0 (i := 0) (v := ?v0q) rfl (by kernel_rfl) (by kernel_rfl) (by kernel_rfl) (by kernel_rfl) (fun _ _ _ h => h) (Or.inl ⟨by rfl, ?hy0q⟩) (fun _ => hS) ?rest0q
    case hy0q => ((intro w hSw); clear hSw; go_simp; (try with_reducible rfl))
    try go_frame
    refine Until.take0 (i := 1) (v := ?v1q) rfl (by kernel_rfl) (by kernel_rfl) (by kernel_rfl) (by kernel_rfl) (fun _ _ _ h => h) (Or.inl ⟨by rfl, ?hy1q⟩) (fun _ => hS) ?rest1q
    case hy1q => ((intro w hSw); clear hSw; go_simp; (try with_reducible rfl))
    try go_frame
    refine Until.take0 (i := 4) (v := ?v4q) rfl (by kernel_rfl) (by kernel_rfl) (by kernel_rfl) (by kernel_rfl) (fun _ _ _ h => h) (Or.inl ⟨by rfl, ?hy4q⟩) (fun _ => hS) ?rest4q
    case hy4q => ((intro w hSw); clear hSw; go_simp; (try with_reducible rfl))
    try go_frame
    refine Until.take (i := 5) (v := ?v5q) rfl (by kernel_rfl) (by kernel_rfl) (by kernel_rfl) (by kernel_rfl) (fun _ _ _ h => h) (Or.inl ⟨by rfl, ?hy5q⟩) hS ?rest5q
    case hy5q => ((intro w hSw; (try dsimp only at hSw)); have s1 := hSw; go_simp; (try with_reducible rfl))
    try go_frame
    refine Until.one (i := 2) (by kernel_rfl) rfl (fun K hK => ?_)
    have HK := Lib.hid hK
    clear hK
    go_simp
    refine (rfour_w (sumF kn d) HSL.out V5).mono ?_
    rintro _ _ ⟨rfl, rfl⟩
    have HB6 : Hid (BytesIn (V5.alloc (.cells ((four (sumF kn d)).map bv).toArray 5)) (.slice (some ⟨V5.heap.size, 0, none⟩) 4 4) (four (sumF kn d))) := Lib.hid ((own_new V5 (four (sumF kn d)) 4 rfl (by decide)).bytes (by simp [four_len]))
    have HK6 : Hid (Ok V5 (V5.alloc (.cells ((four (sumF kn d)).map bv).toArray 5))) := Lib.hid ((Ok.refl V5).alloc _)
    generalize V5.alloc (.cells ((four (sumF kn d)).map bv).toArray 5) = V6 at *
    have hS1 := HK6.out.cell hS
    refine HK.out.out _ _ (fun _ => hS1) (fun _ => ?_)
    clear hS
    have hS := hS1
    clear HK K
    try go_frame
    refine Until.one (i := 3) (by kernel_rfl) rfl (fun K hK => ?_)
    have HK := Lib.hid hK
    clear hK
    refine step_appB (by rfl) _ _ (by rfl) w0.heap.size _ (headB kn n) (four (sumF kn d)) _ (by rfl) (by rfl) (HOW5.out.ok (Ok.trans HD.out HK6.out)) HB6.out (by simp [headB, four_len]) (by have := HK6.out.size; have := HD.out.size; have := HKW5.out.size; omega) ?_
    intro A7 N7 c7 V7 ho7 hb7 hg7
    have HO7 := Lib.hid ho7
    have HK7 : Hid (Ok w0 V7) := Lib.hid (Below.trans (Ok.trans HKW5.out (Ok.trans HD.out HK6.out)) hb7)
    clear ho7 hg7 hb7
    have hS2 := HK7.out.cell x1
    refine HK.out.out _ _ (fun _ => hS2) (fun _ => ?_)
    clear hS
    have hS := hS2
    clear HK K
    try go_frame
    refine Until.one (i := 6) (by kernel_rfl) rfl (fun K hK => ?_)
    have HK := Lib.hid hK
    clear hK
    refine step_appB (by rfl) _ _ (by rfl) w0.heap.size _ (headB kn n ++ four (sumF kn d)) d _ (by rfl) (by rfl) HO7.out (HK7.out.bytes HBW.out) (by have := HDL.out; have := HN3.out; simp [headB, four_len]; omega) HK7.out.size ?_
    intro A8 N8 c8 V8 ho8 hb8 hg8
    have HO8 := Lib.hid ho8
    have HK8 : Hid (Ok w0 V8) := Lib.hid (Below.trans HK7.out hb8)
    clear ho8 hg8 hb8
    have hS3 := HK8.out.cell x1
    refine HK.out.out _ _ (fun _ => hS3) (fun _ => ?_)
    clear hS
    have hS := hS3
    clear HK K
    try go_frame
    refine Until.one (i := 7) (by kernel_rfl) rfl (fun K hK => ?_)
    have HK := Lib.hid hK
    clear hK
    go_simp
    refine HK.out.out _ _ (fun h => absurd (h.symm.trans (by kernel_rfl : _ = true)) Bool.false_ne_true) (fun _ => ?_)
    clear HK K
    try go_frame
    refine Until.done (by kernel_rfl) ?_ _
    go_wp2_with fail
    go_ret
    exact ⟨A8, N8, c8, rfl, by rw [show bytesF ⟨(kn : Int), d⟩ = headB kn n ++ four (sumF kn d) ++ d by simp [bytesF, HDL.out]]; exact HO8.out.mono HOA.out.size, Ok.trans HOA.out HK8.out⟩
end Go.Proofs.YtpebnlddmjfomaaDoor
