/- The law FrameTells, walked. -/
import Derived.Test.YtpebnlddmjfomaaDoorGt
namespace Go.Proofs.YtpebnlddmjfomaaDoor
open Go.RowKit
set_option maxRecDepth 100000 in
set_option maxHeartbeats 8000000 in
theorem tells_w (w : World) (ht : Tab w) (A : Option Addr) (n c : Nat) (l : List Fr) (hn : l.length = n) (B : Option Addr) (m d : Nat) (bs : List B8) (hm : bs.length = m) (hB : BytesIn w (.slice B m d) bs) (hI : FramesAt w A l) :
    Calls Tryd.prog 3 #[.slice A n c, .slice B m d] w (Ret w (.bool true)) := by
  have HAW := Lib.hid (fun V (k : Ok w V) => awake_w V (ht.ok k))
  have HI := Lib.hid hI
  have HN := Lib.hid hn
  have HM := Lib.hid hm
  have HT := Lib.hid ht
  have HB := Lib.hid hB
  have HG := Lib.hid (great_w A n c l hn w hI)
  clear hI hn hm ht hB
  go_enter Tryd.func3, Tryd.ntmps3
  go_wp2_with fail
  (with_reducible refine HG.out.mono ?_)
  rintro _ w2 ⟨⟨r, rfl, hr⟩, o2⟩
  have HO2 := Lib.hid o2
  clear o2 HG
  by_cases hout : r = true ∨ 8000 < m
  · cases r with
    | true =>
      go_wp2_with fail
      (with_reducible refine (HAW.out _ HO2.out).mono ?_)
      rintro _ w3 ⟨rfl, o3⟩
      go_wp2_with fail
      go_ret
      exact ⟨rfl, Ok.trans HO2.out o3⟩
    | false =>
      have d1 : decide ((8000 : Int) < (m : Int)) = true := decide_eq_true (by rcases hout with h | h; · cases h
                                                                               · omega)
      go_wp2_with fail
      (with_reducible refine (HAW.out _ HO2.out).mono ?_)
      rintro _ w3 ⟨rfl, o3⟩
      go_wp2_with fail
      go_ret
      exact ⟨rfl, Ok.trans HO2.out o3⟩
  · obtain rfl : r = false := by cases r with
      | true => exact absurd (.inl rfl) hout
      | false => rfl
    have hm8 : m ≤ 8000 := by omega
    have d1 : decide ((8000 : Int) < (m : Int)) = false := decide_eq_false (by omega)
    obtain ⟨h8, h80⟩ := hr rfl
    rw [HN.out] at h8
    have HL80 : Hid ((putL l).length ≤ 80000) := Lib.hid h80
    have HDL : Hid (∀ j, j < n → (atF l j).data.length ≤ 80000) := Lib.hid fun j hj => by
      have h1 := put_take l j (by rw [HN.out]; exact hj)
      have h2 := put_take_len l (j + 1)
      rw [h1, List.length_append, bytesF_len] at h2
      omega
    clear hr hout h80
    go_wp2_with fail
    go_loopw [5, 6, 7] (fun vd vi i wr => ∃ (k : Nat) (Ad : Option Addr) (cd : Nat) (Ai : Option Addr) (ci : Nat), k ≤ n ∧ i = .int .i64 k ∧ vd = .slice Ad k cd ∧ vi = .slice Ai k ci ∧ DatR w wr Ad k cd l ∧ InR w wr Ai k ci l ∧ Ok w wr) (fun _ _ i _ => n - (intOf i).toNat)
    case atStart => exact ⟨0, none, 0, none, 0, Nat.zero_le _, rfl, rfl, rfl, DatR.nil _ _ _, InR.nil _ _ _, HO2.out⟩
    case round =>
      obtain ⟨k, Ad, cd, Ai, ci, hk, rfl, rfl, rfl, hda, hin, okr⟩ := hrel
      have HOKR := Lib.hid okr
      have HIN := Lib.hid hin
      by_cases hlt : k < n
      · have d2 : decide ((k : Int) < (n : Int)) = true := decide_eq_true (by omega)
        obtain ⟨b, off, rfl, C0, v, C1, hBB⟩ := HI.out k (by rw [HN.out]; exact hlt)
        obtain ⟨A2, c2, rfl, -⟩ := hBB.form
        have HBB := Lib.hid hBB
        obtain ⟨ds, hd1, hd2⟩ := hda
        have hi0 : (0 : Int) ≤ (k : Int) := Int.natCast_nonneg _
        have hi1 : (k : Int) < (n : Int) := by omega
        have hdm := HDL.out k hlt
        have HDM : Hid ((atF l k).data.length = (atF l k).data.length) := Lib.hid rfl
        have HKB : Hid (k ≤ 1000000000) := Lib.hid (by omega)
        obtain ⟨mm, hmm⟩ : ∃ mm, (atF l k).data.length = mm := ⟨_, rfl⟩
        rw [hmm] at C1 HBB HDM hdm
        obtain ⟨kd, hkd⟩ : ∃ kd, (atF l k).kind = kd := ⟨_, rfl⟩
        rw [hkd] at C0
        replace HDM : Hid ((atF l k).data.length = mm) := Lib.hid hmm
        have HKE : Hid (kd = (atF l k).kind) := Lib.hid hkd.symm
        have HLB := Lib.hid (fun V (o : Ok w V) => lentB_w A2 mm c2 (atF l k).data hmm (by omega) V (o.bytes HBB.out))
        clear hin okr hBB hmm hkd
        have x0 := HOKR.out.cell C0
        have x1 := HOKR.out.cell C1
        have HD1 : Hid ((wr.alloc (.cells #[.slice A2 mm c2] 23)).ownsRow w.heap.size 23 1 (.slice Ad k cd) k ds) := Lib.hid (own_stays hd1 fun b hb => ((Ok.refl wr).alloc (.cells #[.slice A2 mm c2] 23)).block b (World.ownsRow.lt hd1 b hb).2)
        have HD2 := Lib.hid hd2
        have HDN : Hid (ds.length = k) := Lib.hid (by have := hd1.1; omega)
        have HCN0 : Hid ((wr.alloc (.cells #[.slice A2 mm c2] 23)).heap[wr.heap.size]? = some (.cells #[.slice A2 mm c2] 23 (0, 0))) := Lib.hid (heap_alloc_new wr _)
        have HOK3 : Hid (Ok w (wr.alloc (.cells #[.slice A2 mm c2] 23))) := Lib.hid (HOKR.out.alloc _)
        have HIN3 := Lib.hid (HIN.out.ok ((Ok.refl wr).alloc (.cells #[.slice A2 mm c2] 23)))
        clear hd1 hd2 HIN
        go_upto_region 9 with (at_builtin; go_must (refine wpList_app1 rfl (.tmp 36) (.tmp 42) rfl w.heap.size Ad k cd ds rfl HD1.out wr.heap.size (.slice A2 mm c2) rfl rfl HCN0.out HKB.out HOK3.out.size ?_; intro A4 c4 w4 ho4 hb4 hg4; have HDA4 := Lib.hid (DatR.snoc HD2.out HDN.out (HDM.out ▸ HBB.out) ho4); have HIN4 := Lib.hid (HIN3.out.grown HD1.out hg4); have HOK4 : Hid (Ok w w4) := Lib.hid (Below.trans HOK3.out hb4); clear ho4 hb4 hg4))
        replace x0 := HOK4.out.cell C0
        replace x1 := HOK4.out.cell C1
        refine Until.begin (S := fun V => V.cell? ⟨b, off + k * 2, none⟩ = some (.int .i64 kd) ∧ V.cell? ⟨b, off + k * 2 + 1, none⟩ = some (.slice A2 mm c2)) (j := 15) (by kernel_rfl) ?_ ?_
        · exact ⟨(Ok.refl w4).drew.cell x0, (Ok.refl w4).drew.cell x1⟩
        intro hS
        have HD : Hid (Ok w4 w4.drew) := Lib.hid ((Ok.refl w4).drew)
        generalize w4.drew = V0 at *
        refine Until.take0 (i := 0) (v := ?v0) rfl (by kernel_rfl) (by kernel_rfl) (by kernel_rfl) (by kernel_rfl) (fun _ _ _ h => h) (Or.inl ⟨by rfl, ?hy0⟩) (fun _ => hS) ?rest0
        case hy0 => ((intro w hSw); clear hSw; go_simp; (try with_reducible rfl))
        try go_frame
        refine Until.take0 (i := 1) (v := ?v1) rfl (by kernel_rfl) (by kernel_rfl) (by kernel_rfl) (by kernel_rfl) (fun _ _ _ h => h) (Or.inl ⟨by rfl, ?hy1⟩) (fun _ => hS) ?rest1
        case hy1 => ((intro w hSw); clear hSw; go_simp; (try with_reducible rfl))
        try go_frame
        refine Until.take0 (i := 2) (v := ?v2) rfl (by kernel_rfl) (by kernel_rfl) (by kernel_rfl) (by kernel_rfl) (fun _ _ _ h => h) (Or.inl ⟨by rfl, ?hy2⟩) (fun _ => hS) ?rest2
        case hy2 => ((intro w hSw); clear hSw; go_simp; (try with_reducible rfl))
        try go_frame
        refine Until.take0 (i := 3) (v := ?v3) rfl (by kernel_rfl) (by kernel_rfl) (by kernel_rfl) (by kernel_rfl) (fun _ _ _ h => h) (Or.inl ⟨by rfl, ?hy3⟩) (fun _ => hS) ?rest3
        case hy3 => ((intro w hSw); clear hSw; go_simp; (try with_reducible rfl))
        try go_frame
        refine Until.take0 (i := 4) (v := ?v4) rfl (by kernel_rfl) (by kernel_rfl) (by kernel_rfl) (by kernel_rfl) (fun _ _ _ h => h) (Or.inl ⟨by rfl, ?hy4⟩) (fun _ => hS) ?rest4
        case hy4 => ((intro w hSw); clear hSw; go_simp; (try with_reducible rfl))
        try go_frame
        refine Until.take (i := 5) (v := ?v5) rfl (by kernel_rfl) (by kernel_rfl) (by kernel_rfl) (by kernel_rfl) (fun _ _ _ h => h) (Or.inl ⟨by rfl, ?hy5⟩) hS ?rest5
        case hy5 => ((intro w hSw; (try dsimp only at hSw)); obtain ⟨s0, s1⟩ := hSw; go_simp; (try with_reducible rfl))
        try go_frame
        refine Until.take0 (i := 6) (v := ?v6) rfl (by kernel_rfl) (by kernel_rfl) (by kernel_rfl) (by kernel_rfl) (fun _ _ _ h => h) (Or.inl ⟨by rfl, ?hy6⟩) (fun _ => hS) ?rest6
        case hy6 => ((intro w hSw); clear hSw; go_simp; (try with_reducible rfl))
        try go_frame
        refine Until.take0 (i := 7) (v := ?v7) rfl (by kernel_rfl) (by kernel_rfl) (by kernel_rfl) (by kernel_rfl) (fun _ _ _ h => h) (Or.inl ⟨by rfl, ?hy7⟩) (fun _ => hS) ?rest7
        case hy7 => ((intro w hSw); clear hSw; go_simp; (try with_reducible rfl))
        try go_frame
        refine Until.take0 (i := 8) (v := ?v8) rfl (by kernel_rfl) (by kernel_rfl) (by kernel_rfl) (by kernel_rfl) (fun _ _ _ h => h) (Or.inl ⟨by rfl, ?hy8⟩) (fun _ => hS) ?rest8
        case hy8 => ((intro w hSw); clear hSw; go_simp; (try with_reducible rfl))
        try go_frame
        refine Until.take0 (i := 9) (v := ?v9) rfl (by kernel_rfl) (by kernel_rfl) (by kernel_rfl) (by kernel_rfl) (fun _ _ _ h => h) (Or.inl ⟨by rfl, ?hy9⟩) (fun _ => hS) ?rest9
        case hy9 => ((intro w hSw); clear hSw; go_simp; (try with_reducible rfl))
        try go_frame
        refine Until.take (i := 10) (v := ?v10) rfl (by kernel_rfl) (by kernel_rfl) (by kernel_rfl) (by kernel_rfl) (fun _ _ _ h => h) (Or.inl ⟨by rfl, ?hy10⟩) hS ?rest10
        case hy10 => ((intro w hSw; (try dsimp only at hSw)); obtain ⟨s0, s1⟩ := hSw; go_simp; (try with_reducible rfl))
        try go_frame
        refine Until.one (i := 11) (by kernel_rfl) rfl (fun K hK => ?_)
        have HK := Lib.hid hK
        clear hK
        go_simp
        refine (HLB.out V0 (Ok.trans HOK4.out HD.out)).mono ?_
        rintro _ V1 ⟨gl, capl, rfl, hcl, hgl, hkl, hol⟩
        have HCLP := Lib.hid hcl
        have HKL := Lib.hid (Ok.trans HD.out hkl)
        have HOLT := Lib.hid (hol.mono (Ok.trans HOK4.out HD.out).size)
        have hS1 := (⟨hkl.cell hS.1, hkl.cell hS.2⟩ : _ ∧ _)
        clear hcl hgl hkl hol
        refine HK.out.out _ _ (fun _ => hS1) (fun _ => ?_)
        clear hS
        have hS := hS1
        clear HK K
        try go_frame
        refine Until.take0 (i := 12) (v := ?v12) rfl (by kernel_rfl) (by kernel_rfl) (by kernel_rfl) (by kernel_rfl) (fun _ _ _ h => h) (Or.inl ⟨by rfl, ?hy12⟩) (fun _ => hS) ?rest12
        case hy12 => ((intro w hSw); clear hSw; go_simp; (try with_reducible rfl))
        try go_frame
        refine Until.one (i := 13) (by kernel_rfl) rfl (fun K hK => ?_)
        have HK := Lib.hid hK
        clear hK
        go_simp
        have HCN : Hid ((V1.alloc (.cells #[.int .i64 kd, .slice (some ⟨gl, 0, none⟩) mm capl] 28)).heap[V1.heap.size]? = some (.cells #[.int .i64 kd, .slice (some ⟨gl, 0, none⟩) mm capl] 28 (0, 0))) := Lib.hid (heap_alloc_new V1 _)
        have HK2 : Hid (Ok w4 (V1.alloc (.cells #[.int .i64 kd, .slice (some ⟨gl, 0, none⟩) mm capl] 28))) := Lib.hid (HKL.out.alloc _)
        have HOL2 := Lib.hid (HOLT.out.ok ((Ok.refl V1).alloc (.cells #[.int .i64 kd, .slice (some ⟨gl, 0, none⟩) mm capl] 28)))
        generalize V1.alloc (.cells #[.int .i64 kd, .slice (some ⟨gl, 0, none⟩) mm capl] 28) = V2 at *
        have HOK2 := Lib.hid (Ok.trans HOK4.out HK2.out)
        obtain ⟨cs, hc1, hc2⟩ := HIN4.out.ok HK2.out
        have HC1 := Lib.hid hc1
        have HC2 := Lib.hid hc2
        clear hc1 hc2
        have hS1 := (⟨HOK2.out.cell C0, HOK2.out.cell C1⟩ : _ ∧ _)
        refine HK.out.out _ _ (fun _ => hS1) (fun _ => ?_)
        clear hS
        have hS := hS1
        clear HK K
        try go_frame
        refine Until.one (i := 14) (by kernel_rfl) rfl (fun K hK => ?_)
        have HK := Lib.hid hK
        clear hK
        refine step_app2 (by rfl) _ _ 22 28 Tryd.underlying22 info28 (by rfl) w.heap.size Ai k ci cs (by rfl) HC1.out V1.heap.size kd (.slice (some ⟨gl, 0, none⟩) mm capl) rfl (by rfl) HCN.out HKB.out HOK2.out.size ?_
        intro A5 c5 V3 ho5 hb5 hg5
        have HIN5 := Lib.hid (InR.snoc (l := l) HC1.out HC2.out HDM.out HCLP.out HOL2.out (HKE.out ▸ ho5) hg5)
        have HDA5 := Lib.hid ((HDA4.out.ok HK2.out).grown HC1.out hg5)
        have HOK5 : Hid (Ok w V3) := Lib.hid (Below.trans HOK2.out hb5)
        have hS2 := (⟨HOK5.out.cell C0, HOK5.out.cell C1⟩ : _ ∧ _)
        clear ho5 hb5 hg5
        refine HK.out.out _ _ (fun _ => hS2) (fun _ => ?_)
        clear hS
        have hS := hS2
        clear HK K
        try go_frame
        refine Until.one (i := 15) (by kernel_rfl) rfl (fun K hK => ?_)
        have HK := Lib.hid hK
        clear hK
        go_simp
        refine HK.out.out _ _ (fun h => absurd (h.symm.trans (by kernel_rfl : _ = true)) Bool.false_ne_true) (fun _ => ?_)
        clear HK K
        try go_frame
        refine Until.done (by kernel_rfl) ?_ _
        go_wp2_with fail
        exact ⟨⟨k + 1, A4, c4, A5, c5, hlt, by go_num, rfl, rfl, HDA5.out, HIN5.out, HOK5.out⟩, by simp [intOf]; omega⟩
      · have d2 : decide ((k : Int) < (n : Int)) = false := decide_eq_false (by omega)
        obtain rfl : n = k := by omega
        obtain ⟨wb, hwb⟩ : ∃ x, x = wr := ⟨_, rfl⟩
        subst hwb
        have HDA := Lib.hid hda
        have HFI : Hid (∀ V, Ok wb V → FramesAt V Ai l) := Lib.hid (fun V o => (hin.at HN.out (fun j hj => by have := HDL.out j hj; omega)).ok o)
        clear hda hin okr
        go_wp2_with fail
        (with_reducible refine (put_w Ai n ci l HN.out (by omega) (by have := HL80.out; omega) wb (HT.out.ok HOKR.out) (HFI.out _ (Ok.refl _))).mono ?_)
        rintro _ w5 ⟨As, cs, rfl, ho5, k5⟩
        have HO5 := Lib.hid ho5
        have HK5 := Lib.hid k5
        have HOK5 := Lib.hid (Ok.trans HOKR.out k5)
        clear ho5 k5
        go_wp2_with fail
        (with_reducible refine (turned_w A n c l HN.out (by omega) w5 (HI.out.ok HOK5.out)).mono ?_)
        rintro _ w6 ⟨At, ct, rfl, hft, k6⟩
        have HFT := Lib.hid hft
        have HK6 := Lib.hid k6
        clear hft k6
        go_wp2_with fail
        (with_reducible refine (rput_w At l.length ct l rfl (by have := HN.out; omega) (by have := HL80.out; omega) w6 HFT.out).mono ?_)
        rintro _ w7 ⟨A7, c7, rfl, ho7, k7⟩
        have HO7 := Lib.hid ho7
        have HK7 := Lib.hid (Ok.trans HK6.out k7)
        clear ho7 k7 HK6 HFT
        have HK57 := Lib.hid (Ok.trans HK5.out HK7.out)
        go_wp2_with fail
        (with_reducible refine (put_w Ai n ci l HN.out (by omega) (by have := HL80.out; omega) w7 (HT.out.ok (Ok.trans HOKR.out HK57.out)) (HFI.out _ HK57.out)).mono ?_)
        rintro _ w8 ⟨Au, cu, rfl, ho8, k8⟩
        have HO8 := Lib.hid ho8
        have HK8 := Lib.hid k8
        have HOK8 := Lib.hid (Ok.trans HOKR.out (Ok.trans HK57.out k8))
        clear ho8 k8
        have HPL : Hid ((putM l).length ≤ 80000) := Lib.hid (by
          have := HL80.out
          unfold putM
          split
          · omega
          · simp)
        generalize putM l = pm at *
        generalize hL : pm.length = L at *
        have HL := Lib.hid hL
        clear hL
        generalize putErr l = er at *
        have hne1 : (er != er) = false := by simp
        go_wp2_with fail
        (with_reducible refine (lentB_w B m d bs HM.out (by omega) w8 (HOK8.out.bytes HB.out)).mono ?_)
        rintro _ w9 ⟨go, capo, rfl, hco, hgo, k9, ho9⟩
        have HCO := Lib.hid hco
        have HO9 := Lib.hid ho9
        have HK9 := Lib.hid k9
        have HOK9 := Lib.hid (Ok.trans HOK8.out k9)
        clear hco hgo k9 ho9
        go_wp2_with fail
        (with_reducible refine (getd_w (some ⟨go, 0, none⟩) m capo bs HM.out (by omega) w9 (HT.out.ok HOK9.out) (lent_bytes HM.out (by omega) HO9.out)).mono ?_)
        rintro _ w10 ⟨Ax, nx, cx, xs, cx2, r, rfl, hG, hnx, hC, hD, k10⟩
        have HGX := Lib.hid hG
        have HNX := Lib.hid hnx
        have HCX := Lib.hid hC
        have HDX := Lib.hid hD
        have HK10 := Lib.hid k10
        have HOK10 := Lib.hid (Ok.trans HOK9.out k10)
        have hnx8 : nx ≤ 8000 := by
          have h1 := putL_count xs
          have h2 := hG.2.1
          have h3 : bs.length = (putL xs).length + r.length := by rw [h2, List.length_append]
          have := HM.out
          omega
        clear hG hnx hC hD k10
        go_wp2_with fail
        (with_reducible refine (rget_w B m d bs HM.out (by omega) w10 (HOK10.out.bytes HB.out)).mono ?_)
        rintro _ w11 ⟨Ay, cy, ys, r2, rfl, hG2, hFy, k11⟩
        obtain ⟨rfl, rfl⟩ := got_uniq HGX.out hG2
        have HFY := Lib.hid hFy
        have HK11 := Lib.hid k11
        clear hG2 hFy k11
        have HYD : Hid (∀ j, j < ys.length → (atF ys j).data.length ≤ 8000) := Lib.hid (fun j hj => by have := got_data HGX.out j hj; have := HM.out; omega)
        have HNX2 : Hid (ys.length = nx) := Lib.hid HNX.out.symm
        rw [HNX2.out]
        generalize (putL ys).length = M2 at *
        have hne2 : ((M2 : Int) != (M2 : Int)) = false := by simp
        have HSB : Hid (∀ V, Ok w11 V → Calls Tryd.prog 15 #[.slice As L cs, .slice A7 L c7] V fun e w' => e = .returned (.bool true) ∧ Ok V w') := Lib.hid (fun V o => by
          have k1 : Ok w7 V := Ok.trans (Ok.trans HK8.out (Ok.trans HK9.out (Ok.trans HK10.out HK11.out))) o
          exact sameBytes_v _ _ pm V ((HO5.out.ok (Ok.trans HK7.out k1)).bytes (by have := HPL.out; have := HL.out; omega)) ((HO7.out.ok k1).bytes (by have := HPL.out; have := HL.out; omega)))
        have HSM : Hid (∀ V, Ok w11 V → Calls Tryd.prog 16 #[.slice Ax nx cx, .slice Ay nx cy] V (Ret V (.bool true))) := Lib.hid (fun V o => same_w Ax Ay nx cx cy ys HNX2.out (by omega) V (HCX.out.at.ok (Ok.trans HK11.out o)) (HFY.out.ok o))
        have HKB : Hid (∀ V, Ok w11 V → Calls Tryd.prog 17 #[.slice (some ⟨go, 0, none⟩) m capo, .slice B m d] V (Ret V (.bool true))) := Lib.hid (fun V o => keptB_w go capo B m d w8.heap.size bs HM.out (by omega) V HCO.out (HO9.out.ok (Ok.trans HK10.out (Ok.trans HK11.out o))) (by exact (Ok.trans HOK10.out (Ok.trans HK11.out o)).bytes HB.out))
        go_wp2_with fail
        (with_reducible refine (HSB.out _ (Ok.refl _)).mono ?_)
        rintro _ w12 ⟨rfl, k12⟩
        have HK12 := Lib.hid k12
        clear k12
        go_wp2_with fail
        (with_reducible refine (HSM.out _ HK12.out).mono ?_)
        rintro _ w13 ⟨rfl, k13⟩
        have HK13 := Lib.hid (Ok.trans HK12.out k13)
        clear k13 HK12
        go_wp2_with fail
        (with_reducible refine (HKB.out _ HK13.out).mono ?_)
        rintro _ w14 ⟨rfl, k14⟩
        have HK14 := Lib.hid (Ok.trans HK13.out k14)
        clear k14 HK13
        go_wp2_with fail
        have HRW0 := Lib.hid (row_two w14 (.slice As L cs) (.slice Au L cu))
        have HKW0 : Hid (Ok w14 (w14.alloc (.cells #[.slice As L cs, .slice Au L cu] 23))) := Lib.hid ((Ok.refl w14).alloc _)
        have HKX := Lib.hid (Ok.trans HK11.out HK14.out)
        clear HK14 HSB HSM HFY HK11
        go_loopw [19, 20] (fun va i wr => ∃ (k : Nat) (Aa : Option Addr) (ca : Nat), k ≤ nx ∧ i = .int .i64 k ∧ va = .slice Aa (2 + k) ca ∧ wr.ownsRow w14.heap.size 23 1 (.slice Aa (2 + k) ca) (2 + k) (lst3 (.slice As L cs) (.slice Au L cu) (dvs cx2) k) ∧ Ok w14 wr) (fun _ i _ => nx - (intOf i).toNat)
        case atStart => exact ⟨0, _, 2, Nat.zero_le _, rfl, rfl, HRW0.out, HKW0.out⟩
        case round =>
          obtain ⟨k, Aa, ca, hk, rfl, rfl, hrow, okq⟩ := hrel
          have HOQ := Lib.hid okq
          have HRQ := Lib.hid hrow
          clear okq hrow HRW0 HKW0
          by_cases hlt : k < nx
          · have d3 : decide ((k : Int) < (nx : Int)) = true := decide_eq_true (by omega)
            obtain ⟨-, hod, ⟨gx, rfl, C1⟩, -⟩ := HCX.out.data k (by rw [HNX2.out]; exact hlt)
            obtain ⟨A2, c2, hv⟩ := hod.form
            have C1' := HOQ.out.cell (HKX.out.cell C1)
            have HSU : Hid (lst3 (.slice As L cs) (.slice Au L cu) (dvs cx2) (k + 1) = lst3 (.slice As L cs) (.slice Au L cu) (dvs cx2) k ++ [.slice A2 (atF ys k).data.length c2]) := Lib.hid (by rw [lst3_succ, hv])
            rw [hv] at C1'
            have hi0 : (0 : Int) ≤ (k : Int) := Int.natCast_nonneg _
            have hi1 : (k : Int) < (nx : Int) := by omega
            clear hod C1 hv
            generalize (atF ys k).data.length = mk at *
            have HRQ2 : Hid ((wr.alloc (.cells #[.slice A2 mk c2] 23)).ownsRow w14.heap.size 23 1 (.slice Aa (2 + k) ca) (2 + k) (lst3 (.slice As L cs) (.slice Au L cu) (dvs cx2) k)) := Lib.hid (own_stays HRQ.out fun b hb => ((Ok.refl wr).alloc (.cells #[.slice A2 mk c2] 23)).block b (World.ownsRow.lt HRQ.out b hb).2)
            have HOQ2 : Hid (Ok w14 (wr.alloc (.cells #[.slice A2 mk c2] 23))) := Lib.hid (HOQ.out.alloc _)
            have HCQ : Hid ((wr.alloc (.cells #[.slice A2 mk c2] 23)).heap[wr.heap.size]? = some (.cells #[.slice A2 mk c2] 23 (0, 0))) := Lib.hid (heap_alloc_new wr _)
            have HKL : Hid (2 + k ≤ 1000000000) := Lib.hid (by omega)
            have HMS : Hid (nx - (k + 1) < nx - k) := Lib.hid (by omega)
            clear HRQ
            go_wp2_with (at_builtin; go_must (refine wpList_app1 rfl (.tmp 122) (.tmp 128) rfl w14.heap.size Aa (2 + k) ca _ rfl HRQ2.out wr.heap.size (.slice A2 mk c2) rfl rfl HCQ.out HKL.out HOQ2.out.size ?_; intro A4 c4 w4 ho4 hb4 hg4; have HRQ4 := Lib.hid ho4; have HOQ4 : Hid (Ok w14 w4) := Lib.hid (Below.trans HOQ2.out hb4); clear ho4 hb4 hg4))
            exact ⟨⟨k + 1, A4, c4, hlt, by go_num, rfl, by rw [HSU.out]; exact HRQ4.out, HOQ4.out⟩, HMS.out⟩
          · have d3 : decide ((k : Int) < (nx : Int)) = false := decide_eq_false (by omega)
            obtain rfl : nx = k := by omega
            obtain ⟨wc, hwc⟩ : ∃ x, x = wr := ⟨_, rfl⟩
            subst hwc
            have k9c : Ok w9 wc := Ok.trans HK10.out (Ok.trans HKX.out HOQ.out)
            have k8c : Ok w8 wc := Ok.trans HK9.out k9c
            have k5c : Ok w5 wc := Ok.trans HK7.out (Ok.trans HK8.out k8c)
            have z57 := HK7.out.size
            have z78 := HK8.out.size
            have z89 := HK9.out.size
            have zb5 := HK5.out.size
            have zbc := (Ok.trans HK5.out k5c).size
            have hs := HO5.out.ok k5c
            have hu := HO8.out.ok k8c
            have hd : ∀ j, j < nx → OwnN wc w9.heap.size (dvs cx2 j) (atF ys j).data := fun j hj => ((HCX.out.data j (by rw [HNX2.out]; exact hj)).2.1).ok (Ok.trans HKX.out HOQ.out)
            have hsl : ∀ b, (Value.slice As L cs).ownBlock = some b → b < w7.heap.size := fun b hb => by have := (HO5.out.below b hb).2; omega
            have hul : ∀ b, (Value.slice Au L cu).ownBlock = some b → b < w8.heap.size := fun b hb => (HO8.out.below b hb).2
            have hdis : ∀ i j b, i < j → j < nx → (dvs cx2 i).ownBlock = some b → (dvs cx2 j).ownBlock ≠ some b := fun i j b hij hj hb => HDX.out i j _ _ b hij (HCX.out.data i (by rw [HNX2.out]; omega)).1 (HCX.out.data j (by rw [HNX2.out]; exact hj)).1 hb
            have hF := fl_all hs hsl hu (fun b hb => Nat.lt_of_lt_of_le (hul b hb) z89) hd (by omega) hdis
            have HAP := Lib.hid (apartBytes_w Aa (2 + nx) ca _ _ _ wc (fun j hj => by
              obtain ⟨b, off, e, hc⟩ := row_cell1 HRQ.out j hj
              exact ⟨b, off, e, by rw [hc]; exact lst3_get _ _ _ _ _ hj⟩) hF (by omega) (fun j hj => by
              match j, hj with
              | 0, _ => show pm.length ≤ 1000000; have := HPL.out; have := HL.out; omega
              | 1, _ => show pm.length ≤ 1000000; have := HPL.out; have := HL.out; omega
              | j + 2, hj => show (atF ys j).data.length ≤ 1000000; have := HYD.out j (by rw [HNX2.out]; omega); omega))
            have HLO := Lib.hid (pick3_lo (N := wb.heap.size) hs hu hd (by omega) (by omega) (by omega))
            have HMI := Lib.hid (pick3_mid hsl hul (by omega) hd)
            have HZC : Hid (wb.heap.size ≤ wc.heap.size) := Lib.hid zbc
            have HKBC : Hid (Ok wb wc) := Lib.hid (Ok.trans HK5.out k5c)
            have HO9C := Lib.hid (HO9.out.ok k9c)
            have HB9 := Lib.hid (HO9.out.below go rfl)
            have H9C : Hid (w9.heap.size ≤ wc.heap.size) := Lib.hid k9c.size
            clear k9c k8c k5c z57 z78 z89 zb5 zbc hs hu hd hsl hul hdis hF
            go_wp2_with fail
            (with_reducible refine HAP.out.mono ?_)
            rintro _ w15 ⟨rfl, hkv⟩
            have HB15 : Hid (Ok wb w15) := Lib.hid (Below.trans HKBC.out (hkv.low HLO.out HZC.out))
            have HW15 : Hid (Ok w w15) := Lib.hid (Ok.trans HOKR.out HB15.out)
            have HO15 : Hid (OwnN w15 w8.heap.size (.slice (some ⟨go, 0, none⟩) (m + 12) capo) (bs ++ mks 12)) := Lib.hid (own_stays HO9C.out fun b hb => by
              obtain rfl : go = b := by simpa [Value.ownBlock] using hb
              exact hkv.block go (Nat.lt_of_lt_of_le HB9.out.2 H9C.out) (fun j hj => HMI.out j go hj HB9.out.1 HB9.out.2))
            have HKB2 := Lib.hid (keptB_w go capo B m d w8.heap.size bs HM.out (by omega) w15 HCO.out HO15.out (HW15.out.bytes HB.out))
            clear hkv HAP HLO HMI
            go_wp2_with fail
            (with_reducible refine HKB2.out.mono ?_)
            rintro _ w16 ⟨rfl, k16⟩
            have HB16 := Lib.hid (Ok.trans HB15.out k16)
            clear k16
            go_wp2_with fail
            go_loopw [21] (fun i wr => ∃ k : Nat, k ≤ n ∧ i = .int .i64 k ∧ Ok w16 wr) (fun i _ => n - (intOf i).toNat)
            case atStart => exact ⟨0, Nat.zero_le _, rfl, Ok.refl _⟩
            case round =>
              obtain ⟨k, hk, rfl, okr⟩ := hrel
              have HBR := Lib.hid (Ok.trans HB16.out okr)
              have HOR := Lib.hid okr
              clear okr
              by_cases hlt : k < n
              · have d4 : decide ((k : Int) < (n : Int)) = true := decide_eq_true (by omega)
                obtain ⟨q, off, g, cap, rfl, C0, hcap, hown⟩ := HIN.out.cellat k hlt
                obtain ⟨q2, off2, v, rfl, C1, hv⟩ := HDA.out.cellat k hlt
                have hdl := HDL.out k hlt
                obtain ⟨A2, c2, rfl, -⟩ := hv.form
                have q17 : ∀ d os, Calls Tryd.prog 17 #[.slice (some ⟨g, 0, none⟩) (atF l k).data.length cap, .slice A2 (atF l k).data.length c2] (Go.Sort.grow (redrawn wr d) os) fun e w'' => e = .returned (.bool true) ∧ ∃ q : Regrown, w'' = Go.Sort.grow (redrawn wr q.d) q.os := fun d os => Calls.regrown_of (keptB_w g cap A2 _ c2 w.heap.size (atF l k).data rfl (by omega) _ hcap (hown.ok (Ok.trans HBR.out (below_regrown wr d os))) ((Ok.trans HOKR.out (Ok.trans HBR.out (below_regrown wr d os))).bytes hv))
                have k0 := cell_regrown (HBR.out.cell C0)
                have k1 := cell_regrown (HBR.out.cell C1)
                generalize (atF l k).data.length = mk at *
                clear hown hv C0 C1 hcap hdl
                have hi0 : (0 : Int) ≤ (k : Int) := Int.natCast_nonneg _
                have hi1 : (k : Int) < (n : Int) := by omega
                go_wp2_with fail
                refine wp_region_quiet_below (by kernel_rfl) (by kernel_rfl) ?_
                refine HeldU.out ?_
                repeat (
                  refine hqU_step (fun K hK => ?_)
                  go_simp
                  first
                    | (refine hK _ ?_; clear hK K)
                    | (apply Exists.intro
                       refine ⟨fun _ => ?_, hK _ ?_⟩
                       (with_reducible first
                         | exact q17 _ _)
                       clear hK K))
                refine HeldU.mk (wpQuiet_nil ?_)
                intro _ hw'
                obtain ⟨⟨dq, osq⟩, hw''⟩ := hw'
                subst hw''
                have HO2 := Lib.hid (Ok.trans HOR.out (below_regrown wr dq osq))
                clear q17 k0 k1
                generalize Go.Sort.grow (redrawn wr dq) osq = wz at *
                go_wp2_with fail
                exact ⟨⟨k + 1, hlt, by go_num, HO2.out⟩, by simp [intOf]; omega⟩
              · have d4 : decide ((k : Int) < (n : Int)) = false := decide_eq_false (by omega)
                have HWR : Hid (Ok w wr) := Lib.hid (Ok.trans HOKR.out HBR.out)
                go_wp2_with fail
                (with_reducible refine (HAW.out _ HWR.out).mono ?_)
                rintro _ w17 ⟨rfl, k17⟩
                go_wp2_with fail
                go_ret
                exact ⟨rfl, Ok.trans HWR.out k17⟩
end Go.Proofs.YtpebnlddmjfomaaDoor
