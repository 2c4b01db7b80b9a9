/- Rows: the document's bytes of rows. -/
import Derived.Test.YtebhcadolnjplaaGreatTl
import Derived.Test.YtebhcadolnjplaaGreatTe
namespace Go.Proofs.YtebhcadolnjplaaGreat
open Go.RowKit

def BytesP (W : World) (zs : List B8) (e : Ending) (w' : World) : Prop := ∃ A m c, e = .returned (.slice A m c) ∧ m = zs.length ∧ OwnN w' W.heap.size (.slice A m c) zs ∧ Ok W w'
set_option maxRecDepth 100000 in
set_option maxHeartbeats 4000000 in
theorem rbytes_f (A : Option Addr) (n c : Nat) (l : List Rw) (hn : l.length = n) (hn6 : n ≤ 1300) (hs : Small l) (W : World) (hA : RowsIn W A l) :
    Calls Tryz.prog 22 #[.slice A n c] W (BytesP W (encsI [(n : Int)] ++ encR l)) := by
  have HA := Lib.hid hA
  have HN := Lib.hid hn
  have HS := Lib.hid hs
  have HN6 := Lib.hid hn6
  have HNB : Hid ([(n : Int)].any badN = false) := Lib.hid (by simp [badN_nat n (by omega)])
  clear hA hn hs hn6
  have hO := Lib.hid ((Ok.refl W).alloc (.cells #[.int .i64 (n : Int)] 3))
  obtain ⟨b0, hb0⟩ : ∃ b, W.heap.size = b := ⟨_, rfl⟩
  have HB0 : Hid ((W.alloc (.cells #[.int .i64 (n : Int)] 3)).heap[b0]? = some (.cells #[.int .i64 (n : Int)] 3 (0, 0))) := Lib.hid (blk_new hb0)
  have HBS := Lib.hid hb0
  go_enter Tryz.func22, Tryz.ntmps22
  go_wp2_with fail
  clear hb0
  generalize W.alloc (.cells #[.int .i64 (n : Int)] 3) = w0 at *
  have hwi := wi1_w w0 b0 (n : Int) HB0.out
  refine hwi.mono ?_
  clear hwi
  rintro _ w1 ⟨A1, c1, n1, ys, kk, rfl, hn1, hown1, o1, -, hys, -⟩
  obtain rfl := hys HNB.out
  have HOW1 : Hid (OwnN w1 W.heap.size (.slice A1 n1 c1) (encsI [(n : Int)] ++ encR (l.take 0))) := Lib.hid (by
    have := hown1.mono hO.out.size
    simpa [encR] using this)
  have HLE : Hid ((encsI [(n : Int)]).length ≤ 10) := Lib.hid (by simpa using encsI_len [(n : Int)])
  have HM1 : Hid (n1 = (encsI [(n : Int)] ++ encR (l.take 0)).length) := Lib.hid (by rw [hn1]; simp [encR])
  have HO1 : Hid (Ok W w1) := Lib.hid (hO.out.trans o1)
  clear hown1 o1 hys hn1 HB0 hO HNB
  generalize encsI [(n : Int)] = zs at *
  go_wp2_with fail
  go_loopw [3, 5, 6, 7] (fun v3 v5 _ _ wr => ∃ (k : Nat) (A2 : Option Addr) (m2 c2 : Nat), k ≤ n ∧ v5 = .int .i64 k ∧ v3 = .slice A2 m2 c2 ∧ m2 = (zs ++ encR (l.take k)).length ∧ OwnN wr W.heap.size (.slice A2 m2 c2) (zs ++ encR (l.take k)) ∧ Ok W wr) (fun _ v5 _ _ _ => n - (intOf v5).toNat)
  case atStart => exact ⟨0, A1, n1, c1, Nat.zero_le _, rfl, rfl, HM1.out, HOW1.out, HO1.out⟩
  case round =>
    obtain ⟨k, A2, m2, c2, hk, rfl, rfl, hm2, hown, okr⟩ := hrel
    have HOWN := Lib.hid hown
    have HOK := Lib.hid okr
    have HM2 := Lib.hid hm2
    clear hown okr hm2 HOW1 HO1 HM1
    by_cases hlt : k < n
    · have d1 : decide ((k : Int) < (n : Int)) = true := decide_eq_true (by omega)
      obtain ⟨b, off, rfl, x0, x1⟩ := HA.out.ok HOK.out k (by rw [HN.out]; exact hlt)
      have HE := Lib.hid (encR_take l k (by rw [HN.out]; exact hlt))
      have HSZ := Lib.hid (HS.out k (by rw [HN.out]; exact hlt))
      have HLN : Hid ((zs ++ encR (l.take k)).length ≤ 100000000 ∧ (encsT [(rwA l k).key, (rwA l k).val]).length ≤ 20020) := Lib.hid (by
        have h1 := encR_len l HS.out k (by rw [HN.out]; exact hk)
        have h2 := HLE.out
        have h3 := HN6.out
        refine ⟨?_, encT2_len _ _ HSZ.out.1 HSZ.out.2⟩
        rw [List.length_append]
        omega)
      generalize (rwA l k).key = km at *
      generalize (rwA l k).val = vm at *
      have hi0 : (0 : Int) ≤ (k : Int) := Int.natCast_nonneg _
      have hi1 : (k : Int) < (n : Int) := by omega
      have e1 : IntKind.i64.wrap ((k : Int) + 1) = (k : Int) + 1 := IntWalk.i64_in _ (by have := HN6.out; omega)
      have HLT : Hid (n - ((k : Int) + 1).toNat < n - (k : Int).toNat) := Lib.hid (by omega)
      go_upto_region 5 with fail
      rename_i K0 Q0 hK0
      have HK0 := Lib.hid hK0
      clear hK0
      refine Until.begin (S := fun V => V.cell? ⟨b, off + k * 2, none⟩ = some (.string km) ∧ V.cell? ⟨b, off + k * 2 + 1, none⟩ = some (.string vm)) (j := 10) (by kernel_rfl) ?_ ?_
      · exact ⟨(Ok.refl wr).drew.cell x0, (Ok.refl wr).drew.cell x1⟩
      intro hS
      have HD : Hid (Ok wr wr.drew) := Lib.hid ((Ok.refl wr).drew)
      generalize wr.drew = V0 at *
      clear x0 x1
      obtain ⟨z, hz⟩ : ∃ z, V0.heap.size = z := ⟨_, rfl⟩
      have HZB : Hid ((V0.alloc (.cells #[.string km, .string vm] 9)).heap[z]? = some (.cells #[.string km, .string vm] 9 (0, 0))) := Lib.hid (blk_new hz)
      have HZO : Hid (Ok V0 (V0.alloc (.cells #[.string km, .string vm] 9))) := Lib.hid ((Ok.refl V0).alloc _)
      refine Until.take0 (i := 0) (v := ?v0) rfl (by kernel_rfl) (by kernel_rfl) (by kernel_rfl) (by kernel_rfl) (fun _ _ _ h => h) (Or.inl ⟨by rfl, ?hy0⟩) (fun _ => hS) ?rest0
      case hy0 => ((intro w hSw); clear hSw; go_simp; (try with_reducible rfl))
      try go_frame
      refine Until.take0 (i := 1) (v := ?v1) rfl (by kernel_rfl) (by kernel_rfl) (by kernel_rfl) (by kernel_rfl) (fun _ _ _ h => h) (Or.inl ⟨by rfl, ?hy1⟩) (fun _ => hS) ?rest1
      case hy1 => ((intro w hSw); clear hSw; go_simp; (try with_reducible rfl))
      try go_frame
      refine Until.take0 (i := 2) (v := ?v2) rfl (by kernel_rfl) (by kernel_rfl) (by kernel_rfl) (by kernel_rfl) (fun _ _ _ h => h) (Or.inl ⟨by rfl, ?hy2⟩) (fun _ => hS) ?rest2
      case hy2 => ((intro w hSw); clear hSw; go_simp; (try with_reducible rfl))
      try go_frame
      refine Until.take0 (i := 3) (v := ?v3) rfl (by kernel_rfl) (by kernel_rfl) (by kernel_rfl) (by kernel_rfl) (fun _ _ _ h => h) (Or.inl ⟨by rfl, ?hy3⟩) (fun _ => hS) ?rest3
      case hy3 => ((intro w hSw); clear hSw; go_simp; (try with_reducible rfl))
      try go_frame
      refine Until.take (i := 4) (v := ?v4) rfl (by kernel_rfl) (by kernel_rfl) (by kernel_rfl) (by kernel_rfl) (fun _ _ _ h => h) (Or.inl ⟨by rfl, ?hy4⟩) hS ?rest4
      case hy4 => ((intro w hSw; (try dsimp only at hSw)); obtain ⟨s0, s1⟩ := hSw; go_simp; (try with_reducible rfl))
      try go_frame
      refine Until.take0 (i := 5) (v := ?v5) rfl (by kernel_rfl) (by kernel_rfl) (by kernel_rfl) (by kernel_rfl) (fun _ _ _ h => h) (Or.inl ⟨by rfl, ?hy5⟩) (fun _ => hS) ?rest5
      case hy5 => ((intro w hSw); clear hSw; go_simp; (try with_reducible rfl))
      try go_frame
      refine Until.take0 (i := 6) (v := ?v6) rfl (by kernel_rfl) (by kernel_rfl) (by kernel_rfl) (by kernel_rfl) (fun _ _ _ h => h) (Or.inl ⟨by rfl, ?hy6⟩) (fun _ => hS) ?rest6
      case hy6 => ((intro w hSw); clear hSw; go_simp; (try with_reducible rfl))
      try go_frame
      refine Until.take0 (i := 7) (v := ?v7) rfl (by kernel_rfl) (by kernel_rfl) (by kernel_rfl) (by kernel_rfl) (fun _ _ _ h => h) (Or.inl ⟨by rfl, ?hy7⟩) (fun _ => hS) ?rest7
      case hy7 => ((intro w hSw); clear hSw; go_simp; (try with_reducible rfl))
      try go_frame
      refine Until.take0 (i := 8) (v := ?v8) rfl (by kernel_rfl) (by kernel_rfl) (by kernel_rfl) (by kernel_rfl) (fun _ _ _ h => h) (Or.inl ⟨by rfl, ?hy8⟩) (fun _ => hS) ?rest8
      case hy8 => ((intro w hSw); clear hSw; go_simp; (try with_reducible rfl))
      try go_frame
      refine Until.take (i := 9) (v := ?v9) rfl (by kernel_rfl) (by kernel_rfl) (by kernel_rfl) (by kernel_rfl) (fun _ _ _ h => h) (Or.inl ⟨by rfl, ?hy9⟩) hS ?rest9
      case hy9 => ((intro w hSw; (try dsimp only at hSw)); obtain ⟨s0, s1⟩ := hSw; go_simp; (try with_reducible rfl))
      try go_frame
      refine Until.one (i := 10) (by kernel_rfl) rfl (fun K hK => ?_)
      have HK := Lib.hid hK
      clear hK
      go_simp
      refine HK.out.out _ _ (fun h => absurd (h.symm.trans (by kernel_rfl : _ = true)) Bool.false_ne_true) (fun _ => ?_)
      clear HK K
      try go_frame
      clear hz
      generalize V0.alloc (.cells #[.string km, .string vm] 9) = V1 at *
      refine Until.one (i := 11) (by kernel_rfl) rfl (fun K hK => ?_)
      have HK := Lib.hid hK
      clear hK
      go_simp
      refine (wt2_w V1 z km vm HZB.out (Nat.le_trans HSZ.out.1 (by decide)) (Nat.le_trans HSZ.out.2 (by decide))).mono ?_
      rintro _ V2 ⟨A2', c2', n2, rfl, hn2, hown2, hok2⟩
      have HN2 := Lib.hid hn2
      have HW2 := Lib.hid hown2
      have HK2 := Lib.hid hok2
      clear hn2 hown2 hok2
      refine HK.out.out _ _ (fun h => absurd (h.symm.trans (by kernel_rfl : _ = true)) Bool.false_ne_true) (fun _ => ?_)
      clear HK K
      try go_frame
      refine Until.one (i := 12) (by kernel_rfl) rfl (fun K hK => ?_)
      have HK := Lib.hid hK
      clear hK
      go_simp
      refine HK.out.out _ _ (fun h => absurd (h.symm.trans (by kernel_rfl : _ = true)) Bool.false_ne_true) (fun _ => ?_)
      clear HK K
      try go_frame
      refine Until.take0 (i := 13) (v := ?v13) rfl (by kernel_rfl) (by kernel_rfl) (by kernel_rfl) (by kernel_rfl) (fun _ _ _ h => h) (Or.inl ⟨by rfl, ?hy13⟩) (fun h => absurd (h.symm.trans (by kernel_rfl : _ = true)) Bool.false_ne_true) ?rest13
      case hy13 => ((intro w hSw); clear hSw; go_simp; (try with_reducible rfl))
      try go_frame
      refine Until.take0 (i := 14) (v := ?v14) rfl (by kernel_rfl) (by kernel_rfl) (by kernel_rfl) (by kernel_rfl) (fun _ _ _ h => h) (Or.inl ⟨by rfl, ?hy14⟩) (fun h => absurd (h.symm.trans (by kernel_rfl : _ = true)) Bool.false_ne_true) ?rest14
      case hy14 => ((intro w hSw); clear hSw; go_simp; (try with_reducible rfl))
      try go_frame
      refine Until.one (i := 15) (by kernel_rfl) rfl (fun K hK => ?_)
      have HK := Lib.hid hK
      clear hK
      go_simp
      refine HK.out.out _ _ (fun h => absurd (h.symm.trans (by kernel_rfl : _ = true)) Bool.false_ne_true) (fun _ => ?_)
      clear HK K
      try go_frame
      refine Until.one (i := 16) (by kernel_rfl) rfl (fun K hK => ?_)
      have HK := Lib.hid hK
      clear hK
      go_simp
      refine HK.out.out _ _ (fun h => absurd (h.symm.trans (by kernel_rfl : _ = true)) Bool.false_ne_true) (fun _ => ?_)
      clear HK K
      try go_frame
      refine Until.done (by kernel_rfl) ?_ _
      refine HK0.out _ _ ?_
      clear HK0
      have HOK2 : Hid (Ok wr V2) := Lib.hid (HD.out.trans (HZO.out.trans HK2.out))
      have HOW2 := Lib.hid (HOWN.out.ok HOK2.out)
      have HWB : Hid (Ok W V2) := Lib.hid (HOK.out.trans HOK2.out)
      have HYB : Hid (BytesIn V2 (.slice A2' n2 c2') (encsT [km, vm])) := Lib.hid (HW2.out.bytes (by have := HLN.out.2; omega))
      go_wp2_with (at_builtin; go_must (refine wpList_app2 rfl (.tmp 36) (.tmp 37) rfl W.heap.size (.slice A2 m2 c2) (zs ++ encR (l.take k)) (encsT [km, vm]) (.slice A2' n2 c2') rfl rfl HOW2.out HYB.out (by have := HLN.out; omega) HWB.out.size ?_; intro A3 c3 w3 hown3 hbel3 _; have HOW3 := Lib.hid hown3; have HB3 : Hid (Ok W w3) := Lib.hid (Below.trans HWB.out hbel3); clear hown3 hbel3))
      refine ⟨⟨k + 1, A3, _, c3, hlt, rfl, rfl, ?_, ?_, HB3.out⟩, HLT.out⟩
      · rw [HE.out, ← List.append_assoc]; simp only [List.length_append]
      · rw [HE.out, ← List.append_assoc]; have := HOW3.out; rw [List.length_append ] at this; exact this
    · have d1 : decide ((k : Int) < (n : Int)) = false := decide_eq_false (by omega)
      obtain rfl : k = n := by omega
      have HXS : Hid (l.take k = l) := Lib.hid (List.take_of_length_le (by rw [HN.out]; exact Nat.le_refl _))
      go_wp2_with fail
      go_ret
      exact ⟨A2, m2, c2, rfl, by have := HM2.out; rwa [HXS.out] at this, by have := HOWN.out; rwa [HXS.out] at this, HOK.out⟩
end Go.Proofs.YtebhcadolnjplaaGreat
