/- Frames turned. -/
import Derived.Test.YtpebnlddmjfomaaDoorGj
namespace Go.Proofs.YtpebnlddmjfomaaDoor
open Go.RowKit
theorem row_ok {w w' : World} {base e n : Nat} {v : Value} {cs : List Value} (h : w.ownsRow base e 2 v n cs) (k : Ok w w') : w'.ownsRow base e 2 v n cs :=
  own_stays h fun b hb => k.block b (World.ownsRow.lt h b hb).2
theorem take_snoc (l : List Fr) (k : Nat) (h : k < l.length) : l.take (k + 1) = l.take k ++ [atF l k] := by
  have e : atF l k = l[k] := by simp [atF, List.getD, h]
  rw [List.take_succ_eq_append_getElem h, e]
def TurnP (w : World) (l : List Fr) (e : Ending) (w' : World) : Prop := ∃ A c, e = .returned (.slice A l.length c) ∧ FramesAt w' A l ∧ Ok w w'
set_option maxRecDepth 100000 in
set_option maxHeartbeats 4000000 in
theorem turned_w (A : Option Addr) (n c : Nat) (l : List Fr) (hn : l.length = n) (hn6 : n ≤ 1000000) (w : World) (hI : FramesAt w A l) :
    Calls Tryd.prog 12 #[.slice A n c] w (TurnP w l) := by
  have HI := Lib.hid hI
  have HN := Lib.hid hn
  clear hI hn
  go_enter Tryd.func12, Tryd.ntmps12
  go_wp2_with fail
  go_loopw [3, 4] (fun v i wr => ∃ (k : Nat) (A' : Option Addr) (c' : Nat) (cs : List Value), k ≤ n ∧ i = .int .i64 k ∧ v = .slice A' k c' ∧ wr.ownsRow w.heap.size 45 2 (.slice A' k c') k cs ∧ CsAt w cs (l.take k) ∧ Ok w wr) (fun _ i _ => n - (intOf i).toNat)
  case atStart => exact ⟨0, none, 0, [], Nat.zero_le _, rfl, rfl, World.ownsRow_nil _ _ _ _, csat_nil w, Ok.refl _⟩
  case round =>
    obtain ⟨k, A1, c1, cs, hk, rfl, rfl, hrow, hcs, okr⟩ := hrel
    have HOKR := Lib.hid okr
    have HRW := Lib.hid hrow
    have HC0 := Lib.hid hcs
    clear okr hrow hcs
    by_cases hlt : k < n
    · have d1 : decide ((k : Int) < (n : Int)) = true := decide_eq_true (by omega)
      obtain ⟨b, off, rfl, C0, v, C1, hB⟩ := HI.out k (by rw [HN.out]; exact hlt)
      obtain ⟨A2, c2, rfl, -⟩ := hB.form
      have hi0 : (0 : Int) ≤ (k : Int) := Int.natCast_nonneg _
      have hi1 : (k : Int) < (n : Int) := by omega
      have HCS : Hid (CsAt w (cs ++ [.int .i64 (atF l k).kind, .slice A2 (atF l k).data.length c2]) (l.take (k + 1))) := Lib.hid (by rw [take_snoc l k (by rw [HN.out]; exact hlt)]; exact csat_snoc HC0.out rfl rfl hB)
      have HKB : Hid (k ≤ 1000000000) := Lib.hid (by omega)
      clear hB
      generalize (atF l k).data.length = m at *
      generalize (atF l k).kind = kd at *
      have x0 := HOKR.out.cell C0
      have x1 := HOKR.out.cell C1
      go_upto_region 5 with fail
      refine Until.begin (S := fun V => V.cell? ⟨b, off + k * 2, none⟩ = some (.int .i64 kd) ∧ V.cell? ⟨b, off + k * 2 + 1, none⟩ = some (.slice A2 m c2)) (j := 14) (by kernel_rfl) ?_ ?_
      · exact ⟨(Ok.refl wr).drew.cell x0, (Ok.refl wr).drew.cell x1⟩
      intro hS
      have HD : Hid (Ok wr wr.drew) := Lib.hid ((Ok.refl wr).drew)
      generalize wr.drew = V0 at *
      refine Until.take0 (i := 0) (v := ?v0) rfl (by kernel_rfl) (by kernel_rfl) (by kernel_rfl) (by kernel_rfl) (fun _ _ _ h => h) (Or.inl ⟨by rfl, ?hy0⟩) (fun _ => hS) ?rest0
      case hy0 => ((intro w hSw); clear hSw; go_simp; (try with_reducible rfl))
      try go_frame
      refine Until.take0 (i := 1) (v := ?v1) rfl (by kernel_rfl) (by kernel_rfl) (by kernel_rfl) (by kernel_rfl) (fun _ _ _ h => h) (Or.inl ⟨by rfl, ?hy1⟩) (fun _ => hS) ?rest1
      case hy1 => ((intro w hSw); clear hSw; go_simp; (try with_reducible rfl))
      try go_frame
      refine Until.take0 (i := 2) (v := ?v2) rfl (by kernel_rfl) (by kernel_rfl) (by kernel_rfl) (by kernel_rfl) (fun _ _ _ h => h) (Or.inl ⟨by rfl, ?hy2⟩) (fun _ => hS) ?rest2
      case hy2 => ((intro w hSw); clear hSw; go_simp; (try with_reducible rfl))
      try go_frame
      refine Until.take0 (i := 3) (v := ?v3) rfl (by kernel_rfl) (by kernel_rfl) (by kernel_rfl) (by kernel_rfl) (fun _ _ _ h => h) (Or.inl ⟨by rfl, ?hy3⟩) (fun _ => hS) ?rest3
      case hy3 => ((intro w hSw); clear hSw; go_simp; (try with_reducible rfl))
      try go_frame
      refine Until.take0 (i := 4) (v := ?v4) rfl (by kernel_rfl) (by kernel_rfl) (by kernel_rfl) (by kernel_rfl) (fun _ _ _ h => h) (Or.inl ⟨by rfl, ?hy4⟩) (fun _ => hS) ?rest4
      case hy4 => ((intro w hSw); clear hSw; go_simp; (try with_reducible rfl))
      try go_frame
      refine Until.take (i := 5) (v := ?v5) rfl (by kernel_rfl) (by kernel_rfl) (by kernel_rfl) (by kernel_rfl) (fun _ _ _ h => h) (Or.inl ⟨by rfl, ?hy5⟩) hS ?rest5
      case hy5 => ((intro w hSw; (try dsimp only at hSw)); obtain ⟨s0, s1⟩ := hSw; go_simp; (try with_reducible rfl))
      try go_frame
      refine Until.take0 (i := 6) (v := ?v6) rfl (by kernel_rfl) (by kernel_rfl) (by kernel_rfl) (by kernel_rfl) (fun _ _ _ h => h) (Or.inl ⟨by rfl, ?hy6⟩) (fun _ => hS) ?rest6
      case hy6 => ((intro w hSw); clear hSw; go_simp; (try with_reducible rfl))
      try go_frame
      refine Until.take0 (i := 7) (v := ?v7) rfl (by kernel_rfl) (by kernel_rfl) (by kernel_rfl) (by kernel_rfl) (fun _ _ _ h => h) (Or.inl ⟨by rfl, ?hy7⟩) (fun _ => hS) ?rest7
      case hy7 => ((intro w hSw); clear hSw; go_simp; (try with_reducible rfl))
      try go_frame
      refine Until.take0 (i := 8) (v := ?v8) rfl (by kernel_rfl) (by kernel_rfl) (by kernel_rfl) (by kernel_rfl) (fun _ _ _ h => h) (Or.inl ⟨by rfl, ?hy8⟩) (fun _ => hS) ?rest8
      case hy8 => ((intro w hSw); clear hSw; go_simp; (try with_reducible rfl))
      try go_frame
      refine Until.take0 (i := 9) (v := ?v9) rfl (by kernel_rfl) (by kernel_rfl) (by kernel_rfl) (by kernel_rfl) (fun _ _ _ h => h) (Or.inl ⟨by rfl, ?hy9⟩) (fun _ => hS) ?rest9
      case hy9 => ((intro w hSw); clear hSw; go_simp; (try with_reducible rfl))
      try go_frame
      refine Until.take (i := 10) (v := ?v10) rfl (by kernel_rfl) (by kernel_rfl) (by kernel_rfl) (by kernel_rfl) (fun _ _ _ h => h) (Or.inl ⟨by rfl, ?hy10⟩) hS ?rest10
      case hy10 => ((intro w hSw; (try dsimp only at hSw)); obtain ⟨s0, s1⟩ := hSw; go_simp; (try with_reducible rfl))
      try go_frame
      refine Until.take0 (i := 11) (v := ?v11) rfl (by kernel_rfl) (by kernel_rfl) (by kernel_rfl) (by kernel_rfl) (fun _ _ _ h => h) (Or.inl ⟨by rfl, ?hy11⟩) (fun _ => hS) ?rest11
      case hy11 => ((intro w hSw); clear hSw; go_simp; (try with_reducible rfl))
      try go_frame
      refine Until.one (i := 12) (by kernel_rfl) rfl (fun K hK => ?_)
      have HK := Lib.hid hK
      clear hK
      go_simp
      have HCN : Hid ((V0.alloc (.cells #[.int .i64 kd, .slice A2 m c2] 45)).heap[V0.heap.size]? = some (.cells #[.int .i64 kd, .slice A2 m c2] 45 (0, 0))) := Lib.hid (heap_alloc_new V0 _)
      have HK1 : Hid (Ok V0 (V0.alloc (.cells #[.int .i64 kd, .slice A2 m c2] 45))) := Lib.hid ((Ok.refl V0).alloc _)
      generalize V0.alloc (.cells #[.int .i64 kd, .slice A2 m c2] 45) = V1 at *
      have hS1 := (⟨HK1.out.cell hS.1, HK1.out.cell hS.2⟩ : _ ∧ _)
      refine HK.out.out _ _ (fun _ => hS1) (fun _ => ?_)
      clear hS
      have hS := hS1
      clear HK K
      try go_frame
      refine Until.one (i := 13) (by kernel_rfl) rfl (fun K hK => ?_)
      have HK := Lib.hid hK
      clear hK
      refine step_app2 (by rfl) _ _ 34 45 Tryd.underlying34 info45 (by rfl) w.heap.size A1 k c1 cs (by rfl) (row_ok HRW.out (Ok.trans HD.out HK1.out)) V0.heap.size kd (.slice A2 m c2) rfl (by rfl) HCN.out HKB.out (Ok.trans HOKR.out (Ok.trans HD.out HK1.out)).size ?_
      intro A4 c4 V2 ho4 hb4 hg4
      have HO4 := Lib.hid ho4
      have HOK4 : Hid (Ok w V2) := Lib.hid (Below.trans (Ok.trans HOKR.out (Ok.trans HD.out HK1.out)) hb4)
      have hS2 := (⟨HOK4.out.cell C0, HOK4.out.cell C1⟩ : _ ∧ _)
      clear ho4 hb4 hg4
      refine HK.out.out _ _ (fun _ => hS2) (fun _ => ?_)
      clear hS
      have hS := hS2
      clear HK K
      try go_frame
      refine Until.one (i := 14) (by kernel_rfl) rfl (fun K hK => ?_)
      have HK := Lib.hid hK
      clear hK
      go_simp
      refine HK.out.out _ _ (fun h => absurd (h.symm.trans (by kernel_rfl : _ = true)) Bool.false_ne_true) (fun _ => ?_)
      clear HK K
      try go_frame
      refine Until.done (by kernel_rfl) ?_ _
      go_wp2_with fail
      exact ⟨⟨k + 1, A4, c4, _, hlt, by go_num, rfl, HO4.out, HCS.out, HOK4.out⟩, by simp [intOf]; omega⟩
    · have d1 : decide ((k : Int) < (n : Int)) = false := decide_eq_false (by omega)
      have htk : l.take k = l := List.take_of_length_le (by rw [HN.out]; omega)
      obtain rfl : n = k := by omega
      have HF : Hid (FramesAt wr A1 l) := Lib.hid (csat_frames HN.out HRW.out ((htk ▸ HC0.out).ok HOKR.out))
      clear htk HC0
      go_wp2_with fail
      go_ret
      exact ⟨A1, c1, by rw [HN.out]; rfl, HF.out, HOKR.out⟩
end Go.Proofs.YtpebnlddmjfomaaDoor
