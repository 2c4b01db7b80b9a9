/- A base's copy. -/
import Derived.Test.YtolfdncmlfnbdaaGu
import Derived.Deep.DeepCutAuto
import Derived.Handy
import Derived.Maps.RangeWalk
import Derived.Test.YtolfdncmlfnbdaaJa
namespace Go.Proofs.Ytolfdncmlfnbdaa
open Go.RowKit

/-- A base: its index, its term, this configuration; what was there is as it was. -/
def BaseP (W : World) (i t : Int) (c : Cfg) (e : Ending) (w' : World) : Prop :=
  ∃ s : S4, e = .returned (.agg #[.int .i64 i, .int .i64 t, .slice s.A0 s.n0 s.c0, .slice s.A1 s.n1 s.c1, .slice s.A2 s.n2 s.c2, .slice s.A3 s.n3 s.c3]) ∧ CfgOwn w' W.heap.size s c ∧ Ok W w'

set_option maxRecDepth 100000 in
set_option maxHeartbeats 4000000 in
theorem copyBase_f (i t : Int) (s : S4) (c : Cfg) (W : World) (h : CfgAt W s c) (l0 : c.vs.length ≤ 100000) (l1 : c.os.length ≤ 100000) (l2 : c.ls.length ≤ 100000) (l3 : c.ws.length ≤ 100000) :
    Calls Try.prog 124 #[.agg #[.int .i64 i, .int .i64 t, .slice s.A0 s.n0 s.c0, .slice s.A1 s.n1 s.c1, .slice s.A2 s.n2 s.c2, .slice s.A3 s.n3 s.c3]] W (BaseP W i t c) := by
  have HC := Lib.hid h
  clear h
  have HA : Hid (Six W.heap.size (.int .i64 i) (.int .i64 t) (.slice s.A0 s.n0 s.c0) (.slice s.A1 s.n1 s.c1) (.slice s.A2 s.n2 s.c2) (.slice s.A3 s.n3 s.c3) ((W.alloc (.cells #[.int .i64 i, .int .i64 t, .slice s.A0 s.n0 s.c0, .slice s.A1 s.n1 s.c1, .slice s.A2 s.n2 s.c2, .slice s.A3 s.n3 s.c3] 93)).alloc (.cells #[.int .i64 0, .int .i64 0, .slice none 0 0, .slice none 0 0, .slice none 0 0, .slice none 0 0] 93))) := Lib.hid ((Six.new _ _ _ _ _ _ _ _).ok ((Ok.refl _).alloc _))
  have HB : Hid (Six (W.heap.size + 1) (.int .i64 0) (.int .i64 0) (.slice none 0 0) (.slice none 0 0) (.slice none 0 0) (.slice none 0 0) ((W.alloc (.cells #[.int .i64 i, .int .i64 t, .slice s.A0 s.n0 s.c0, .slice s.A1 s.n1 s.c1, .slice s.A2 s.n2 s.c2, .slice s.A3 s.n3 s.c3] 93)).alloc (.cells #[.int .i64 0, .int .i64 0, .slice none 0 0, .slice none 0 0, .slice none 0 0, .slice none 0 0] 93))) := Lib.hid (by have := Six.new (W.alloc (.cells #[.int .i64 i, .int .i64 t, .slice s.A0 s.n0 s.c0, .slice s.A1 s.n1 s.c1, .slice s.A2 s.n2 s.c2, .slice s.A3 s.n3 s.c3] 93)) (.int .i64 0) (.int .i64 0) (.slice none 0 0) (.slice none 0 0) (.slice none 0 0) (.slice none 0 0) 93; rwa [World.size_alloc] at this)
  have HO : Hid (Ok W ((W.alloc (.cells #[.int .i64 i, .int .i64 t, .slice s.A0 s.n0 s.c0, .slice s.A1 s.n1 s.c1, .slice s.A2 s.n2 s.c2, .slice s.A3 s.n3 s.c3] 93)).alloc (.cells #[.int .i64 0, .int .i64 0, .slice none 0 0, .slice none 0 0, .slice none 0 0, .slice none 0 0] 93))) := Lib.hid (((Ok.refl W).alloc _).alloc _)
  have HZ : Hid (W.heap.size + 2 ≤ ((W.alloc (.cells #[.int .i64 i, .int .i64 t, .slice s.A0 s.n0 s.c0, .slice s.A1 s.n1 s.c1, .slice s.A2 s.n2 s.c2, .slice s.A3 s.n3 s.c3] 93)).alloc (.cells #[.int .i64 0, .int .i64 0, .slice none 0 0, .slice none 0 0, .slice none 0 0, .slice none 0 0] 93)).heap.size) := Lib.hid (by rw [World.size_alloc, World.size_alloc]; omega)
  go_enter Try.func124, Try.ntmps124
  go_upto_region 2 with fail
  rename_i K0 hK0
  have HK0 := Lib.hid hK0
  clear hK0
  generalize ((W.alloc (.cells #[.int .i64 i, .int .i64 t, .slice s.A0 s.n0 s.c0, .slice s.A1 s.n1 s.c1, .slice s.A2 s.n2 s.c2, .slice s.A3 s.n3 s.c3] 93)).alloc (.cells #[.int .i64 0, .int .i64 0, .slice none 0 0, .slice none 0 0, .slice none 0 0, .slice none 0 0] 93)) = W1 at *
  obtain ⟨g, hg⟩ : ∃ g, W.heap.size = g := ⟨_, rfl⟩
  have HG := Lib.hid hg
  rw [hg] at HA HB HZ ⊢
  clear hg
  refine Until.begin (S := fun w => w.cell? ⟨g, 2, none⟩ = some (.slice s.A0 s.n0 s.c0) ∧ w.cell? ⟨g, 3, none⟩ = some (.slice s.A1 s.n1 s.c1) ∧ w.cell? ⟨g, 4, none⟩ = some (.slice s.A2 s.n2 s.c2) ∧ w.cell? ⟨g, 5, none⟩ = some (.slice s.A3 s.n3 s.c3)) (j := 26) (by kernel_rfl) ?_ ?_
  · have k := HA.out.ok ((Ok.refl W1).drew)
    exact ⟨k.c2, k.c3, k.c4, k.c5⟩
  intro hS
  have HW0 : Hid (Ok W1 W1.drew) := Lib.hid ((Ok.refl W1).drew)
  generalize W1.drew = w0 at *
  refine Until.take0 (i := 0) (v := ?v0) rfl (by kernel_rfl) (by kernel_rfl) (by kernel_rfl) (by kernel_rfl) (fun _ _ _ h => h) (Or.inl ⟨by rfl, ?hy0⟩) (fun _ => hS) ?rest0
  case hy0 => ((intro w hSw); clear hSw; go_simp; (try with_reducible rfl))
  try go_frame
  refine Until.take0 (i := 1) (v := ?v1) rfl (by kernel_rfl) (by kernel_rfl) (by kernel_rfl) (by kernel_rfl) (fun _ _ _ h => h) (Or.inl ⟨by rfl, ?hy1⟩) (fun _ => hS) ?rest1
  case hy1 => ((intro w hSw); clear hSw; go_simp; (try with_reducible rfl))
  try go_frame
  refine Until.take0 (i := 2) (v := ?v2) rfl (by kernel_rfl) (by kernel_rfl) (by kernel_rfl) (by kernel_rfl) (fun _ _ _ h => h) (Or.inl ⟨by rfl, ?hy2⟩) (fun _ => hS) ?rest2
  case hy2 => ((intro w hSw); clear hSw; go_simp; (try with_reducible rfl))
  try go_frame
  refine Until.take0 (i := 3) (v := ?v3) rfl (by kernel_rfl) (by kernel_rfl) (by kernel_rfl) (by kernel_rfl) (fun _ _ _ h => h) (Or.inl ⟨by rfl, ?hy3⟩) (fun _ => hS) ?rest3
  case hy3 => ((intro w hSw); clear hSw; go_simp; (try with_reducible rfl))
  try go_frame
  refine Until.take0 (i := 4) (v := ?v4) rfl (by kernel_rfl) (by kernel_rfl) (by kernel_rfl) (by kernel_rfl) (fun _ _ _ h => h) (Or.inl ⟨by rfl, ?hy4⟩) (fun _ => hS) ?rest4
  case hy4 => ((intro w hSw); clear hSw; go_simp; (try with_reducible rfl))
  try go_frame
  refine Until.take0 (i := 5) (v := ?v5) rfl (by kernel_rfl) (by kernel_rfl) (by kernel_rfl) (by kernel_rfl) (fun _ _ _ h => h) (Or.inl ⟨by rfl, ?hy5⟩) (fun _ => hS) ?rest5
  case hy5 => ((intro w hSw); clear hSw; go_simp; (try with_reducible rfl))
  try go_frame
  refine Until.take0 (i := 6) (v := ?v6) rfl (by kernel_rfl) (by kernel_rfl) (by kernel_rfl) (by kernel_rfl) (fun _ _ _ h => h) (Or.inl ⟨by rfl, ?hy6⟩) (fun _ => hS) ?rest6
  case hy6 => ((intro w hSw); clear hSw; go_simp; (try with_reducible rfl))
  try go_frame
  refine Until.take (i := 7) (v := ?v7) rfl (by kernel_rfl) (by kernel_rfl) (by kernel_rfl) (by kernel_rfl) (fun _ _ _ h => h) (Or.inl ⟨by rfl, ?hy7⟩) hS ?rest7
  case hy7 => ((intro w hSw; (try dsimp only at hSw)); go_simp; (try with_reducible rfl))
  try go_frame
  refine Until.take0 (i := 9) (v := ?v9) rfl (by kernel_rfl) (by kernel_rfl) (by kernel_rfl) (by kernel_rfl) (fun _ _ _ h => h) (Or.inl ⟨by rfl, ?hy9⟩) (fun _ => hS) ?rest9
  case hy9 => ((intro w hSw); clear hSw; go_simp; (try with_reducible rfl))
  try go_frame
  refine Until.take0 (i := 10) (v := ?v10) rfl (by kernel_rfl) (by kernel_rfl) (by kernel_rfl) (by kernel_rfl) (fun _ _ _ h => h) (Or.inl ⟨by rfl, ?hy10⟩) (fun _ => hS) ?rest10
  case hy10 => ((intro w hSw); clear hSw; go_simp; (try with_reducible rfl))
  try go_frame
  refine Until.take0 (i := 11) (v := ?v11) rfl (by kernel_rfl) (by kernel_rfl) (by kernel_rfl) (by kernel_rfl) (fun _ _ _ h => h) (Or.inl ⟨by rfl, ?hy11⟩) (fun _ => hS) ?rest11
  case hy11 => ((intro w hSw); clear hSw; go_simp; (try with_reducible rfl))
  try go_frame
  refine Until.take (i := 12) (v := ?v12) rfl (by kernel_rfl) (by kernel_rfl) (by kernel_rfl) (by kernel_rfl) (fun _ _ _ h => h) (Or.inl ⟨by rfl, ?hy12⟩) hS ?rest12
  case hy12 => ((intro w hSw; (try dsimp only at hSw)); go_simp; (try with_reducible rfl))
  try go_frame
  refine Until.take0 (i := 14) (v := ?v14) rfl (by kernel_rfl) (by kernel_rfl) (by kernel_rfl) (by kernel_rfl) (fun _ _ _ h => h) (Or.inl ⟨by rfl, ?hy14⟩) (fun _ => hS) ?rest14
  case hy14 => ((intro w hSw); clear hSw; go_simp; (try with_reducible rfl))
  try go_frame
  refine Until.take0 (i := 15) (v := ?v15) rfl (by kernel_rfl) (by kernel_rfl) (by kernel_rfl) (by kernel_rfl) (fun _ _ _ h => h) (Or.inl ⟨by rfl, ?hy15⟩) (fun _ => hS) ?rest15
  case hy15 => ((intro w hSw); clear hSw; go_simp; (try with_reducible rfl))
  try go_frame
  refine Until.take0 (i := 16) (v := ?v16) rfl (by kernel_rfl) (by kernel_rfl) (by kernel_rfl) (by kernel_rfl) (fun _ _ _ h => h) (Or.inl ⟨by rfl, ?hy16⟩) (fun _ => hS) ?rest16
  case hy16 => ((intro w hSw); clear hSw; go_simp; (try with_reducible rfl))
  try go_frame
  refine Until.take (i := 17) (v := ?v17) rfl (by kernel_rfl) (by kernel_rfl) (by kernel_rfl) (by kernel_rfl) (fun _ _ _ h => h) (Or.inl ⟨by rfl, ?hy17⟩) hS ?rest17
  case hy17 => ((intro w hSw; (try dsimp only at hSw)); go_simp; (try with_reducible rfl))
  try go_frame
  refine Until.take0 (i := 19) (v := ?v19) rfl (by kernel_rfl) (by kernel_rfl) (by kernel_rfl) (by kernel_rfl) (fun _ _ _ h => h) (Or.inl ⟨by rfl, ?hy19⟩) (fun _ => hS) ?rest19
  case hy19 => ((intro w hSw); clear hSw; go_simp; (try with_reducible rfl))
  try go_frame
  refine Until.take0 (i := 20) (v := ?v20) rfl (by kernel_rfl) (by kernel_rfl) (by kernel_rfl) (by kernel_rfl) (fun _ _ _ h => h) (Or.inl ⟨by rfl, ?hy20⟩) (fun _ => hS) ?rest20
  case hy20 => ((intro w hSw); clear hSw; go_simp; (try with_reducible rfl))
  try go_frame
  refine Until.take0 (i := 21) (v := ?v21) rfl (by kernel_rfl) (by kernel_rfl) (by kernel_rfl) (by kernel_rfl) (fun _ _ _ h => h) (Or.inl ⟨by rfl, ?hy21⟩) (fun _ => hS) ?rest21
  case hy21 => ((intro w hSw); clear hSw; go_simp; (try with_reducible rfl))
  try go_frame
  refine Until.take (i := 22) (v := ?v22) rfl (by kernel_rfl) (by kernel_rfl) (by kernel_rfl) (by kernel_rfl) (fun _ _ _ h => h) (Or.inl ⟨by rfl, ?hy22⟩) hS ?rest22
  case hy22 => ((intro w hSw; (try dsimp only at hSw)); go_simp; (try with_reducible rfl))
  try go_frame
  refine Until.one (i := 8) (by kernel_rfl) rfl (fun K hK => ?_)
  have HK := Lib.hid hK
  clear hK
  go_simp
  refine (cloneI_f _ c.vs _ ((HO.out.trans HW0.out).ints HC.out.h0) l0).mono ?_
  rintro _ w1 ⟨⟨B0, d0, rfl, hz⟩, ok⟩
  have HZ0 := Lib.hid hz
  have HW1 : Hid (Ok W1 w1) := Lib.hid (HW0.out.trans ok)
  have HD1 : Hid (Ok w0 w1) := Lib.hid ok
  have HS1 : Hid (_ ∧ _ ∧ _ ∧ _) := Lib.hid ⟨ok.cell hS.1, ok.cell hS.2.1, ok.cell hS.2.2.1, ok.cell hS.2.2.2⟩
  clear hz ok hS
  refine HK.out.out _ _ (fun _ => HS1.out) (fun _ => ?_)
  have hS := HS1.out
  clear HS1 HK K
  try go_frame
  refine Until.one (i := 13) (by kernel_rfl) rfl (fun K hK => ?_)
  have HK := Lib.hid hK
  clear hK
  go_simp
  refine (cloneI_f _ c.os _ ((HO.out.trans HW1.out).ints HC.out.h1) l1).mono ?_
  rintro _ w2 ⟨⟨B1, d1, rfl, hz⟩, ok⟩
  have HZ1 := Lib.hid hz
  have HW2 : Hid (Ok W1 w2) := Lib.hid (HW1.out.trans ok)
  have HD2 : Hid (Ok w1 w2) := Lib.hid ok
  have HS2 : Hid (_ ∧ _ ∧ _ ∧ _) := Lib.hid ⟨ok.cell hS.1, ok.cell hS.2.1, ok.cell hS.2.2.1, ok.cell hS.2.2.2⟩
  clear hz ok hS
  refine HK.out.out _ _ (fun _ => HS2.out) (fun _ => ?_)
  have hS := HS2.out
  clear HS2 HK K
  try go_frame
  refine Until.one (i := 18) (by kernel_rfl) rfl (fun K hK => ?_)
  have HK := Lib.hid hK
  clear hK
  go_simp
  refine (cloneI_f _ c.ls _ ((HO.out.trans HW2.out).ints HC.out.h2) l2).mono ?_
  rintro _ w3 ⟨⟨B2, d2, rfl, hz⟩, ok⟩
  have HZ2 := Lib.hid hz
  have HW3 : Hid (Ok W1 w3) := Lib.hid (HW2.out.trans ok)
  have HD3 : Hid (Ok w2 w3) := Lib.hid ok
  have HS3 : Hid (_ ∧ _ ∧ _ ∧ _) := Lib.hid ⟨ok.cell hS.1, ok.cell hS.2.1, ok.cell hS.2.2.1, ok.cell hS.2.2.2⟩
  clear hz ok hS
  refine HK.out.out _ _ (fun _ => HS3.out) (fun _ => ?_)
  have hS := HS3.out
  clear HS3 HK K
  try go_frame
  refine Until.one (i := 23) (by kernel_rfl) rfl (fun K hK => ?_)
  have HK := Lib.hid hK
  clear hK
  go_simp
  refine (cloneI_f _ c.ws _ ((HO.out.trans HW3.out).ints HC.out.h3) l3).mono ?_
  rintro _ w4 ⟨⟨B3, d3, rfl, hz⟩, ok⟩
  have HZ3 := Lib.hid hz
  have HW4 : Hid (Ok W1 w4) := Lib.hid (HW3.out.trans ok)
  have HD4 : Hid (Ok w3 w4) := Lib.hid ok
  have HS4 : Hid (_ ∧ _ ∧ _ ∧ _) := Lib.hid ⟨ok.cell hS.1, ok.cell hS.2.1, ok.cell hS.2.2.1, ok.cell hS.2.2.2⟩
  clear hz ok hS
  refine HK.out.out _ _ (fun _ => HS4.out) (fun _ => ?_)
  have hS := HS4.out
  clear HS4 HK K
  try go_frame
  have HA4 := Lib.hid (HA.out.ok HW4.out)
  have HB4 := Lib.hid (HB.out.ok HW4.out)
  have HS4 := Lib.hid hS
  clear hS HA HB
  have hc2 := HA4.out.c2
  have hc3 := HA4.out.c3
  have hc4 := HA4.out.c4
  have hc5 := HA4.out.c5
  have hf2 := HA4.out.f 2
  have hf3 := HA4.out.f 3
  have hf4 := HA4.out.f 4
  have hf5 := HA4.out.f 5
  refine Until.take0 (i := 24) (v := ?v24) rfl (by kernel_rfl) (by kernel_rfl) (by kernel_rfl) (by kernel_rfl) (fun _ _ _ h => h) (Or.inl ⟨by rfl, ?hy24⟩) (fun _ => HS4.out) ?rest24
  case hy24 => ((intro w hSw); clear hSw; go_simp; (try with_reducible rfl))
  try go_frame
  refine Until.take0 (i := 25) (v := ?v25) rfl (by kernel_rfl) (by kernel_rfl) (by kernel_rfl) (by kernel_rfl) (fun _ _ _ h => h) (Or.inl ⟨by rfl, ?hy25⟩) (fun _ => HS4.out) ?rest25
  case hy25 => ((intro w hSw); clear hSw; go_simp; (try with_reducible rfl))
  try go_frame
  refine Until.one (i := 26) (by kernel_rfl) rfl (fun K hK => ?_)
  have HK := Lib.hid hK
  clear hK
  go_simp
  refine HK.out.out _ _ (fun h => absurd (h.symm.trans (by kernel_rfl : _ = true)) Bool.false_ne_true) (fun _ => ?_)
  clear HK K
  try go_frame
  refine Until.take0 (i := 27) (v := ?v27) rfl (by kernel_rfl) (by kernel_rfl) (by kernel_rfl) (by kernel_rfl) (fun _ _ _ h => h) (Or.inl ⟨by rfl, ?hy27⟩) (fun h => absurd (h.symm.trans (by kernel_rfl : _ = true)) Bool.false_ne_true) ?rest27
  case hy27 => ((intro w hSw); clear hSw; go_simp; (try with_reducible rfl))
  try go_frame
  refine Until.take0 (i := 28) (v := ?v28) rfl (by kernel_rfl) (by kernel_rfl) (by kernel_rfl) (by kernel_rfl) (fun _ _ _ h => h) (Or.inl ⟨by rfl, ?hy28⟩) (fun h => absurd (h.symm.trans (by kernel_rfl : _ = true)) Bool.false_ne_true) ?rest28
  case hy28 => ((intro w hSw); clear hSw; go_simp; (try with_reducible rfl))
  try go_frame
  refine Until.one (i := 29) (by kernel_rfl) rfl (fun K hK => ?_)
  have HK := Lib.hid hK
  clear hK
  go_simp
  refine HK.out.out _ _ (fun h => absurd (h.symm.trans (by kernel_rfl : _ = true)) Bool.false_ne_true) (fun _ => ?_)
  clear HK K
  try go_frame
  refine Until.take0 (i := 30) (v := ?v30) rfl (by kernel_rfl) (by kernel_rfl) (by kernel_rfl) (by kernel_rfl) (fun _ _ _ h => h) (Or.inl ⟨by rfl, ?hy30⟩) (fun h => absurd (h.symm.trans (by kernel_rfl : _ = true)) Bool.false_ne_true) ?rest30
  case hy30 => ((intro w hSw); clear hSw; go_simp; (try with_reducible rfl))
  try go_frame
  refine Until.take0 (i := 31) (v := ?v31) rfl (by kernel_rfl) (by kernel_rfl) (by kernel_rfl) (by kernel_rfl) (fun _ _ _ h => h) (Or.inl ⟨by rfl, ?hy31⟩) (fun h => absurd (h.symm.trans (by kernel_rfl : _ = true)) Bool.false_ne_true) ?rest31
  case hy31 => ((intro w hSw); clear hSw; go_simp; (try with_reducible rfl))
  try go_frame
  refine Until.one (i := 32) (by kernel_rfl) rfl (fun K hK => ?_)
  have HK := Lib.hid hK
  clear hK
  go_simp
  refine HK.out.out _ _ (fun h => absurd (h.symm.trans (by kernel_rfl : _ = true)) Bool.false_ne_true) (fun _ => ?_)
  clear HK K
  try go_frame
  refine Until.take0 (i := 33) (v := ?v33) rfl (by kernel_rfl) (by kernel_rfl) (by kernel_rfl) (by kernel_rfl) (fun _ _ _ h => h) (Or.inl ⟨by rfl, ?hy33⟩) (fun h => absurd (h.symm.trans (by kernel_rfl : _ = true)) Bool.false_ne_true) ?rest33
  case hy33 => ((intro w hSw); clear hSw; go_simp; (try with_reducible rfl))
  try go_frame
  refine Until.take0 (i := 34) (v := ?v34) rfl (by kernel_rfl) (by kernel_rfl) (by kernel_rfl) (by kernel_rfl) (fun _ _ _ h => h) (Or.inl ⟨by rfl, ?hy34⟩) (fun h => absurd (h.symm.trans (by kernel_rfl : _ = true)) Bool.false_ne_true) ?rest34
  case hy34 => ((intro w hSw); clear hSw; go_simp; (try with_reducible rfl))
  try go_frame
  refine Until.one (i := 35) (by kernel_rfl) rfl (fun K hK => ?_)
  have HK := Lib.hid hK
  clear hK
  go_simp
  refine HK.out.out _ _ (fun h => absurd (h.symm.trans (by kernel_rfl : _ = true)) Bool.false_ne_true) (fun _ => ?_)
  clear HK K
  try go_frame
  refine Until.done (by kernel_rfl) ?_ _
  refine HK0.out _ _ ?_
  clear HK0
  have hc0 := HA4.out.c0
  have hc1 := HA4.out.c1
  have hb0 := HB4.out.c0
  have hb1 := HB4.out.c1
  have hb2 := HB4.out.c2
  have hb3 := HB4.out.c3
  have hb4 := HB4.out.c4
  have hb5 := HB4.out.c5
  have hh0 := HB4.out.f 0
  have hh1 := HB4.out.f 1
  have hh2 := HB4.out.f 2
  have hh3 := HB4.out.f 3
  have hh4 := HB4.out.f 4
  have hh5 := HB4.out.f 5
  go_wp2_with fail
  refine bodyPost_ret (v := .agg #[.int .i64 i, .int .i64 t, .slice B0 c.vs.length d0, .slice B1 c.os.length d1, .slice B2 c.ls.length d2, .slice B3 c.ws.length d3]) (by simp [results, Try.results124, go_sem, hb0, hb1, hb2, hb3, hb4, hb5]; try rfl) rfl ?_
  clear hc0 hc1 hc2 hc3 hc4 hc5 hf2 hf3 hf4 hf5 hb0 hb1 hb2 hb3 hb4 hb5 hh0 hh1 hh2 hh3 hh4 hh5
  have z0 : g + 2 ≤ w0.heap.size := Nat.le_trans HZ.out HW0.out.size
  have z1 := Nat.le_trans z0 HD1.out.size
  have z2 := Nat.le_trans z1 HD2.out.size
  have z3 := Nat.le_trans z2 HD3.out.size
  refine ⟨⟨B0, c.vs.length, d0, B1, c.os.length, d1, B2, c.ls.length, d2, B3, c.ws.length, d3⟩, rfl, ⟨?_, ?_, ?_, ?_⟩, ?_⟩
  · exact OwnZ.lower (b := w0.heap.size) (by (repeat (refine OwnZ.set ?_ _ _ _ (by omega))); exact HZ0.out.ok ((HD2.out.trans HD3.out).trans HD4.out)) (by have := HG.out; omega)
  · exact OwnZ.lower (b := w1.heap.size) (by (repeat (refine OwnZ.set ?_ _ _ _ (by omega))); exact HZ1.out.ok (HD3.out.trans HD4.out)) (by have := HG.out; omega)
  · exact OwnZ.lower (b := w2.heap.size) (by (repeat (refine OwnZ.set ?_ _ _ _ (by omega))); exact HZ2.out.ok HD4.out) (by have := HG.out; omega)
  · exact OwnZ.lower (b := w3.heap.size) (by (repeat (refine OwnZ.set ?_ _ _ _ (by omega))); exact HZ3.out) (by have := HG.out; omega)
  · have hg1 : W.heap.size ≤ g := Nat.le_of_eq HG.out
    have hg2 : W.heap.size ≤ g + 1 := by omega
    show Below W.heap.size W _
    refine Below.setCell ?_ hg2 _
    refine Below.setCell ?_ hg2 _
    refine Below.setCell ?_ hg2 _
    refine Below.setCell ?_ hg2 _
    refine Below.setCell ?_ hg2 _
    refine Below.setCell ?_ hg2 _
    refine Below.setCell ?_ hg1 _
    refine Below.setCell ?_ hg1 _
    refine Below.setCell ?_ hg1 _
    refine Below.setCell ?_ hg1 _
    exact HO.out.trans HW4.out
end Go.Proofs.Ytolfdncmlfnbdaa
