/- A configuration's copy. -/
import Derived.Test.YtebhcadolnjplaaGa
namespace Go.Proofs.Ytebhcadolnjplaa
open Go.RowKit

structure Fo (g : Nat) (v0 v1 v2 v3 : Value) (w : World) : Prop where
  c0 : w.cell? ⟨g, 0, none⟩ = some v0
  c1 : w.cell? ⟨g, 1, none⟩ = some v1
  c2 : w.cell? ⟨g, 2, none⟩ = some v2
  c3 : w.cell? ⟨g, 3, none⟩ = some v3
  f : ∀ k, w.frozen? ⟨g, k, none⟩ = false
theorem Fo.ok {g : Nat} {v0 v1 v2 v3 : Value} {w w' : World} (h : Fo g v0 v1 v2 v3 w) (k : Ok w w') : Fo g v0 v1 v2 v3 w' :=
  have hg : g < w.heap.size := World.block_lt_of_cell? _ _ h.c0
  ⟨k.cell h.c0, k.cell h.c1, k.cell h.c2, k.cell h.c3, fun j => by rw [Below.frozen k (p := ⟨g, j, none⟩) hg]; exact h.f j⟩
theorem Fo.new (w : World) (v0 v1 v2 v3 : Value) (t : TypeId) : Fo w.heap.size v0 v1 v2 v3 (w.alloc (.cells #[v0, v1, v2, v3] t)) :=
  ⟨box_cell _ _ _ _ _ rfl, box_cell _ _ _ _ _ rfl, box_cell _ _ _ _ _ rfl, box_cell _ _ _ _ _ rfl, fun j => by rw [World.frozen?, heap_alloc_new]; simp⟩
def CfgP (W : World) (c : Cfg) (e : Ending) (w' : World) : Prop :=
  ∃ s : S4, e = .returned (.agg #[.slice s.A0 s.n0 s.c0, .slice s.A1 s.n1 s.c1, .slice s.A2 s.n2 s.c2, .slice s.A3 s.n3 s.c3]) ∧ CfgOwn w' W.heap.size s c ∧ Ok W w'
/-- A configuration of at most a thousand of each. -/
structure CfgLe (c : Cfg) : Prop where
  l0 : c.vs.length ≤ 1000
  l1 : c.os.length ≤ 1000
  l2 : c.ls.length ≤ 1000
  l3 : c.ws.length ≤ 1000

set_option maxRecDepth 100000 in
set_option maxHeartbeats 4000000 in
theorem copyConfig_f (s : S4) (c : Cfg) (W : World) (h : CfgAt W s c) (hl : CfgLe c) :
    Calls Try.prog 64 #[.agg #[.slice s.A0 s.n0 s.c0, .slice s.A1 s.n1 s.c1, .slice s.A2 s.n2 s.c2, .slice s.A3 s.n3 s.c3]] W (CfgP W c) := by
  obtain ⟨l0, l1, l2, l3⟩ := hl
  have HC := Lib.hid h
  clear h
  have HA : Hid (Fo W.heap.size (.slice s.A0 s.n0 s.c0) (.slice s.A1 s.n1 s.c1) (.slice s.A2 s.n2 s.c2) (.slice s.A3 s.n3 s.c3) ((W.alloc (.cells #[.slice s.A0 s.n0 s.c0, .slice s.A1 s.n1 s.c1, .slice s.A2 s.n2 s.c2, .slice s.A3 s.n3 s.c3] 25)).alloc (.cells #[.slice none 0 0, .slice none 0 0, .slice none 0 0, .slice none 0 0] 25))) := Lib.hid ((Fo.new _ _ _ _ _ _).ok ((Ok.refl _).alloc _))
  have HB : Hid (Fo (W.heap.size + 1) (.slice none 0 0) (.slice none 0 0) (.slice none 0 0) (.slice none 0 0) ((W.alloc (.cells #[.slice s.A0 s.n0 s.c0, .slice s.A1 s.n1 s.c1, .slice s.A2 s.n2 s.c2, .slice s.A3 s.n3 s.c3] 25)).alloc (.cells #[.slice none 0 0, .slice none 0 0, .slice none 0 0, .slice none 0 0] 25))) := Lib.hid (by have := Fo.new (W.alloc (.cells #[.slice s.A0 s.n0 s.c0, .slice s.A1 s.n1 s.c1, .slice s.A2 s.n2 s.c2, .slice s.A3 s.n3 s.c3] 25)) (.slice none 0 0) (.slice none 0 0) (.slice none 0 0) (.slice none 0 0) 25; rwa [World.size_alloc] at this)
  have HO : Hid (Ok W ((W.alloc (.cells #[.slice s.A0 s.n0 s.c0, .slice s.A1 s.n1 s.c1, .slice s.A2 s.n2 s.c2, .slice s.A3 s.n3 s.c3] 25)).alloc (.cells #[.slice none 0 0, .slice none 0 0, .slice none 0 0, .slice none 0 0] 25))) := Lib.hid (((Ok.refl W).alloc _).alloc _)
  have HZ : Hid (W.heap.size + 2 ≤ ((W.alloc (.cells #[.slice s.A0 s.n0 s.c0, .slice s.A1 s.n1 s.c1, .slice s.A2 s.n2 s.c2, .slice s.A3 s.n3 s.c3] 25)).alloc (.cells #[.slice none 0 0, .slice none 0 0, .slice none 0 0, .slice none 0 0] 25)).heap.size) := Lib.hid (by rw [World.size_alloc, World.size_alloc]; omega)
  go_enter Try.func64, Try.ntmps64
  go_upto_region 2 with fail
  rename_i K0 hK0
  have HK0 := Lib.hid hK0
  clear hK0
  generalize ((W.alloc (.cells #[.slice s.A0 s.n0 s.c0, .slice s.A1 s.n1 s.c1, .slice s.A2 s.n2 s.c2, .slice s.A3 s.n3 s.c3] 25)).alloc (.cells #[.slice none 0 0, .slice none 0 0, .slice none 0 0, .slice none 0 0] 25)) = W1 at *
  obtain ⟨g, hg⟩ : ∃ g, W.heap.size = g := ⟨_, rfl⟩
  have HG := Lib.hid hg
  rw [hg] at HA HB HZ ⊢
  clear hg
  refine Until.begin (S := fun w => w.cell? ⟨g, 0, none⟩ = some (.slice s.A0 s.n0 s.c0) ∧ w.cell? ⟨g, 1, none⟩ = some (.slice s.A1 s.n1 s.c1) ∧ w.cell? ⟨g, 2, none⟩ = some (.slice s.A2 s.n2 s.c2) ∧ w.cell? ⟨g, 3, none⟩ = some (.slice s.A3 s.n3 s.c3)) (j := 13) (by kernel_rfl) ?_ ?_
  · have k := HA.out.ok ((Ok.refl W1).drew)
    exact ⟨k.c0, k.c1, k.c2, k.c3⟩
  intro hS
  have HW0 : Hid (Ok W1 W1.drew) := Lib.hid ((Ok.refl W1).drew)
  generalize W1.drew = w0 at *
  refine Until.take0 (i := 0) (v := ?v0) rfl (by kernel_rfl) (by kernel_rfl) (by kernel_rfl) (by kernel_rfl) (fun _ _ _ h => h) (Or.inl ⟨by rfl, ?hy0⟩) (fun _ => hS) ?rest0
  case hy0 => ((intro w hSw); clear hSw; go_simp; (try with_reducible rfl))
  try go_frame
  refine Until.take (i := 1) (v := ?v1) rfl (by kernel_rfl) (by kernel_rfl) (by kernel_rfl) (by kernel_rfl) (fun _ _ _ h => h) (Or.inl ⟨by rfl, ?hy1⟩) hS ?rest1
  case hy1 => ((intro w hSw; (try dsimp only at hSw)); go_simp; (try with_reducible rfl))
  try go_frame
  refine Until.take0 (i := 3) (v := ?v3) rfl (by kernel_rfl) (by kernel_rfl) (by kernel_rfl) (by kernel_rfl) (fun _ _ _ h => h) (Or.inl ⟨by rfl, ?hy3⟩) (fun _ => hS) ?rest3
  case hy3 => ((intro w hSw); clear hSw; go_simp; (try with_reducible rfl))
  try go_frame
  refine Until.take (i := 4) (v := ?v4) rfl (by kernel_rfl) (by kernel_rfl) (by kernel_rfl) (by kernel_rfl) (fun _ _ _ h => h) (Or.inl ⟨by rfl, ?hy4⟩) hS ?rest4
  case hy4 => ((intro w hSw; (try dsimp only at hSw)); go_simp; (try with_reducible rfl))
  try go_frame
  refine Until.take0 (i := 6) (v := ?v6) rfl (by kernel_rfl) (by kernel_rfl) (by kernel_rfl) (by kernel_rfl) (fun _ _ _ h => h) (Or.inl ⟨by rfl, ?hy6⟩) (fun _ => hS) ?rest6
  case hy6 => ((intro w hSw); clear hSw; go_simp; (try with_reducible rfl))
  try go_frame
  refine Until.take (i := 7) (v := ?v7) rfl (by kernel_rfl) (by kernel_rfl) (by kernel_rfl) (by kernel_rfl) (fun _ _ _ h => h) (Or.inl ⟨by rfl, ?hy7⟩) hS ?rest7
  case hy7 => ((intro w hSw; (try dsimp only at hSw)); go_simp; (try with_reducible rfl))
  try go_frame
  refine Until.take0 (i := 9) (v := ?v9) rfl (by kernel_rfl) (by kernel_rfl) (by kernel_rfl) (by kernel_rfl) (fun _ _ _ h => h) (Or.inl ⟨by rfl, ?hy9⟩) (fun _ => hS) ?rest9
  case hy9 => ((intro w hSw); clear hSw; go_simp; (try with_reducible rfl))
  try go_frame
  refine Until.take (i := 10) (v := ?v10) rfl (by kernel_rfl) (by kernel_rfl) (by kernel_rfl) (by kernel_rfl) (fun _ _ _ h => h) (Or.inl ⟨by rfl, ?hy10⟩) hS ?rest10
  case hy10 => ((intro w hSw; (try dsimp only at hSw)); go_simp; (try with_reducible rfl))
  try go_frame
  refine Until.one (i := 2) (by kernel_rfl) rfl (fun K hK => ?_)
  have HK := Lib.hid hK
  clear hK
  go_simp
  refine (cloneI_f _ c.vs _ ((HO.out.trans HW0.out).ints HC.out.h0) l0).mono ?_
  rintro _ w1 ⟨⟨B0, d0, rfl, hz⟩, ok⟩
  have HZ0 := Lib.hid hz
  have HW1 : Hid (Ok W1 w1) := Lib.hid (HW0.out.trans ok)
  have HD1 : Hid (Ok w0 w1) := Lib.hid ok
  have HS1 : Hid (_ ∧ _ ∧ _ ∧ _) := Lib.hid ⟨ok.cell hS.1, ok.cell hS.2.1, ok.cell hS.2.2.1, ok.cell hS.2.2.2⟩
  clear hz ok hS
  refine HK.out.out _ _ (fun _ => HS1.out) (fun _ => ?_)
  have hS := HS1.out
  clear HS1 HK K
  try go_frame
  refine Until.one (i := 5) (by kernel_rfl) rfl (fun K hK => ?_)
  have HK := Lib.hid hK
  clear hK
  go_simp
  refine (cloneI_f _ c.os _ ((HO.out.trans HW1.out).ints HC.out.h1) l1).mono ?_
  rintro _ w2 ⟨⟨B1, d1, rfl, hz⟩, ok⟩
  have HZ1 := Lib.hid hz
  have HW2 : Hid (Ok W1 w2) := Lib.hid (HW1.out.trans ok)
  have HD2 : Hid (Ok w1 w2) := Lib.hid ok
  have HS2 : Hid (_ ∧ _ ∧ _ ∧ _) := Lib.hid ⟨ok.cell hS.1, ok.cell hS.2.1, ok.cell hS.2.2.1, ok.cell hS.2.2.2⟩
  clear hz ok hS
  refine HK.out.out _ _ (fun _ => HS2.out) (fun _ => ?_)
  have hS := HS2.out
  clear HS2 HK K
  try go_frame
  refine Until.one (i := 8) (by kernel_rfl) rfl (fun K hK => ?_)
  have HK := Lib.hid hK
  clear hK
  go_simp
  refine (cloneI_f _ c.ls _ ((HO.out.trans HW2.out).ints HC.out.h2) l2).mono ?_
  rintro _ w3 ⟨⟨B2, d2, rfl, hz⟩, ok⟩
  have HZ2 := Lib.hid hz
  have HW3 : Hid (Ok W1 w3) := Lib.hid (HW2.out.trans ok)
  have HD3 : Hid (Ok w2 w3) := Lib.hid ok
  have HS3 : Hid (_ ∧ _ ∧ _ ∧ _) := Lib.hid ⟨ok.cell hS.1, ok.cell hS.2.1, ok.cell hS.2.2.1, ok.cell hS.2.2.2⟩
  clear hz ok hS
  refine HK.out.out _ _ (fun _ => HS3.out) (fun _ => ?_)
  have hS := HS3.out
  clear HS3 HK K
  try go_frame
  refine Until.one (i := 11) (by kernel_rfl) rfl (fun K hK => ?_)
  have HK := Lib.hid hK
  clear hK
  go_simp
  refine (cloneI_f _ c.ws _ ((HO.out.trans HW3.out).ints HC.out.h3) l3).mono ?_
  rintro _ w4 ⟨⟨B3, d3, rfl, hz⟩, ok⟩
  have HZ3 := Lib.hid hz
  have HW4 : Hid (Ok W1 w4) := Lib.hid (HW3.out.trans ok)
  have HD4 : Hid (Ok w3 w4) := Lib.hid ok
  have HS4 : Hid (_ ∧ _ ∧ _ ∧ _) := Lib.hid ⟨ok.cell hS.1, ok.cell hS.2.1, ok.cell hS.2.2.1, ok.cell hS.2.2.2⟩
  clear hz ok hS
  refine HK.out.out _ _ (fun _ => HS4.out) (fun _ => ?_)
  have hS := HS4.out
  clear HS4 HK K
  try go_frame
  have HA4 := Lib.hid (HA.out.ok HW4.out)
  have HB4 := Lib.hid (HB.out.ok HW4.out)
  have HS4 := Lib.hid hS
  clear hS HA HB
  refine Until.take0 (i := 12) (v := ?v12) rfl (by kernel_rfl) (by kernel_rfl) (by kernel_rfl) (by kernel_rfl) (fun _ _ _ h => h) (Or.inl ⟨by rfl, ?hy12⟩) (fun _ => HS4.out) ?rest12
  case hy12 => ((intro w hSw); clear hSw; go_simp; (try with_reducible rfl))
  try go_frame
  have hb0 := HB4.out.c0
  have hb1 := HB4.out.c1
  have hb2 := HB4.out.c2
  have hb3 := HB4.out.c3
  have hh0 := HB4.out.f 0
  have hh1 := HB4.out.f 1
  have hh2 := HB4.out.f 2
  have hh3 := HB4.out.f 3
  refine Until.one (i := 13) (by kernel_rfl) rfl (fun K hK => ?_)
  have HK := Lib.hid hK
  clear hK
  go_simp
  refine HK.out.out _ _ (fun h => absurd (h.symm.trans (by kernel_rfl : _ = true)) Bool.false_ne_true) (fun _ => ?_)
  clear HK K
  try go_frame
  refine Until.done (by kernel_rfl) ?_ _
  refine HK0.out _ _ ?_
  clear HK0
  go_wp2_with fail
  refine bodyPost_ret (v := .agg #[.slice B0 c.vs.length d0, .slice B1 c.os.length d1, .slice B2 c.ls.length d2, .slice B3 c.ws.length d3]) (by simp [results, Try.results64, go_sem, hb0, hb1, hb2, hb3]; try rfl) rfl ?_
  clear hb0 hb1 hb2 hb3 hh0 hh1 hh2 hh3
  have z0 : g + 2 ≤ w0.heap.size := Nat.le_trans HZ.out HW0.out.size
  have z1 := Nat.le_trans z0 HD1.out.size
  have z2 := Nat.le_trans z1 HD2.out.size
  have z3 := Nat.le_trans z2 HD3.out.size
  refine ⟨⟨B0, c.vs.length, d0, B1, c.os.length, d1, B2, c.ls.length, d2, B3, c.ws.length, d3⟩, rfl, ⟨?_, ?_, ?_, ?_⟩, ?_⟩
  · exact OwnZ.lower (b := w0.heap.size) (by (repeat (refine OwnZ.set ?_ _ _ _ (by omega))); exact HZ0.out.ok ((HD2.out.trans HD3.out).trans HD4.out)) (by have := HG.out; omega)
  · exact OwnZ.lower (b := w1.heap.size) (by (repeat (refine OwnZ.set ?_ _ _ _ (by omega))); exact HZ1.out.ok (HD3.out.trans HD4.out)) (by have := HG.out; omega)
  · exact OwnZ.lower (b := w2.heap.size) (by (repeat (refine OwnZ.set ?_ _ _ _ (by omega))); exact HZ2.out.ok HD4.out) (by have := HG.out; omega)
  · exact OwnZ.lower (b := w3.heap.size) (by (repeat (refine OwnZ.set ?_ _ _ _ (by omega))); exact HZ3.out) (by have := HG.out; omega)
  · have hg1 : W.heap.size ≤ g := Nat.le_of_eq HG.out
    have hg2 : W.heap.size ≤ g + 1 := by omega
    show Below W.heap.size W _
    repeat (refine Below.setCell ?_ hg2 _)
    exact HO.out.trans HW4.out
end Go.Proofs.Ytebhcadolnjplaa
