/- An entry's copy. -/
import Derived.Test.YtebhcadolnjplaaGb
namespace Go.Proofs.Ytebhcadolnjplaa
open Go.RowKit

structure Sev (g : Nat) (v0 v1 v2 v3 v4 v5 v6 : Value) (w : World) : Prop where
  c0 : w.cell? ⟨g, 0, none⟩ = some v0
  c1 : w.cell? ⟨g, 1, none⟩ = some v1
  c2 : w.cell? ⟨g, 2, none⟩ = some v2
  c3 : w.cell? ⟨g, 3, none⟩ = some v3
  c4 : w.cell? ⟨g, 4, none⟩ = some v4
  c5 : w.cell? ⟨g, 5, none⟩ = some v5
  c6 : w.cell? ⟨g, 6, none⟩ = some v6
  f : ∀ k, w.frozen? ⟨g, k, none⟩ = false
theorem Sev.ok {g : Nat} {v0 v1 v2 v3 v4 v5 v6 : Value} {w w' : World} (h : Sev g v0 v1 v2 v3 v4 v5 v6 w) (k : Ok w w') : Sev g v0 v1 v2 v3 v4 v5 v6 w' :=
  have hg : g < w.heap.size := World.block_lt_of_cell? _ _ h.c0
  ⟨k.cell h.c0, k.cell h.c1, k.cell h.c2, k.cell h.c3, k.cell h.c4, k.cell h.c5, k.cell h.c6, fun j => by rw [Below.frozen k (p := ⟨g, j, none⟩) hg]; exact h.f j⟩
theorem Sev.new (w : World) (v0 v1 v2 v3 v4 v5 v6 : Value) (t : TypeId) : Sev w.heap.size v0 v1 v2 v3 v4 v5 v6 (w.alloc (.cells #[v0, v1, v2, v3, v4, v5, v6] t)) :=
  ⟨box_cell _ _ _ _ _ rfl, box_cell _ _ _ _ _ rfl, box_cell _ _ _ _ _ rfl, box_cell _ _ _ _ _ rfl, box_cell _ _ _ _ _ rfl, box_cell _ _ _ _ _ rfl, box_cell _ _ _ _ _ rfl, fun j => by rw [World.frozen?, heap_alloc_new]; simp⟩
theorem far_c (w : World) (g k j : Nat) (x : Value) (h : k ≠ j) : (w.setCell ⟨g, k, none⟩ x).cell? ⟨g, j, none⟩ = w.cell? ⟨g, j, none⟩ := World.cell?_setCell_other _ _ _ _ (fun e => h (congrArg Addr.off e))
theorem Sev.st {g : Nat} {v0 v1 v2 v3 v4 v5 v6 : Value} {w : World} (h : Sev g v0 v1 v2 v3 v4 v5 v6 w) (x2 x3 x4 x5 x6 : Value) :
    Sev g v0 v1 x2 x3 x4 x5 x6 (((((w.setCell ⟨g, 2, none⟩ x2).setCell ⟨g, 3, none⟩ x3).setCell ⟨g, 4, none⟩ x4).setCell ⟨g, 5, none⟩ x5).setCell ⟨g, 6, none⟩ x6) := by
  refine ⟨?_, ?_, ?_, ?_, ?_, ?_, ?_, fun k => by simp [h.f k]⟩
  · rw [far_c _ _ _ _ _ (by decide), far_c _ _ _ _ _ (by decide), far_c _ _ _ _ _ (by decide), far_c _ _ _ _ _ (by decide), far_c _ _ _ _ _ (by decide)]; exact h.c0
  · rw [far_c _ _ _ _ _ (by decide), far_c _ _ _ _ _ (by decide), far_c _ _ _ _ _ (by decide), far_c _ _ _ _ _ (by decide), far_c _ _ _ _ _ (by decide)]; exact h.c1
  · rw [far_c _ _ _ _ _ (by decide), far_c _ _ _ _ _ (by decide), far_c _ _ _ _ _ (by decide), far_c _ _ _ _ _ (by decide)]; exact World.cell?_setCell_same _ _ _ h.c2
  · rw [far_c _ _ _ _ _ (by decide), far_c _ _ _ _ _ (by decide), far_c _ _ _ _ _ (by decide)]; exact World.cell?_setCell_same _ _ _ (by rw [far_c _ _ _ _ _ (by decide)]; exact h.c3)
  · rw [far_c _ _ _ _ _ (by decide), far_c _ _ _ _ _ (by decide)]; exact World.cell?_setCell_same _ _ _ (by rw [far_c _ _ _ _ _ (by decide), far_c _ _ _ _ _ (by decide)]; exact h.c4)
  · rw [far_c _ _ _ _ _ (by decide)]; exact World.cell?_setCell_same _ _ _ (by rw [far_c _ _ _ _ _ (by decide), far_c _ _ _ _ _ (by decide), far_c _ _ _ _ _ (by decide)]; exact h.c5)
  · exact World.cell?_setCell_same _ _ _ (by rw [far_c _ _ _ _ _ (by decide), far_c _ _ _ _ _ (by decide), far_c _ _ _ _ _ (by decide), far_c _ _ _ _ _ (by decide)]; exact h.c6)
/-- Stores at a new block. -/
theorem Sev.far {g p : Nat} {v0 v1 v2 v3 v4 v5 v6 : Value} {w : World} (h : Sev g v0 v1 v2 v3 v4 v5 v6 w) (hp : p ≠ g) (k : Nat) (x : Value) : Sev g v0 v1 v2 v3 v4 v5 v6 (w.setCell ⟨p, k, none⟩ x) := by
  have e : ∀ j, (w.setCell ⟨p, k, none⟩ x).cell? ⟨g, j, none⟩ = w.cell? ⟨g, j, none⟩ := fun j => World.cell?_setCell_far _ _ _ _ hp
  exact ⟨(e 0).trans h.c0, (e 1).trans h.c1, (e 2).trans h.c2, (e 3).trans h.c3, (e 4).trans h.c4, (e 5).trans h.c5, (e 6).trans h.c6, fun k => by simp [h.f k]⟩
/-- An entry of at most so much. -/
structure EnLe (e : En) : Prop where
  cmd : e.cmd.length ≤ 1000000
  cfg : CfgLe e.cfg
def ER.val (r : ER) : Value := .agg #[.int .i64 r.term, .int .u8 r.kind, .slice r.A r.n r.c, .slice r.s.A0 r.s.n0 r.s.c0, .slice r.s.A1 r.s.n1 r.s.c1, .slice r.s.A2 r.s.n2 r.s.c2, .slice r.s.A3 r.s.n3 r.s.c3]
/-- These cells are new, and that entry. -/
def EntP (W : World) (e : En) (x : Ending) (w' : World) : Prop :=
  ∃ r : ER, x = .returned r.val ∧ (∀ S : Nat → Prop, (∀ b, S b → b < W.heap.size) → EnAt S w' r e) ∧ Ok W w'

set_option maxRecDepth 100000 in
set_option maxHeartbeats 4000000 in
theorem copyEntry_f (S0 : Nat → Prop) (r : ER) (e : En) (W : World) (h : EnAt S0 W r e) (hl : EnLe e) :
    Calls Try.prog 62 #[r.val] W (EntP W e) := by
  obtain ⟨lb, lc⟩ := hl
  have HC := Lib.hid h.cfg
  have HD := Lib.hid h.cmd
  have HT := Lib.hid h.term
  have HK9 := Lib.hid h.kind
  clear h
  unfold ER.val
  have HA : Hid (Sev W.heap.size (.int .i64 r.term) (.int .u8 r.kind) (.slice r.A r.n r.c) (.slice r.s.A0 r.s.n0 r.s.c0) (.slice r.s.A1 r.s.n1 r.s.c1) (.slice r.s.A2 r.s.n2 r.s.c2) (.slice r.s.A3 r.s.n3 r.s.c3) ((W.alloc (.cells #[.int .i64 r.term, .int .u8 r.kind, .slice r.A r.n r.c, .slice r.s.A0 r.s.n0 r.s.c0, .slice r.s.A1 r.s.n1 r.s.c1, .slice r.s.A2 r.s.n2 r.s.c2, .slice r.s.A3 r.s.n3 r.s.c3] 44)).alloc (.cells #[.int .i64 0, .int .u8 0, .slice none 0 0, .slice none 0 0, .slice none 0 0, .slice none 0 0, .slice none 0 0] 44))) := Lib.hid ((Sev.new _ _ _ _ _ _ _ _ _).ok ((Ok.refl _).alloc _))
  have HB : Hid (Sev (W.heap.size + 1) (.int .i64 0) (.int .u8 0) (.slice none 0 0) (.slice none 0 0) (.slice none 0 0) (.slice none 0 0) (.slice none 0 0) ((W.alloc (.cells #[.int .i64 r.term, .int .u8 r.kind, .slice r.A r.n r.c, .slice r.s.A0 r.s.n0 r.s.c0, .slice r.s.A1 r.s.n1 r.s.c1, .slice r.s.A2 r.s.n2 r.s.c2, .slice r.s.A3 r.s.n3 r.s.c3] 44)).alloc (.cells #[.int .i64 0, .int .u8 0, .slice none 0 0, .slice none 0 0, .slice none 0 0, .slice none 0 0, .slice none 0 0] 44))) := Lib.hid (by have := Sev.new (W.alloc (.cells #[.int .i64 r.term, .int .u8 r.kind, .slice r.A r.n r.c, .slice r.s.A0 r.s.n0 r.s.c0, .slice r.s.A1 r.s.n1 r.s.c1, .slice r.s.A2 r.s.n2 r.s.c2, .slice r.s.A3 r.s.n3 r.s.c3] 44)) (.int .i64 0) (.int .u8 0) (.slice none 0 0) (.slice none 0 0) (.slice none 0 0) (.slice none 0 0) (.slice none 0 0) 44; rwa [World.size_alloc] at this)
  have HO : Hid (Ok W ((W.alloc (.cells #[.int .i64 r.term, .int .u8 r.kind, .slice r.A r.n r.c, .slice r.s.A0 r.s.n0 r.s.c0, .slice r.s.A1 r.s.n1 r.s.c1, .slice r.s.A2 r.s.n2 r.s.c2, .slice r.s.A3 r.s.n3 r.s.c3] 44)).alloc (.cells #[.int .i64 0, .int .u8 0, .slice none 0 0, .slice none 0 0, .slice none 0 0, .slice none 0 0, .slice none 0 0] 44))) := Lib.hid (((Ok.refl W).alloc _).alloc _)
  have HZ : Hid (W.heap.size + 2 ≤ ((W.alloc (.cells #[.int .i64 r.term, .int .u8 r.kind, .slice r.A r.n r.c, .slice r.s.A0 r.s.n0 r.s.c0, .slice r.s.A1 r.s.n1 r.s.c1, .slice r.s.A2 r.s.n2 r.s.c2, .slice r.s.A3 r.s.n3 r.s.c3] 44)).alloc (.cells #[.int .i64 0, .int .u8 0, .slice none 0 0, .slice none 0 0, .slice none 0 0, .slice none 0 0, .slice none 0 0] 44)).heap.size) := Lib.hid (by rw [World.size_alloc, World.size_alloc]; omega)
  go_enter Try.func62, Try.ntmps62
  go_upto_region 2 with fail
  rename_i K0 hK0
  have HK0 := Lib.hid hK0
  clear hK0
  generalize ((W.alloc (.cells #[.int .i64 r.term, .int .u8 r.kind, .slice r.A r.n r.c, .slice r.s.A0 r.s.n0 r.s.c0, .slice r.s.A1 r.s.n1 r.s.c1, .slice r.s.A2 r.s.n2 r.s.c2, .slice r.s.A3 r.s.n3 r.s.c3] 44)).alloc (.cells #[.int .i64 0, .int .u8 0, .slice none 0 0, .slice none 0 0, .slice none 0 0, .slice none 0 0, .slice none 0 0] 44)) = W1 at *
  obtain ⟨g, hg⟩ : ∃ g, W.heap.size = g := ⟨_, rfl⟩
  have HG := Lib.hid hg
  rw [hg] at HA HB HZ ⊢
  clear hg
  refine Until.begin (S := fun w => w.cell? ⟨g, 2, none⟩ = some (.slice r.A r.n r.c) ∧ w.cell? ⟨g, 3, none⟩ = some (.slice r.s.A0 r.s.n0 r.s.c0) ∧ w.cell? ⟨g, 4, none⟩ = some (.slice r.s.A1 r.s.n1 r.s.c1) ∧ w.cell? ⟨g, 5, none⟩ = some (.slice r.s.A2 r.s.n2 r.s.c2) ∧ w.cell? ⟨g, 6, none⟩ = some (.slice r.s.A3 r.s.n3 r.s.c3)) (j := 7) (by kernel_rfl) ?_ ?_
  · have k := HA.out.ok ((Ok.refl W1).drew)
    exact ⟨k.c2, k.c3, k.c4, k.c5, k.c6⟩
  intro hS
  have HW0 : Hid (Ok W1 W1.drew) := Lib.hid ((Ok.refl W1).drew)
  generalize W1.drew = w0 at *
  refine Until.take0 (i := 0) (v := ?v0) rfl (by kernel_rfl) (by kernel_rfl) (by kernel_rfl) (by kernel_rfl) (fun _ _ _ h => h) (Or.inl ⟨by rfl, ?hy0⟩) (fun _ => hS) ?rest0
  case hy0 => ((intro w hSw); clear hSw; go_simp; (try with_reducible rfl))
  try go_frame
  refine Until.take (i := 1) (v := ?v1) rfl (by kernel_rfl) (by kernel_rfl) (by kernel_rfl) (by kernel_rfl) (fun _ _ _ h => h) (Or.inl ⟨by rfl, ?hy1⟩) hS ?rest1
  case hy1 => ((intro w hSw; (try dsimp only at hSw)); go_simp; (try with_reducible rfl))
  try go_frame
  refine Until.take0 (i := 3) (v := ?v3) rfl (by kernel_rfl) (by kernel_rfl) (by kernel_rfl) (by kernel_rfl) (fun _ _ _ h => h) (Or.inl ⟨by rfl, ?hy3⟩) (fun _ => hS) ?rest3
  case hy3 => ((intro w hSw); clear hSw; go_simp; (try with_reducible rfl))
  try go_frame
  refine Until.take (i := 4) (v := ?v4) rfl (by kernel_rfl) (by kernel_rfl) (by kernel_rfl) (by kernel_rfl) (fun _ _ _ h => h) (Or.inl ⟨by rfl, ?hy4⟩) hS ?rest4
  case hy4 => ((intro w hSw; (try dsimp only at hSw)); go_simp; (try with_reducible rfl))
  try go_frame
  refine Until.one (i := 2) (by kernel_rfl) rfl (fun K hK => ?_)
  have HK := Lib.hid hK
  clear hK
  go_simp
  refine (cloneB_f _ e.cmd _ ((HO.out.trans HW0.out).bytes HD.out) (by omega)).mono ?_
  rintro _ w1 ⟨⟨B0, d0, rfl, hz⟩, ok⟩
  have HZ0 := Lib.hid hz
  have HW1 : Hid (Ok W1 w1) := Lib.hid (HW0.out.trans ok)
  have HD1 : Hid (Ok w0 w1) := Lib.hid ok
  have HS1 : Hid (_ ∧ _ ∧ _ ∧ _ ∧ _) := Lib.hid ⟨ok.cell hS.1, ok.cell hS.2.1, ok.cell hS.2.2.1, ok.cell hS.2.2.2.1, ok.cell hS.2.2.2.2⟩
  clear hz ok hS
  refine HK.out.out _ _ (fun _ => HS1.out) (fun _ => ?_)
  have hS := HS1.out
  clear HS1 HK K
  try go_frame
  refine Until.take0 (i := 6) (v := ?v6) rfl (by kernel_rfl) (by kernel_rfl) (by kernel_rfl) (by kernel_rfl) (fun _ _ _ h => h) (Or.inl ⟨by rfl, ?hy6⟩) (fun _ => hS) ?rest6
  case hy6 => ((intro w hSw); clear hSw; go_simp; (try with_reducible rfl))
  try go_frame
  refine Until.one (i := 5) (by kernel_rfl) rfl (fun K hK => ?_)
  have HK := Lib.hid hK
  clear hK
  go_simp
  refine (copyConfig_f r.s e.cfg _ (HC.out.ok (HO.out.trans HW1.out)) lc).mono ?_
  rintro _ w2 ⟨q, rfl, hz, ok⟩
  have HZ1 := Lib.hid hz
  have HW2 : Hid (Ok W1 w2) := Lib.hid (HW1.out.trans ok)
  have HD2 : Hid (Ok w1 w2) := Lib.hid ok
  have HS2 : Hid (_ ∧ _ ∧ _ ∧ _ ∧ _) := Lib.hid ⟨ok.cell hS.1, ok.cell hS.2.1, ok.cell hS.2.2.1, ok.cell hS.2.2.2.1, ok.cell hS.2.2.2.2⟩
  clear hz ok hS
  refine HK.out.out _ _ (fun _ => HS2.out) (fun _ => ?_)
  have hS := HS2.out
  clear HS2 HK K
  try go_frame
  have HA4 := Lib.hid (HA.out.ok HW2.out)
  have HB4 := Lib.hid (HB.out.ok HW2.out)
  have HS4 := Lib.hid hS
  clear hS HA HB
  have hc0 := HA4.out.c0
  have hc1 := HA4.out.c1
  have hc2 := HA4.out.c2
  have hc3 := HA4.out.c3
  have hc4 := HA4.out.c4
  have hc5 := HA4.out.c5
  have hc6 := HA4.out.c6
  have hf2 := HA4.out.f 2
  have hf3 := HA4.out.f 3
  have hf4 := HA4.out.f 4
  have hf5 := HA4.out.f 5
  have hf6 := HA4.out.f 6
  refine Until.one (i := 7) (by kernel_rfl) rfl (fun K hK => ?_)
  have HK := Lib.hid hK
  clear hK
  go_simp
  refine HK.out.out _ _ (fun h => absurd (h.symm.trans (by kernel_rfl : _ = true)) Bool.false_ne_true) (fun _ => ?_)
  clear HK K
  try go_frame
  refine Until.take0 (i := 8) (v := ?v8) rfl (by kernel_rfl) (by kernel_rfl) (by kernel_rfl) (by kernel_rfl) (fun _ _ _ h => h) (Or.inl ⟨by rfl, ?hy8⟩) (fun h => absurd (h.symm.trans (by kernel_rfl : _ = true)) Bool.false_ne_true) ?rest8
  case hy8 => ((intro w hSw); clear hSw; go_simp; (try with_reducible rfl))
  try go_frame
  refine Until.one (i := 9) (by kernel_rfl) rfl (fun K hK => ?_)
  have HK := Lib.hid hK
  clear hK
  go_simp
  refine HK.out.out _ _ (fun h => absurd (h.symm.trans (by kernel_rfl : _ = true)) Bool.false_ne_true) (fun _ => ?_)
  clear HK K
  try go_frame
  refine Until.done (by kernel_rfl) ?_ _
  refine HK0.out _ _ ?_
  clear HK0
  have HA5 := Lib.hid (HA4.out.st (.slice B0 e.cmd.length d0) (.slice q.A0 q.n0 q.c0) (.slice q.A1 q.n1 q.c1) (.slice q.A2 q.n2 q.c2) (.slice q.A3 q.n3 q.c3))
  have HB5 : Hid (Sev (g + 1) (.int .i64 0) (.int .u8 0) (.slice none 0 0) (.slice none 0 0) (.slice none 0 0) (.slice none 0 0) (.slice none 0 0) (((((w2.setCell ⟨g, 2, none⟩ (.slice B0 e.cmd.length d0)).setCell ⟨g, 3, none⟩ (.slice q.A0 q.n0 q.c0)).setCell ⟨g, 4, none⟩ (.slice q.A1 q.n1 q.c1)).setCell ⟨g, 5, none⟩ (.slice q.A2 q.n2 q.c2)).setCell ⟨g, 6, none⟩ (.slice q.A3 q.n3 q.c3))) := Lib.hid (by (repeat (refine Sev.far ?_ (by omega) _ _)); exact HB4.out)
  have z0 : g + 2 ≤ w0.heap.size := Nat.le_trans HZ.out HW0.out.size
  have z1 := Nat.le_trans z0 HD1.out.size
  have HN3 : Hid (OwnN (((((w2.setCell ⟨g, 2, none⟩ (.slice B0 e.cmd.length d0)).setCell ⟨g, 3, none⟩ (.slice q.A0 q.n0 q.c0)).setCell ⟨g, 4, none⟩ (.slice q.A1 q.n1 q.c1)).setCell ⟨g, 5, none⟩ (.slice q.A2 q.n2 q.c2)).setCell ⟨g, 6, none⟩ (.slice q.A3 q.n3 q.c3)) w0.heap.size (.slice B0 e.cmd.length d0) e.cmd) := Lib.hid (by
    repeat (refine OwnN.set ?_ _ _ _ (by omega))
    exact OwnN.okk HZ0.out HD2.out)
  have HC3 : Hid (CfgOwn (((((w2.setCell ⟨g, 2, none⟩ (.slice B0 e.cmd.length d0)).setCell ⟨g, 3, none⟩ (.slice q.A0 q.n0 q.c0)).setCell ⟨g, 4, none⟩ (.slice q.A1 q.n1 q.c1)).setCell ⟨g, 5, none⟩ (.slice q.A2 q.n2 q.c2)).setCell ⟨g, 6, none⟩ (.slice q.A3 q.n3 q.c3)) w1.heap.size q e.cfg) := Lib.hid (by
    repeat (refine CfgOwn.set ?_ _ _ _ (by omega))
    exact HZ1.out)
  have HO3 : Hid (Below W.heap.size W (((((w2.setCell ⟨g, 2, none⟩ (.slice B0 e.cmd.length d0)).setCell ⟨g, 3, none⟩ (.slice q.A0 q.n0 q.c0)).setCell ⟨g, 4, none⟩ (.slice q.A1 q.n1 q.c1)).setCell ⟨g, 5, none⟩ (.slice q.A2 q.n2 q.c2)).setCell ⟨g, 6, none⟩ (.slice q.A3 q.n3 q.c3))) := Lib.hid (by
    have hg1 : W.heap.size ≤ g := Nat.le_of_eq HG.out
    repeat refine Below.setCell ?_ hg1 _
    exact HO.out.trans HW2.out)
  clear hc0 hc1 hc2 hc3 hc4 hc5 hc6 hf2 hf3 hf4 hf5 hf6 HA4 HB4 HS4
  generalize (((((w2.setCell ⟨g, 2, none⟩ (.slice B0 e.cmd.length d0)).setCell ⟨g, 3, none⟩ (.slice q.A0 q.n0 q.c0)).setCell ⟨g, 4, none⟩ (.slice q.A1 q.n1 q.c1)).setCell ⟨g, 5, none⟩ (.slice q.A2 q.n2 q.c2)).setCell ⟨g, 6, none⟩ (.slice q.A3 q.n3 q.c3)) = w3 at *
  have hc0 := HA5.out.c0
  have hb0 := HB5.out.c0
  have hh0 := HB5.out.f 0
  have hc1 := HA5.out.c1
  have hb1 := HB5.out.c1
  have hh1 := HB5.out.f 1
  have hc2 := HA5.out.c2
  have hb2 := HB5.out.c2
  have hh2 := HB5.out.f 2
  have hc3 := HA5.out.c3
  have hb3 := HB5.out.c3
  have hh3 := HB5.out.f 3
  have hc4 := HA5.out.c4
  have hb4 := HB5.out.c4
  have hh4 := HB5.out.f 4
  have hc5 := HA5.out.c5
  have hb5 := HB5.out.c5
  have hh5 := HB5.out.f 5
  have hc6 := HA5.out.c6
  have hb6 := HB5.out.c6
  have hh6 := HB5.out.f 6
  go_wp2_with fail
  refine bodyPost_ret (v := .agg #[.int .i64 r.term, .int .u8 r.kind, .slice B0 e.cmd.length d0, .slice q.A0 q.n0 q.c0, .slice q.A1 q.n1 q.c1, .slice q.A2 q.n2 q.c2, .slice q.A3 q.n3 q.c3]) (by simp [results, Try.results62, go_sem, hb0, hb1, hb2, hb3, hb4, hb5, hb6]; try rfl) rfl ?_
  clear hb0 hb1 hb2 hb3 hb4 hb5 hb6 hh0 hh1 hh2 hh3 hh4 hh5 hh6 hc0 hc1 hc2 hc3 hc4 hc5 hc6
  refine ⟨⟨r.term, r.kind, B0, e.cmd.length, d0, q⟩, rfl, fun S hS => ?_, ?_⟩
  · have hg := HG.out
    have hs0 : ∀ b, S b → b < w0.heap.size := fun b hb => by have := hS b hb; omega
    have hs1 : ∀ b, S b → b < w1.heap.size := fun b hb => by have := hS b hb; omega
    have hz := HC3.out
    have oz : ∀ {v : Value} {xs : List Int}, OwnZ w3 w1.heap.size v xs → Off S v := fun h => h.off hs1
    refine ⟨HT.out, HK9.out, ?_, ?_, HN3.out.off hs0, ⟨oz hz.h0, oz hz.h1, oz hz.h2, oz hz.h3⟩⟩
    · refine OwnN.bytes (base := w0.heap.size) ?_ (by omega)
      (repeat (refine OwnN.set ?_ _ _ _ (by omega)))
      exact HN3.out
    · refine CfgOwn.at (base := w1.heap.size) ?_ lc.l0 lc.l1 lc.l2 lc.l3
      (repeat (refine CfgOwn.set ?_ _ _ _ (by omega)))
      exact hz
  · have hg2 : W.heap.size ≤ g + 1 := by have := HG.out; omega
    show Below W.heap.size W _
    repeat refine Below.setCell ?_ hg2 _
    exact HO3.out
end Go.Proofs.Ytebhcadolnjplaa
