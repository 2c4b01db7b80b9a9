/- A base's copy; a new log; an entry of a term. -/
import Derived.Test.YtebhcadolnjplaaGn
namespace Go.Proofs.Ytebhcadolnjplaa
open Go.RowKit

set_option maxRecDepth 100000 in
theorem entry_f (t : Int) (W : World) : Calls Try.prog 24 #[.int .i64 t] W (Ret W (.agg #[.int .i64 t, .int .u8 1, .slice none 0 0, .slice none 0 0, .slice none 0 0, .slice none 0 0, .slice none 0 0])) := by
  have HZ : Hid (Sev W.heap.size (.int .i64 0) (.int .u8 0) (.slice none 0 0) (.slice none 0 0) (.slice none 0 0) (.slice none 0 0) (.slice none 0 0) (W.alloc (.cells #[.int .i64 0, .int .u8 0, .slice none 0 0, .slice none 0 0, .slice none 0 0, .slice none 0 0, .slice none 0 0] 44))) := Lib.hid (Sev.new _ _ _ _ _ _ _ _ _)
  go_enter Try.func24, Try.ntmps24
  go_wp2_with fail
  have HV := Sev.new W (.int .i64 t) (.int .u8 1) (.slice none 0 0) (.slice none 0 0) (.slice none 0 0) (.slice none 0 0) (.slice none 0 0) 44
  have b0 := HV.c0
  have b1 := HV.c1
  have b2 := HV.c2
  have b3 := HV.c3
  have b4 := HV.c4
  have b5 := HV.c5
  have b6 := HV.c6
  refine bodyPost_ret (v := .agg #[.int .i64 t, .int .u8 1, .slice none 0 0, .slice none 0 0, .slice none 0 0, .slice none 0 0, .slice none 0 0]) (by simp [results, Try.results24, go_sem, b0, b1, b2, b3, b4, b5, b6]; try rfl) rfl ?_
  exact ⟨rfl, (Ok.refl _).alloc _⟩
theorem Six.st {g : Nat} {v0 v1 v2 v3 v4 v5 : Value} {w : World} (h : Six g v0 v1 v2 v3 v4 v5 w) (x2 x3 x4 x5 : Value) :
    Six g v0 v1 x2 x3 x4 x5 ((((w.setCell ⟨g, 2, none⟩ x2).setCell ⟨g, 3, none⟩ x3).setCell ⟨g, 4, none⟩ x4).setCell ⟨g, 5, none⟩ x5) := by
  refine ⟨?_, ?_, ?_, ?_, ?_, ?_, fun k => by simp [h.f k]⟩
  · rw [far_c _ _ _ _ _ (by decide), far_c _ _ _ _ _ (by decide), far_c _ _ _ _ _ (by decide), far_c _ _ _ _ _ (by decide)]; exact h.c0
  · rw [far_c _ _ _ _ _ (by decide), far_c _ _ _ _ _ (by decide), far_c _ _ _ _ _ (by decide), far_c _ _ _ _ _ (by decide)]; exact h.c1
  · rw [far_c _ _ _ _ _ (by decide), far_c _ _ _ _ _ (by decide), far_c _ _ _ _ _ (by decide)]; exact World.cell?_setCell_same _ _ _ h.c2
  · rw [far_c _ _ _ _ _ (by decide), far_c _ _ _ _ _ (by decide)]; exact World.cell?_setCell_same _ _ _ (by rw [far_c _ _ _ _ _ (by decide)]; exact h.c3)
  · rw [far_c _ _ _ _ _ (by decide)]; exact World.cell?_setCell_same _ _ _ (by rw [far_c _ _ _ _ _ (by decide), far_c _ _ _ _ _ (by decide)]; exact h.c4)
  · exact World.cell?_setCell_same _ _ _ (by rw [far_c _ _ _ _ _ (by decide), far_c _ _ _ _ _ (by decide), far_c _ _ _ _ _ (by decide)]; exact h.c5)
theorem Six.far {g p : Nat} {v0 v1 v2 v3 v4 v5 : Value} {w : World} (h : Six g v0 v1 v2 v3 v4 v5 w) (hp : p ≠ g) (k : Nat) (x : Value) : Six g v0 v1 v2 v3 v4 v5 (w.setCell ⟨p, k, none⟩ x) := by
  have e : ∀ j, (w.setCell ⟨p, k, none⟩ x).cell? ⟨g, j, none⟩ = w.cell? ⟨g, j, none⟩ := fun j => World.cell?_setCell_far _ _ _ _ hp
  exact ⟨(e 0).trans h.c0, (e 1).trans h.c1, (e 2).trans h.c2, (e 3).trans h.c3, (e 4).trans h.c4, (e 5).trans h.c5, fun k => by simp [h.f k]⟩
def BaseP (W : World) (i t : Int) (c : Cfg) (e : Ending) (w' : World) : Prop :=
  ∃ s : S4, e = .returned (.agg #[.int .i64 i, .int .i64 t, .slice s.A0 s.n0 s.c0, .slice s.A1 s.n1 s.c1, .slice s.A2 s.n2 s.c2, .slice s.A3 s.n3 s.c3]) ∧ CfgOwn w' W.heap.size s c ∧ Ok W w'
set_option maxRecDepth 100000 in
set_option maxHeartbeats 4000000 in
theorem copyBase_f (i t : Int) (s : S4) (c : Cfg) (W : World) (h : CfgAt W s c) (hl : CfgLe c) : Calls Try.prog 67 #[.agg #[.int .i64 i, .int .i64 t, .slice s.A0 s.n0 s.c0, .slice s.A1 s.n1 s.c1, .slice s.A2 s.n2 s.c2, .slice s.A3 s.n3 s.c3]] W (BaseP W i t c) := by
  have HC := Lib.hid h
  clear h
  have HA : Hid (Six W.heap.size (.int .i64 i) (.int .i64 t) (.slice s.A0 s.n0 s.c0) (.slice s.A1 s.n1 s.c1) (.slice s.A2 s.n2 s.c2) (.slice s.A3 s.n3 s.c3) ((W.alloc (.cells #[.int .i64 i, .int .i64 t, .slice s.A0 s.n0 s.c0, .slice s.A1 s.n1 s.c1, .slice s.A2 s.n2 s.c2, .slice s.A3 s.n3 s.c3] 27)).alloc (.cells #[.int .i64 0, .int .i64 0, .slice none 0 0, .slice none 0 0, .slice none 0 0, .slice none 0 0] 27))) := Lib.hid ((Six.new _ _ _ _ _ _ _ _).ok ((Ok.refl _).alloc _))
  have HB : Hid (Six (W.heap.size + 1) (.int .i64 0) (.int .i64 0) (.slice none 0 0) (.slice none 0 0) (.slice none 0 0) (.slice none 0 0) ((W.alloc (.cells #[.int .i64 i, .int .i64 t, .slice s.A0 s.n0 s.c0, .slice s.A1 s.n1 s.c1, .slice s.A2 s.n2 s.c2, .slice s.A3 s.n3 s.c3] 27)).alloc (.cells #[.int .i64 0, .int .i64 0, .slice none 0 0, .slice none 0 0, .slice none 0 0, .slice none 0 0] 27))) := Lib.hid (by have := Six.new (W.alloc (.cells #[.int .i64 i, .int .i64 t, .slice s.A0 s.n0 s.c0, .slice s.A1 s.n1 s.c1, .slice s.A2 s.n2 s.c2, .slice s.A3 s.n3 s.c3] 27)) (.int .i64 0) (.int .i64 0) (.slice none 0 0) (.slice none 0 0) (.slice none 0 0) (.slice none 0 0) 27; rwa [World.size_alloc] at this)
  have HO : Hid (Ok W ((W.alloc (.cells #[.int .i64 i, .int .i64 t, .slice s.A0 s.n0 s.c0, .slice s.A1 s.n1 s.c1, .slice s.A2 s.n2 s.c2, .slice s.A3 s.n3 s.c3] 27)).alloc (.cells #[.int .i64 0, .int .i64 0, .slice none 0 0, .slice none 0 0, .slice none 0 0, .slice none 0 0] 27))) := Lib.hid (((Ok.refl W).alloc _).alloc _)
  have HZ : Hid (W.heap.size + 2 ≤ ((W.alloc (.cells #[.int .i64 i, .int .i64 t, .slice s.A0 s.n0 s.c0, .slice s.A1 s.n1 s.c1, .slice s.A2 s.n2 s.c2, .slice s.A3 s.n3 s.c3] 27)).alloc (.cells #[.int .i64 0, .int .i64 0, .slice none 0 0, .slice none 0 0, .slice none 0 0, .slice none 0 0] 27)).heap.size) := Lib.hid (by rw [World.size_alloc, World.size_alloc]; omega)
  go_enter Try.func67, Try.ntmps67
  go_upto_region 1 with fail
  rename_i K0 hK0
  have HK0 := Lib.hid hK0
  clear hK0
  generalize ((W.alloc (.cells #[.int .i64 i, .int .i64 t, .slice s.A0 s.n0 s.c0, .slice s.A1 s.n1 s.c1, .slice s.A2 s.n2 s.c2, .slice s.A3 s.n3 s.c3] 27)).alloc (.cells #[.int .i64 0, .int .i64 0, .slice none 0 0, .slice none 0 0, .slice none 0 0, .slice none 0 0] 27)) = w1 at *
  obtain ⟨g, hg⟩ : ∃ g, W.heap.size = g := ⟨_, rfl⟩
  have HG := Lib.hid hg
  rw [hg] at HA HB HZ ⊢
  clear hg
  have c2 := HA.out.c2
  have c3 := HA.out.c3
  have c4 := HA.out.c4
  have c5 := HA.out.c5
  have hcc := copyConfig_f s c w1 (HC.out.ok HO.out) hl
  go_wp2_with fail
  refine hcc.mono ?_
  clear hcc c2 c3 c4 c5
  rintro _ w2 ⟨q, rfl, hq, ok⟩
  have HQ := Lib.hid hq
  have HA2 := Lib.hid (HA.out.ok ok)
  have HB2 := Lib.hid (HB.out.ok ok)
  have HO2 := Lib.hid (HO.out.trans ok)
  clear hq ok HA HB HO
  have c2 := HA2.out.c2
  have c3 := HA2.out.c3
  have c4 := HA2.out.c4
  have c5 := HA2.out.c5
  have f2 := HA2.out.f 2
  have f3 := HA2.out.f 3
  have f4 := HA2.out.f 4
  have f5 := HA2.out.f 5
  go_wp2_with fail
  refine HK0.out _ _ ?_
  clear HK0 c2 c3 c4 c5 f2 f3 f4 f5
  have HA3 := Lib.hid (HA2.out.st (.slice q.A0 q.n0 q.c0) (.slice q.A1 q.n1 q.c1) (.slice q.A2 q.n2 q.c2) (.slice q.A3 q.n3 q.c3))
  have HB3 : Hid (Six (g + 1) (.int .i64 0) (.int .i64 0) (.slice none 0 0) (.slice none 0 0) (.slice none 0 0) (.slice none 0 0) ((((w2.setCell ⟨g, 2, none⟩ (.slice q.A0 q.n0 q.c0)).setCell ⟨g, 3, none⟩ (.slice q.A1 q.n1 q.c1)).setCell ⟨g, 4, none⟩ (.slice q.A2 q.n2 q.c2)).setCell ⟨g, 5, none⟩ (.slice q.A3 q.n3 q.c3))) := Lib.hid (((HB2.out.far (by omega) _ _).far (by omega) _ _).far (by omega) _ _ |>.far (by omega) _ _)
  have HQ3 : Hid (CfgOwn ((((w2.setCell ⟨g, 2, none⟩ (.slice q.A0 q.n0 q.c0)).setCell ⟨g, 3, none⟩ (.slice q.A1 q.n1 q.c1)).setCell ⟨g, 4, none⟩ (.slice q.A2 q.n2 q.c2)).setCell ⟨g, 5, none⟩ (.slice q.A3 q.n3 q.c3)) w1.heap.size q c) := Lib.hid (by
    have := HZ.out
    iterate 4 refine CfgOwn.set ?_ _ _ _ (by omega)
    exact HQ.out)
  have HO3 : Hid (Below W.heap.size W ((((w2.setCell ⟨g, 2, none⟩ (.slice q.A0 q.n0 q.c0)).setCell ⟨g, 3, none⟩ (.slice q.A1 q.n1 q.c1)).setCell ⟨g, 4, none⟩ (.slice q.A2 q.n2 q.c2)).setCell ⟨g, 5, none⟩ (.slice q.A3 q.n3 q.c3))) := Lib.hid (by
    have hg1 : W.heap.size ≤ g := Nat.le_of_eq HG.out
    iterate 4 refine Below.setCell ?_ hg1 _
    exact HO2.out)
  clear HA2 HB2 HQ HO2
  generalize ((((w2.setCell ⟨g, 2, none⟩ (.slice q.A0 q.n0 q.c0)).setCell ⟨g, 3, none⟩ (.slice q.A1 q.n1 q.c1)).setCell ⟨g, 4, none⟩ (.slice q.A2 q.n2 q.c2)).setCell ⟨g, 5, none⟩ (.slice q.A3 q.n3 q.c3)) = w3 at *
  have c0 := HA3.out.c0
  have b0 := HB3.out.c0
  have h0 := HB3.out.f 0
  have c1 := HA3.out.c1
  have b1 := HB3.out.c1
  have h1 := HB3.out.f 1
  have c2 := HA3.out.c2
  have b2 := HB3.out.c2
  have h2 := HB3.out.f 2
  have c3 := HA3.out.c3
  have b3 := HB3.out.c3
  have h3 := HB3.out.f 3
  have c4 := HA3.out.c4
  have b4 := HB3.out.c4
  have h4 := HB3.out.f 4
  have c5 := HA3.out.c5
  have b5 := HB3.out.c5
  have h5 := HB3.out.f 5
  go_wp2_with fail
  refine bodyPost_ret (v := .agg #[.int .i64 i, .int .i64 t, .slice q.A0 q.n0 q.c0, .slice q.A1 q.n1 q.c1, .slice q.A2 q.n2 q.c2, .slice q.A3 q.n3 q.c3]) (by simp [results, Try.results67, go_sem, b0, b1, b2, b3, b4, b5]; try rfl) rfl ?_
  refine ⟨q, rfl, ?_, ?_⟩
  · have := HZ.out
    have := HG.out
    refine CfgOwn.lower (base := w1.heap.size) ?_ (by omega)
    iterate 6 refine CfgOwn.set ?_ _ _ _ (by omega)
    exact HQ3.out
  · have hg2 : W.heap.size ≤ g + 1 := by have := HG.out; omega
    show Below W.heap.size W _
    iterate 6 refine Below.setCell ?_ hg2 _
    exact HO3.out
end Go.Proofs.Ytebhcadolnjplaa
