/- Two images that hold the same are told to be so; what the ferry's small functions tell. -/
import Derived.Test.YtebhcadolnjplaaGe
namespace Go.Proofs.Ytebhcadolnjplaa
open Go.RowKit

/-- Four cells of a block. -/
structure Fq (g : Nat) (v0 v1 v2 v3 : Value) (w : World) : Prop where
  c0 : w.cell? ⟨g, 0, none⟩ = some v0
  c1 : w.cell? ⟨g, 1, none⟩ = some v1
  c2 : w.cell? ⟨g, 2, none⟩ = some v2
  c3 : w.cell? ⟨g, 3, none⟩ = some v3
theorem Fq.ok {g : Nat} {v0 v1 v2 v3 : Value} {w w' : World} (h : Fq g v0 v1 v2 v3 w) (k : Ok w w') : Fq g v0 v1 v2 v3 w' := ⟨k.cell h.c0, k.cell h.c1, k.cell h.c2, k.cell h.c3⟩
theorem Fq.new (w : World) (v0 v1 v2 v3 : Value) (t : TypeId) : Fq w.heap.size v0 v1 v2 v3 (w.alloc (.cells #[v0, v1, v2, v3] t)) :=
  ⟨box_cell _ _ _ _ _ rfl, box_cell _ _ _ _ _ rfl, box_cell _ _ _ _ _ rfl, box_cell _ _ _ _ _ rfl⟩

set_option maxRecDepth 100000 in
set_option maxHeartbeats 4000000 in
theorem sameConfig_f (s r : S4) (c : Cfg) (W : World) (ha : CfgAt W s c) (hb : CfgAt W r c) :
    Calls Try.prog 17 #[.agg #[.slice s.A0 s.n0 s.c0, .slice s.A1 s.n1 s.c1, .slice s.A2 s.n2 s.c2, .slice s.A3 s.n3 s.c3], .agg #[.slice r.A0 r.n0 r.c0, .slice r.A1 r.n1 r.c1, .slice r.A2 r.n2 r.c2, .slice r.A3 r.n3 r.c3]] W fun e w' => e = .returned (.bool true) ∧ Ok W w' := by
  have HA := Lib.hid ha
  have HB := Lib.hid hb
  clear ha hb
  have H1 : Hid (Fq W.heap.size (.slice s.A0 s.n0 s.c0) (.slice s.A1 s.n1 s.c1) (.slice s.A2 s.n2 s.c2) (.slice s.A3 s.n3 s.c3) ((W.alloc (.cells #[.slice s.A0 s.n0 s.c0, .slice s.A1 s.n1 s.c1, .slice s.A2 s.n2 s.c2, .slice s.A3 s.n3 s.c3] 25)).alloc (.cells #[.slice r.A0 r.n0 r.c0, .slice r.A1 r.n1 r.c1, .slice r.A2 r.n2 r.c2, .slice r.A3 r.n3 r.c3] 25))) := Lib.hid ((Fq.new _ _ _ _ _ _).ok ((Ok.refl _).alloc _))
  have H2 : Hid (Fq (W.heap.size + 1) (.slice r.A0 r.n0 r.c0) (.slice r.A1 r.n1 r.c1) (.slice r.A2 r.n2 r.c2) (.slice r.A3 r.n3 r.c3) ((W.alloc (.cells #[.slice s.A0 s.n0 s.c0, .slice s.A1 s.n1 s.c1, .slice s.A2 s.n2 s.c2, .slice s.A3 s.n3 s.c3] 25)).alloc (.cells #[.slice r.A0 r.n0 r.c0, .slice r.A1 r.n1 r.c1, .slice r.A2 r.n2 r.c2, .slice r.A3 r.n3 r.c3] 25))) := Lib.hid (by have := Fq.new (W.alloc (.cells #[.slice s.A0 s.n0 s.c0, .slice s.A1 s.n1 s.c1, .slice s.A2 s.n2 s.c2, .slice s.A3 s.n3 s.c3] 25)) (.slice r.A0 r.n0 r.c0) (.slice r.A1 r.n1 r.c1) (.slice r.A2 r.n2 r.c2) (.slice r.A3 r.n3 r.c3) 25; rwa [World.size_alloc] at this)
  have HO : Hid (Ok W ((W.alloc (.cells #[.slice s.A0 s.n0 s.c0, .slice s.A1 s.n1 s.c1, .slice s.A2 s.n2 s.c2, .slice s.A3 s.n3 s.c3] 25)).alloc (.cells #[.slice r.A0 r.n0 r.c0, .slice r.A1 r.n1 r.c1, .slice r.A2 r.n2 r.c2, .slice r.A3 r.n3 r.c3] 25))) := Lib.hid (((Ok.refl W).alloc _).alloc _)
  go_enter Try.func17, Try.ntmps17
  go_wp2_with fail
  generalize ((W.alloc (.cells #[.slice s.A0 s.n0 s.c0, .slice s.A1 s.n1 s.c1, .slice s.A2 s.n2 s.c2, .slice s.A3 s.n3 s.c3] 25)).alloc (.cells #[.slice r.A0 r.n0 r.c0, .slice r.A1 r.n1 r.c1, .slice r.A2 r.n2 r.c2, .slice r.A3 r.n3 r.c3] 25)) = w0 at *
  refine (sameInts_f _ _ _ _ _ _ c.vs w0 (HO.out.ints HA.out.h0) (HO.out.ints HB.out.h0)).mono ?_
  rintro _ w1 ⟨rfl, ok⟩
  have HO1 : Hid (Ok w0 w1) := Lib.hid ok
  clear ok
  have a1 := HO1.out.cell H1.out.c1
  have b1 := HO1.out.cell H2.out.c1
  go_wp2_with fail
  clear a1 b1
  refine (sameInts_f _ _ _ _ _ _ c.os w1 ((HO.out.trans HO1.out).ints HA.out.h1) ((HO.out.trans HO1.out).ints HB.out.h1)).mono ?_
  rintro _ w2 ⟨rfl, ok⟩
  have HO2 : Hid (Ok w0 w2) := Lib.hid (HO1.out.trans ok)
  clear ok
  have a2 := HO2.out.cell H1.out.c2
  have b2 := HO2.out.cell H2.out.c2
  go_wp2_with fail
  clear a2 b2
  refine (sameInts_f _ _ _ _ _ _ c.ls w2 ((HO.out.trans HO2.out).ints HA.out.h2) ((HO.out.trans HO2.out).ints HB.out.h2)).mono ?_
  rintro _ w3 ⟨rfl, ok⟩
  have HO3 : Hid (Ok w0 w3) := Lib.hid (HO2.out.trans ok)
  clear ok
  have a3 := HO3.out.cell H1.out.c3
  have b3 := HO3.out.cell H2.out.c3
  go_wp2_with fail
  clear a3 b3
  refine (sameInts_f _ _ _ _ _ _ c.ws w3 ((HO.out.trans HO3.out).ints HA.out.h3) ((HO.out.trans HO3.out).ints HB.out.h3)).mono ?_
  rintro _ w4 ⟨rfl, ok⟩
  have HO4 : Hid (Ok w0 w4) := Lib.hid (HO3.out.trans ok)
  clear ok
  go_wp2_with fail
  go_ret
  exact ⟨rfl, HO.out.trans HO4.out⟩

set_option maxRecDepth 100000 in
set_option maxHeartbeats 4000000 in
theorem sameBase_f (i t : Int) (s r : S4) (c : Cfg) (W : World) (ha : CfgAt W s c) (hb : CfgAt W r c) :
    Calls Try.prog 22 #[.agg #[.int .i64 i, .int .i64 t, .slice s.A0 s.n0 s.c0, .slice s.A1 s.n1 s.c1, .slice s.A2 s.n2 s.c2, .slice s.A3 s.n3 s.c3], .agg #[.int .i64 i, .int .i64 t, .slice r.A0 r.n0 r.c0, .slice r.A1 r.n1 r.c1, .slice r.A2 r.n2 r.c2, .slice r.A3 r.n3 r.c3]] W fun e w' => e = .returned (.bool true) ∧ Ok W w' := by
  have HA := Lib.hid ha
  have HB := Lib.hid hb
  clear ha hb
  have HO : Hid (Ok W ((W.alloc (.cells #[.int .i64 i, .int .i64 t, .slice s.A0 s.n0 s.c0, .slice s.A1 s.n1 s.c1, .slice s.A2 s.n2 s.c2, .slice s.A3 s.n3 s.c3] 27)).alloc (.cells #[.int .i64 i, .int .i64 t, .slice r.A0 r.n0 r.c0, .slice r.A1 r.n1 r.c1, .slice r.A2 r.n2 r.c2, .slice r.A3 r.n3 r.c3] 27))) := Lib.hid (((Ok.refl W).alloc _).alloc _)
  have e1 : (i == i) = true := by simp
  have e2 : (t == t) = true := by simp
  go_enter Try.func22, Try.ntmps22
  go_wp2_with fail
  generalize ((W.alloc (.cells #[.int .i64 i, .int .i64 t, .slice s.A0 s.n0 s.c0, .slice s.A1 s.n1 s.c1, .slice s.A2 s.n2 s.c2, .slice s.A3 s.n3 s.c3] 27)).alloc (.cells #[.int .i64 i, .int .i64 t, .slice r.A0 r.n0 r.c0, .slice r.A1 r.n1 r.c1, .slice r.A2 r.n2 r.c2, .slice r.A3 r.n3 r.c3] 27)) = w0 at *
  refine (sameConfig_f s r c w0 (HA.out.ok HO.out) (HB.out.ok HO.out)).mono ?_
  rintro _ w1 ⟨rfl, ok⟩
  have HO1 : Hid (Ok w0 w1) := Lib.hid ok
  clear ok
  go_wp2_with fail
  go_ret
  exact ⟨rfl, HO.out.trans HO1.out⟩

set_option maxRecDepth 100000 in
theorem configOf_f (s : S4) (c : Cfg) (W : World) (h : CfgAt W s c) :
    Calls Try.prog 54 #[.agg #[.slice s.A0 s.n0 s.c0, .slice s.A1 s.n1 s.c1, .slice s.A2 s.n2 s.c2, .slice s.A3 s.n3 s.c3]] W fun e w' => e = .returned (.int .i64 ((1 + c.vs.length + c.os.length + c.ls.length + c.ws.length : Nat) : Int)) ∧ Ok W w' := by
  have l0 : s.n0 = c.vs.length ∧ c.vs.length ≤ 17592186044416 := by obtain ⟨_, _, e, l⟩ := h.h0.form; simp only [Value.slice.injEq] at e; exact ⟨e.2.1, l⟩
  have l1 : s.n1 = c.os.length ∧ c.os.length ≤ 17592186044416 := by obtain ⟨_, _, e, l⟩ := h.h1.form; simp only [Value.slice.injEq] at e; exact ⟨e.2.1, l⟩
  have l2 : s.n2 = c.ls.length ∧ c.ls.length ≤ 17592186044416 := by obtain ⟨_, _, e, l⟩ := h.h2.form; simp only [Value.slice.injEq] at e; exact ⟨e.2.1, l⟩
  have l3 : s.n3 = c.ws.length ∧ c.ws.length ≤ 17592186044416 := by obtain ⟨_, _, e, l⟩ := h.h3.form; simp only [Value.slice.injEq] at e; exact ⟨e.2.1, l⟩
  obtain ⟨A0, n0, c0, A1, n1, c1, A2, n2, c2, A3, n3, c3⟩ := s
  simp only at l0 l1 l2 l3
  obtain ⟨rfl, l0⟩ := l0
  obtain ⟨rfl, l1⟩ := l1
  obtain ⟨rfl, l2⟩ := l2
  obtain ⟨rfl, l3⟩ := l3
  clear h
  generalize c.vs.length = n0 at *
  generalize c.os.length = n1 at *
  generalize c.ls.length = n2 at *
  generalize c.ws.length = n3 at *
  go_enter Try.func54, Try.ntmps54
  go_wp2_with fail
  go_ret
  exact ⟨by go_num, (Ok.refl W).alloc _⟩
end Go.Proofs.Ytebhcadolnjplaa
