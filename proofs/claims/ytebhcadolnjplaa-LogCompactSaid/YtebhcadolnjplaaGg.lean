/- Two entries compared; an entry told. -/
import Derived.Test.YtebhcadolnjplaaGf
namespace Go.Proofs.Ytebhcadolnjplaa
open Go.RowKit

set_option maxRecDepth 100000 in
set_option maxHeartbeats 4000000 in
theorem sameEntry_f (S S' : Nat → Prop) (r q : ER) (e : En) (W : World) (ha : EnAt S W r e) (hb : EnAt S' W q e) :
    Calls Try.prog 27 #[r.val, q.val] W (Ret W (.bool true)) := by
  have HA := Lib.hid ha
  have HB := Lib.hid hb
  have d0 : (r.term == q.term) = true := beq_iff_eq.2 (ha.term.trans hb.term.symm)
  have d1 : (r.kind == q.kind) = true := beq_iff_eq.2 (ha.kind.trans hb.kind.symm)
  clear ha hb
  unfold ER.val
  have H1 : Hid (Sev W.heap.size (.int .i64 r.term) (.int .u8 r.kind) (.slice r.A r.n r.c) (.slice r.s.A0 r.s.n0 r.s.c0) (.slice r.s.A1 r.s.n1 r.s.c1) (.slice r.s.A2 r.s.n2 r.s.c2) (.slice r.s.A3 r.s.n3 r.s.c3) ((W.alloc (.cells #[.int .i64 r.term, .int .u8 r.kind, .slice r.A r.n r.c, .slice r.s.A0 r.s.n0 r.s.c0, .slice r.s.A1 r.s.n1 r.s.c1, .slice r.s.A2 r.s.n2 r.s.c2, .slice r.s.A3 r.s.n3 r.s.c3] 44)).alloc (.cells #[.int .i64 q.term, .int .u8 q.kind, .slice q.A q.n q.c, .slice q.s.A0 q.s.n0 q.s.c0, .slice q.s.A1 q.s.n1 q.s.c1, .slice q.s.A2 q.s.n2 q.s.c2, .slice q.s.A3 q.s.n3 q.s.c3] 44))) := Lib.hid ((Sev.new _ _ _ _ _ _ _ _ _).ok ((Ok.refl _).alloc _))
  have H2 : Hid (Sev (W.heap.size + 1) (.int .i64 q.term) (.int .u8 q.kind) (.slice q.A q.n q.c) (.slice q.s.A0 q.s.n0 q.s.c0) (.slice q.s.A1 q.s.n1 q.s.c1) (.slice q.s.A2 q.s.n2 q.s.c2) (.slice q.s.A3 q.s.n3 q.s.c3) ((W.alloc (.cells #[.int .i64 r.term, .int .u8 r.kind, .slice r.A r.n r.c, .slice r.s.A0 r.s.n0 r.s.c0, .slice r.s.A1 r.s.n1 r.s.c1, .slice r.s.A2 r.s.n2 r.s.c2, .slice r.s.A3 r.s.n3 r.s.c3] 44)).alloc (.cells #[.int .i64 q.term, .int .u8 q.kind, .slice q.A q.n q.c, .slice q.s.A0 q.s.n0 q.s.c0, .slice q.s.A1 q.s.n1 q.s.c1, .slice q.s.A2 q.s.n2 q.s.c2, .slice q.s.A3 q.s.n3 q.s.c3] 44))) := Lib.hid (by have := Sev.new (W.alloc (.cells #[.int .i64 r.term, .int .u8 r.kind, .slice r.A r.n r.c, .slice r.s.A0 r.s.n0 r.s.c0, .slice r.s.A1 r.s.n1 r.s.c1, .slice r.s.A2 r.s.n2 r.s.c2, .slice r.s.A3 r.s.n3 r.s.c3] 44)) (.int .i64 q.term) (.int .u8 q.kind) (.slice q.A q.n q.c) (.slice q.s.A0 q.s.n0 q.s.c0) (.slice q.s.A1 q.s.n1 q.s.c1) (.slice q.s.A2 q.s.n2 q.s.c2) (.slice q.s.A3 q.s.n3 q.s.c3) 44; rwa [World.size_alloc] at this)
  have HO : Hid (Ok W ((W.alloc (.cells #[.int .i64 r.term, .int .u8 r.kind, .slice r.A r.n r.c, .slice r.s.A0 r.s.n0 r.s.c0, .slice r.s.A1 r.s.n1 r.s.c1, .slice r.s.A2 r.s.n2 r.s.c2, .slice r.s.A3 r.s.n3 r.s.c3] 44)).alloc (.cells #[.int .i64 q.term, .int .u8 q.kind, .slice q.A q.n q.c, .slice q.s.A0 q.s.n0 q.s.c0, .slice q.s.A1 q.s.n1 q.s.c1, .slice q.s.A2 q.s.n2 q.s.c2, .slice q.s.A3 q.s.n3 q.s.c3] 44))) := Lib.hid (((Ok.refl W).alloc _).alloc _)
  go_enter Try.func27, Try.ntmps27
  go_wp2_with fail
  generalize ((W.alloc (.cells #[.int .i64 r.term, .int .u8 r.kind, .slice r.A r.n r.c, .slice r.s.A0 r.s.n0 r.s.c0, .slice r.s.A1 r.s.n1 r.s.c1, .slice r.s.A2 r.s.n2 r.s.c2, .slice r.s.A3 r.s.n3 r.s.c3] 44)).alloc (.cells #[.int .i64 q.term, .int .u8 q.kind, .slice q.A q.n q.c, .slice q.s.A0 q.s.n0 q.s.c0, .slice q.s.A1 q.s.n1 q.s.c1, .slice q.s.A2 q.s.n2 q.s.c2, .slice q.s.A3 q.s.n3 q.s.c3] 44)) = w0 at *
  refine (sameBytes_v _ _ e.cmd w0 (HO.out.bytes HA.out.cmd) (HO.out.bytes HB.out.cmd)).mono ?_
  rintro _ w1 ⟨rfl, ok⟩
  have HO1 : Hid (Ok w0 w1) := Lib.hid ok
  clear ok
  have a3 := HO1.out.cell H1.out.c3
  have a4 := HO1.out.cell H1.out.c4
  have a5 := HO1.out.cell H1.out.c5
  have a6 := HO1.out.cell H1.out.c6
  have b3 := HO1.out.cell H2.out.c3
  have b4 := HO1.out.cell H2.out.c4
  have b5 := HO1.out.cell H2.out.c5
  have b6 := HO1.out.cell H2.out.c6
  go_wp2_with fail
  clear a3 a4 a5 a6 b3 b4 b5 b6
  refine (sameConfig_f _ _ e.cfg w1 (HA.out.cfg.ok (HO.out.trans HO1.out)) (HB.out.cfg.ok (HO.out.trans HO1.out))).mono ?_
  rintro _ w2 ⟨rfl, ok⟩
  go_wp2_with fail
  go_ret
  exact ⟨rfl, (HO.out.trans HO1.out).trans ok⟩

theorem EnAt.set1 {S : Nat → Prop} {w : World} {r : ER} {e : En} {z : Nat} (h : EnAt S w r e) (hz : S z) (k : Nat) (x : Value) : EnAt S (w.setCell ⟨z, k, none⟩ x) r e :=
  h.kp (Kp.set (Kp.refl S w) (.inr hz) k x) (fun _ h => h)
/-- What At answers. -/
def AtP (W : World) (e : En) (b : Bool) (x : Ending) (w' : World) : Prop :=
  ∃ r : ER, x = .returned (.tuple #[r.val, .bool b]) ∧ (∀ S : Nat → Prop, (∀ b, S b → b < W.heap.size) → EnAt S w' r e) ∧ Ok W w'
def atB (L : LG) (x : Int) : En := if hasB L x then enA L.es (x - L.i - 1).toNat else en0
set_option maxRecDepth 100000 in
set_option maxHeartbeats 4000000 in
theorem atM_f (S : Nat → Prop) (L : LG) (x : Int) (W : World) (h : LogAt S L W) : Calls Try.prog 14 #[.pointer (some ⟨L.p, 0, none⟩), .int .i64 x] W (AtP W (atB L x) (hasB L x)) := by
  have HZ : Hid (Sev W.heap.size (.int .i64 0) (.int .u8 0) (.slice none 0 0) (.slice none 0 0) (.slice none 0 0) (.slice none 0 0) (.slice none 0 0) (W.alloc (.cells #[.int .i64 0, .int .u8 0, .slice none 0 0, .slice none 0 0, .slice none 0 0, .slice none 0 0, .slice none 0 0] 44))) := Lib.hid (Sev.new _ _ _ _ _ _ _ _ _)
  have HO : Hid (Ok W (W.alloc (.cells #[.int .i64 0, .int .u8 0, .slice none 0 0, .slice none 0 0, .slice none 0 0, .slice none 0 0, .slice none 0 0] 44))) := Lib.hid ((Ok.refl W).alloc _)
  have HN : Hid (∀ w1, Ok W w1 → _) := Lib.hid fun w1 (k : Ok W w1) => none_f L.p w1 (k.cell h.box.c8)
  have HH : Hid (∀ w1, Ok W w1 → _) := Lib.hid fun w1 (k : Ok W w1) => has_f S L x w1 (h.ok k)
  have HX : Hid (hasB L x = true → ∃ (g : Nat × Nat) (r : ER), EnAt S W r (atB L x) ∧ EnLe (atB L x) ∧ (∀ w1, Ok W w1 → Calls Try.prog 61 #[.pointer (some ⟨L.p, 0, none⟩), .int .i64 x] w1 (Ret w1 (.pointer (some ⟨g.1, g.2, none⟩)))) ∧ ∀ k, k < 7 → W.cell? ⟨g.1, g.2 + k, none⟩ = r.cells[k]?) := Lib.hid fun hb => by
    obtain ⟨j, hj, e, ej⟩ := has_out L x hb
    obtain ⟨g, r, hg, hr, hc⟩ := h.at j hj
    have ea : atB L x = enA L.es j := by simp only [atB, hb, ej, if_true]
    exact ⟨(g, j * 7), r, by rw [ea]; exact hr, by rw [ea]; exact h.sm j hj, fun w1 k => by rw [e]; exact at_f S L j w1 (h.ok k) hj g hg, hc⟩
  have HE : Hid (hasB L x = false → atB L x = en0) := Lib.hid fun hb => by simp [atB, hb]
  clear h
  generalize atB L x = e at *
  go_enter Try.func14, Try.ntmps14
  go_wp2_with fail
  obtain ⟨z, hz⟩ : ∃ z, z = W.heap.size := ⟨_, rfl⟩
  have HS := Lib.hid hz
  rw [← hz] at HZ ⊢
  clear hz
  generalize (W.alloc (.cells #[.int .i64 0, .int .u8 0, .slice none 0 0, .slice none 0 0, .slice none 0 0, .slice none 0 0, .slice none 0 0] 44)) = w0 at *
  refine (HN.out w0 HO.out).mono ?_
  rintro _ w1 ⟨rfl, o1⟩
  have HO1 : Hid (Ok w0 w1) := Lib.hid o1
  have hh := HH.out w1 (HO.out.trans o1)
  clear HH HN o1
  go_wp2_with fail
  cases hb : hasB L x with
  | false =>
    have he := HE.out hb
    subst he
    rw [hb] at hh
    have HBQ := Lib.hid hb
    clear HX HE hb
    refine hh.mono ?_
    rintro _ w2 ⟨rfl, o2⟩
    have HZ2 := Lib.hid (HZ.out.ok (HO1.out.trans o2))
    have HO2 : Hid (Ok W w2) := Lib.hid ((HO.out.trans HO1.out).trans o2)
    clear o2 HZ HO HO1
    have z0 := HZ2.out.c0
    have z1 := HZ2.out.c1
    have z2 := HZ2.out.c2
    have z3 := HZ2.out.c3
    have z4 := HZ2.out.c4
    have z5 := HZ2.out.c5
    have z6 := HZ2.out.c6
    have f0 := HZ2.out.f 0
    have f1 := HZ2.out.f 1
    have f2 := HZ2.out.f 2
    have f3 := HZ2.out.f 3
    have f4 := HZ2.out.f 4
    have f5 := HZ2.out.f 5
    have f6 := HZ2.out.f 6
    go_wp2_with fail
    refine bodyPost_ret (v := .tuple #[er0.val, .bool false]) (by simp [results, Try.results14, go_sem, z0, z1, z2, z3, z4, z5, z6, er0, ER.val]; try rfl) rfl ?_
    clear z0 z1 z2 z3 z4 z5 z6 f0 f1 f2 f3 f4 f5 f6
    refine ⟨er0, by rw [HBQ.out], fun S' _ => EnAt.zero _ _, ?_⟩
    have hg : W.heap.size ≤ z := Nat.le_of_eq HS.out.symm
    show Below W.heap.size W _
    repeat refine Below.setCell ?_ hg _
    exact HO2.out
  | true =>
    obtain ⟨g, r, hr, hl, ha, hc⟩ := HX.out hb
    have HR := Lib.hid hr
    have HL := Lib.hid hl
    have HA := Lib.hid ha
    have HC := Lib.hid hc
    rw [hb] at hh
    have HBQ := Lib.hid hb
    clear HX HE hb hr hl ha hc
    refine hh.mono ?_
    rintro _ w2 ⟨rfl, o2⟩
    have ha := HA.out w2 ((HO.out.trans HO1.out).trans o2)
    have HO2 : Hid (Ok w0 w2) := Lib.hid (HO1.out.trans o2)
    clear o2 HA HO1
    go_wp2_with fail
    refine ha.mono ?_
    rintro _ w3 ⟨rfl, o3⟩
    have HO3 : Hid (Ok w0 w3) := Lib.hid (HO2.out.trans o3)
    clear o3 HO2
    have q0 : w3.cell? ⟨g.1, g.2, none⟩ = _ := (HO.out.trans HO3.out).cell (HC.out 0 (by decide))
    have q1 : w3.cell? ⟨g.1, g.2 + 1, none⟩ = _ := (HO.out.trans HO3.out).cell (HC.out 1 (by decide))
    have q2 : w3.cell? ⟨g.1, g.2 + 2, none⟩ = _ := (HO.out.trans HO3.out).cell (HC.out 2 (by decide))
    have q3 : w3.cell? ⟨g.1, g.2 + 3, none⟩ = _ := (HO.out.trans HO3.out).cell (HC.out 3 (by decide))
    have q4 : w3.cell? ⟨g.1, g.2 + 4, none⟩ = _ := (HO.out.trans HO3.out).cell (HC.out 4 (by decide))
    have q5 : w3.cell? ⟨g.1, g.2 + 5, none⟩ = _ := (HO.out.trans HO3.out).cell (HC.out 5 (by decide))
    have q6 : w3.cell? ⟨g.1, g.2 + 6, none⟩ = _ := (HO.out.trans HO3.out).cell (HC.out 6 (by decide))
    have hcp := copyEntry_f S r e w3 (HR.out.ok (HO.out.trans HO3.out)) HL.out
    unfold ER.val at hcp
    go_wp2_with fail
    clear q0 q1 q2 q3 q4 q5 q6
    refine hcp.mono ?_
    rintro _ w4 ⟨u, rfl, hu, o4⟩
    unfold ER.val
    have HU := Lib.hid hu
    have HZ2 := Lib.hid (HZ.out.ok (HO3.out.trans o4))
    have HO4 : Hid (Ok W w4) := Lib.hid ((HO.out.trans HO3.out).trans o4)
    have HB : Hid (W.heap.size + 1 ≤ w3.heap.size) := Lib.hid (by have := World.block_lt_of_cell? _ _ (HZ.out.ok HO3.out).c0; have := HS.out; dsimp only at *; omega)
    clear o4 HZ HO HO3 hu hcp
    have z0 := HZ2.out.c0
    have z1 := HZ2.out.c1
    have z2 := HZ2.out.c2
    have z3 := HZ2.out.c3
    have z4 := HZ2.out.c4
    have z5 := HZ2.out.c5
    have z6 := HZ2.out.c6
    have f0 := HZ2.out.f 0
    have f1 := HZ2.out.f 1
    have f2 := HZ2.out.f 2
    have f3 := HZ2.out.f 3
    have f4 := HZ2.out.f 4
    have f5 := HZ2.out.f 5
    have f6 := HZ2.out.f 6
    go_wp2_with fail
    refine bodyPost_ret (v := .tuple #[u.val, .bool true]) (by simp [results, Try.results14, go_sem, z0, z1, z2, z3, z4, z5, z6, ER.val]; try rfl) rfl ?_
    clear z0 z1 z2 z3 z4 z5 z6 f0 f1 f2 f3 f4 f5 f6
    have hg : W.heap.size ≤ z := Nat.le_of_eq HS.out.symm
    refine ⟨u, by rw [HBQ.out], fun S' hS => ?_, ?_⟩
    · have h1 := HU.out (fun b => b < w3.heap.size) (fun _ h => h)
      have hz : z < w3.heap.size := by have := HB.out; have := HS.out; omega
      refine EnAt.more (S := fun b => b < w3.heap.size) ?_ fun b hb => .inl ?_
      · (iterate 7 refine EnAt.set1 (S := fun b => b < w3.heap.size) ?_ hz _ _)
        exact h1
      · have := hS b hb
        have := HB.out
        show b < w3.heap.size
        omega
    · show Below W.heap.size W _
      repeat refine Below.setCell ?_ hg _
      exact HO4.out
end Go.Proofs.Ytebhcadolnjplaa
