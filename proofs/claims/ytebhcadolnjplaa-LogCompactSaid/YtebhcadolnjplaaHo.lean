/- Install of a log. -/
import Derived.Test.YtebhcadolnjplaaHn
namespace Go.Proofs.Ytebhcadolnjplaa
open Go.RowKit

def LG.bare (L : LG) : LG := { L with AE := none, cE := 0, es := [], AC := none, cC := 0, xs := [] }
def two0 (w : World) (p : Nat) : World := (w.setCell ⟨p, 6, none⟩ (.slice none 0 0)).setCell ⟨p, 7, none⟩ (.slice none 0 0)
theorem Bx.bare {L : LG} {w : World} (h : Bx L w) : Bx L.bare (two0 w L.p) := by
  refine ⟨?_, ?_, ?_, ?_, ?_, ?_, ?_, ?_, ?_, fun k => by unfold two0; simp only [World.frozen?_setCell]; exact h.f k⟩
  · show World.cell? (two0 _ _) ⟨L.p, 0, none⟩ = _; unfold two0; rw [far_c _ _ _ _ _ (by decide), far_c _ _ _ _ _ (by decide)]; exact h.c0
  · show World.cell? (two0 _ _) ⟨L.p, 1, none⟩ = _; unfold two0; rw [far_c _ _ _ _ _ (by decide), far_c _ _ _ _ _ (by decide)]; exact h.c1
  · show World.cell? (two0 _ _) ⟨L.p, 2, none⟩ = _; unfold two0; rw [far_c _ _ _ _ _ (by decide), far_c _ _ _ _ _ (by decide)]; exact h.c2
  · show World.cell? (two0 _ _) ⟨L.p, 3, none⟩ = _; unfold two0; rw [far_c _ _ _ _ _ (by decide), far_c _ _ _ _ _ (by decide)]; exact h.c3
  · show World.cell? (two0 _ _) ⟨L.p, 4, none⟩ = _; unfold two0; rw [far_c _ _ _ _ _ (by decide), far_c _ _ _ _ _ (by decide)]; exact h.c4
  · show World.cell? (two0 _ _) ⟨L.p, 5, none⟩ = _; unfold two0; rw [far_c _ _ _ _ _ (by decide), far_c _ _ _ _ _ (by decide)]; exact h.c5
  · show World.cell? (two0 _ _) ⟨L.p, 6, none⟩ = _; unfold two0; rw [far_c _ _ _ _ _ (by decide)]; exact World.cell?_setCell_same _ _ _ h.c6
  · show World.cell? (two0 _ _) ⟨L.p, 7, none⟩ = _; unfold two0; exact World.cell?_setCell_same _ _ _ (by rw [far_c _ _ _ _ _ (by decide)]; exact h.c7)
  · show World.cell? (two0 _ _) ⟨L.p, 8, none⟩ = _; unfold two0; rw [far_c _ _ _ _ _ (by decide), far_c _ _ _ _ _ (by decide)]; exact h.c8
theorem two0_kp (w : World) (p : Nat) : Kp (fun b => b = p) w (two0 w p) := ((Kp.refl (fun b => b = p) w).set (.inr rfl) 6 _).set (.inr rfl) 7 _
/-- What Install leaves. -/
structure Inst (L : LG) (x : Int) (n : Nat) (cf : Cfg) (w : World) (L' : LG) (w' : World) : Prop where
  box : Bx L' w'
  cfg : CfgAt w' L'.s cf
  p : L'.p = L.p
  i : L'.i = x
  n : L'.es.length = n
  kp : Kp (Ow L.p L.AE L.AC) w w'
def InstP (L : LG) (x : Int) (n : Nat) (cf : Cfg) (w : World) (e : Ending) (w' : World) : Prop := e = .returned (.bool true) ∧ ∃ L', Inst L x n cf w L' w'
set_option maxRecDepth 100000 in
set_option maxHeartbeats 4000000 in
theorem install_at (S : Nat → Prop) (L : LG) (c0' cf : Cfg) (m : Nat) (x t : Int) (s : S4) (w : World) (h : LogC (Sof S L) L c0' w) (hS : ∀ b, S b → b < w.heap.size) (hm : m < L.es.length) (hx : L.i + (m : Int) + 1 = x) (ht : (enA L.es m).term = t) (hc : CfgAt w s cf) (hle : CfgLe cf) :
    Calls Try.prog 20 #[.pointer (some ⟨L.p, 0, none⟩), .agg #[.int .i64 x, .int .i64 t, .slice s.A0 s.n0 s.c0, .slice s.A1 s.n1 s.c1, .slice s.A2 s.n2 s.c2, .slice s.A3 s.n3 s.c3]] w (InstP L x (L.es.length - (m + 1)) cf w) := by
  have HA : Hid (Six w.heap.size (.int .i64 x) (.int .i64 t) (.slice s.A0 s.n0 s.c0) (.slice s.A1 s.n1 s.c1) (.slice s.A2 s.n2 s.c2) (.slice s.A3 s.n3 s.c3) (w.alloc (.cells #[.int .i64 x, .int .i64 t, .slice s.A0 s.n0 s.c0, .slice s.A1 s.n1 s.c1, .slice s.A2 s.n2 s.c2, .slice s.A3 s.n3 s.c3] 27))) := Lib.hid (Six.new _ _ _ _ _ _ _ _)
  have HO : Hid (Ok w (w.alloc (.cells #[.int .i64 x, .int .i64 t, .slice s.A0 s.n0 s.c0, .slice s.A1 s.n1 s.c1, .slice s.A2 s.n2 s.c2, .slice s.A3 s.n3 s.c3] 27))) := Lib.hid ((Ok.refl w).alloc _)
  have HL := Lib.hid h
  have HC := Lib.hid hc
  have HLE := Lib.hid hle
  have HX := Lib.hid hx
  have d1 : decide (x ≤ L.i) = false := decide_eq_false (by omega)
  have HTI : Hid (∀ w1, Ok w w1 → Calls Try.prog 57 #[.pointer (some ⟨L.p, 0, none⟩), .int .i64 x, .int .i64 t] w1 (Ret w1 (.bool true))) := Lib.hid fun w1 k => by
    have := termIs_at (Sof S L) L m t w1 (h.log.ok k) hm
    rwa [decide_eq_true ht, hx] at this
  clear h hc hle hx
  go_enter Try.func20, Try.ntmps20
  go_upto_region 1 with fail
  generalize w.alloc (.cells #[.int .i64 x, .int .i64 t, .slice s.A0 s.n0 s.c0, .slice s.A1 s.n1 s.c1, .slice s.A2 s.n2 s.c2, .slice s.A3 s.n3 s.c3] 27) = w0 at *
  obtain ⟨z, hz⟩ : ∃ z, w.heap.size = z := ⟨_, rfl⟩
  have HZ := Lib.hid hz
  rw [hz] at HA ⊢
  clear hz
  have r0 := cell_regrown HA.out.c0
  have r1 := cell_regrown (HO.out.cell HL.out.log.box.c0)
  have q55 : ∀ d os, Calls Try.prog 55 #[.pointer (some ⟨L.p, 0, none⟩)] (Go.Sort.grow (redrawn w0 d) os) fun e w'' => e = .returned (.bool false) ∧ ∃ q : Regrown, w'' = Go.Sort.grow (redrawn w0 q.d) q.os := fun d os => Rg (none_f L.p _ ((HO.out.trans (below_regrown w0 d os)).cell HL.out.log.box.c8))
  refine wp_region_quiet_below (by kernel_rfl) (by kernel_rfl) ?_
  refine HeldU.out ?_
  repeat (
    refine hqU_step (fun K hK => ?_)
    go_simp
    first
      | (refine hK _ ?_; clear hK K)
      | (apply Exists.intro
         refine ⟨fun _ => ?_, hK _ ?_⟩
         (with_reducible first
           | exact q55 _ _)
         clear hK K))
  refine HeldU.mk (wpQuiet_nil ?_)
  intro _ hw'
  obtain ⟨⟨dq, osq⟩, hw''⟩ := hw'
  subst hw''
  have HO1 : Hid (Ok w0 (Go.Sort.grow (redrawn w0 dq) osq)) := Lib.hid (below_regrown w0 dq osq)
  clear q55 r0 r1
  generalize Go.Sort.grow (redrawn w0 dq) osq = w1 at *
  have HA1 := Lib.hid (HA.out.ok HO1.out)
  have HW1 : Hid (Ok w w1) := Lib.hid (HO.out.trans HO1.out)
  clear HA HO HO1
  have a0 := HA1.out.c0
  have a1 := HA1.out.c1
  have hti := HTI.out w1 HW1.out
  clear HTI
  go_wp2_with fail
  refine hti.mono ?_
  clear hti a0 a1
  rintro _ w2 ⟨rfl, o2⟩
  have HA2 := Lib.hid (HA1.out.ok o2)
  have HW2 : Hid (Ok w w2) := Lib.hid (HW1.out.trans o2)
  clear o2 HA1 HW1
  have a0 := HA2.out.c0
  have a1 := HA2.out.c1
  have a2 := HA2.out.c2
  have a3 := HA2.out.c3
  have a4 := HA2.out.c4
  have a5 := HA2.out.c5
  have hcb := copyBase_f x t s cf w2 (HC.out.ok HW2.out) HLE.out
  go_wp2_with fail
  refine hcb.mono ?_
  clear hcb a0 a1 a2 a3 a4 a5
  rintro _ w3 ⟨u, rfl, hu, o3⟩
  have HW3 : Hid (Ok w w3) := Lib.hid (HW2.out.trans o3)
  have hst := stand_f S L c0' cf (m + 1) t u w3 (HL.out.ok HW3.out) hm (hu.at HLE.out.l0 HLE.out.l1 HLE.out.l2 HLE.out.l3) (hu.off fun b hb => Nat.lt_of_lt_of_le (hb.elim (hS b) (HL.out.log.lt b)) HW2.out.size) HLE.out
  rw [show L.i + ((m + 1 : Nat) : Int) = x from by have := HX.out; push_cast; omega] at hst
  clear hu o3
  go_wp2_with fail
  refine hst.mono ?_
  clear hst
  rintro _ w4 ⟨rfl, L', hst⟩
  go_wp2_with fail
  go_ret
  have hst := hst.pre HW3.out
  exact ⟨rfl, L', hst.box, hst.cfg, hst.p, by rw [hst.i]; have := HX.out; push_cast; omega, by rw [hst.es, List.length_drop], hst.kp⟩
set_option maxRecDepth 100000 in
set_option maxHeartbeats 4000000 in
theorem install_no (S : Nat → Prop) (L : LG) (c0' cf : Cfg) (x t : Int) (s : S4) (w : World) (h : LogC (Sof S L) L c0' w) (hx : L.i < x) (ht : hasB L x = false ∨ ∃ j : Nat, j < L.es.length ∧ x = L.i + j + 1 ∧ (enA L.es j).term ≠ t) (hc : CfgAt w s cf) (hos : CfgOff (fun b => b = L.p) s) (hle : CfgLe cf) :
    Calls Try.prog 20 #[.pointer (some ⟨L.p, 0, none⟩), .agg #[.int .i64 x, .int .i64 t, .slice s.A0 s.n0 s.c0, .slice s.A1 s.n1 s.c1, .slice s.A2 s.n2 s.c2, .slice s.A3 s.n3 s.c3]] w (InstP L x 0 cf w) := by
  have HA : Hid (Six w.heap.size (.int .i64 x) (.int .i64 t) (.slice s.A0 s.n0 s.c0) (.slice s.A1 s.n1 s.c1) (.slice s.A2 s.n2 s.c2) (.slice s.A3 s.n3 s.c3) (w.alloc (.cells #[.int .i64 x, .int .i64 t, .slice s.A0 s.n0 s.c0, .slice s.A1 s.n1 s.c1, .slice s.A2 s.n2 s.c2, .slice s.A3 s.n3 s.c3] 27))) := Lib.hid (Six.new _ _ _ _ _ _ _ _)
  have HO : Hid (Ok w (w.alloc (.cells #[.int .i64 x, .int .i64 t, .slice s.A0 s.n0 s.c0, .slice s.A1 s.n1 s.c1, .slice s.A2 s.n2 s.c2, .slice s.A3 s.n3 s.c3] 27))) := Lib.hid ((Ok.refl w).alloc _)
  have HL := Lib.hid h
  have HC := Lib.hid hc
  have HLE := Lib.hid hle
  have HX := Lib.hid hx
  have d1 : decide (x ≤ L.i) = false := decide_eq_false (by omega)
  have HTI : Hid (∀ w1, Ok w w1 → Calls Try.prog 57 #[.pointer (some ⟨L.p, 0, none⟩), .int .i64 x, .int .i64 t] w1 (Ret w1 (.bool false))) := Lib.hid fun w1 k => by
    rcases ht with hb | ⟨j, hj, e, hne⟩
    · exact termIs_no (Sof S L) L x t w1 (h.log.ok k) hb
    · have := termIs_at (Sof S L) L j t w1 (h.log.ok k) hj
      rwa [decide_eq_false hne, ← e] at this
  clear h hc hle hx
  go_enter Try.func20, Try.ntmps20
  go_upto_region 1 with fail
  generalize w.alloc (.cells #[.int .i64 x, .int .i64 t, .slice s.A0 s.n0 s.c0, .slice s.A1 s.n1 s.c1, .slice s.A2 s.n2 s.c2, .slice s.A3 s.n3 s.c3] 27) = w0 at *
  obtain ⟨z, hz⟩ : ∃ z, w.heap.size = z := ⟨_, rfl⟩
  have HZ := Lib.hid hz
  rw [hz] at HA ⊢
  clear hz
  have r0 := cell_regrown HA.out.c0
  have r1 := cell_regrown (HO.out.cell HL.out.log.box.c0)
  have q55 : ∀ d os, Calls Try.prog 55 #[.pointer (some ⟨L.p, 0, none⟩)] (Go.Sort.grow (redrawn w0 d) os) fun e w'' => e = .returned (.bool false) ∧ ∃ q : Regrown, w'' = Go.Sort.grow (redrawn w0 q.d) q.os := fun d os => Rg (none_f L.p _ ((HO.out.trans (below_regrown w0 d os)).cell HL.out.log.box.c8))
  refine wp_region_quiet_below (by kernel_rfl) (by kernel_rfl) ?_
  refine HeldU.out ?_
  repeat (
    refine hqU_step (fun K hK => ?_)
    go_simp
    first
      | (refine hK _ ?_; clear hK K)
      | (apply Exists.intro
         refine ⟨fun _ => ?_, hK _ ?_⟩
         (with_reducible first
           | exact q55 _ _)
         clear hK K))
  refine HeldU.mk (wpQuiet_nil ?_)
  intro _ hw'
  obtain ⟨⟨dq, osq⟩, hw''⟩ := hw'
  subst hw''
  have HO1 : Hid (Ok w0 (Go.Sort.grow (redrawn w0 dq) osq)) := Lib.hid (below_regrown w0 dq osq)
  clear q55 r0 r1
  generalize Go.Sort.grow (redrawn w0 dq) osq = w1 at *
  have HA1 := Lib.hid (HA.out.ok HO1.out)
  have HW1 : Hid (Ok w w1) := Lib.hid (HO.out.trans HO1.out)
  clear HA HO HO1
  have a0 := HA1.out.c0
  have a1 := HA1.out.c1
  have hti := HTI.out w1 HW1.out
  clear HTI
  go_wp2_with fail
  refine hti.mono ?_
  clear hti a0 a1
  rintro _ w2 ⟨rfl, o2⟩
  have HA2 := Lib.hid (HA1.out.ok o2)
  have HW2 : Hid (Ok w w2) := Lib.hid (HW1.out.trans o2)
  clear o2 HA1 HW1
  have a0 := HA2.out.c0
  have a1 := HA2.out.c1
  have a2 := HA2.out.c2
  have a3 := HA2.out.c3
  have a4 := HA2.out.c4
  have a5 := HA2.out.c5
  have HPZ : Hid (L.p < z) := Lib.hid (by rw [← HZ.out]; exact HL.out.log.box.lt)
  have HB2 := Lib.hid (HL.out.log.ok HW2.out).box
  have b6 := HB2.out.c6
  have b7 := HB2.out.c7
  have g6 := HB2.out.f 6
  have g7 := HB2.out.f 7
  clear a0 a1 a2 a3 a4 a5
  go_upto_region 5 with fail
  clear b6 b7 g6 g7
  have HB3 : Hid (Bx L.bare ((w2.setCell ⟨L.p, 6, none⟩ (.slice none 0 0)).setCell ⟨L.p, 7, none⟩ (.slice none 0 0))) := Lib.hid HB2.out.bare
  have HK3 : Hid (Kp (fun b => b = L.p) w ((w2.setCell ⟨L.p, 6, none⟩ (.slice none 0 0)).setCell ⟨L.p, 7, none⟩ (.slice none 0 0))) := Lib.hid ((Kp.of HW2.out).then (two0_kp w2 L.p) (fun _ _ e => e))
  have HA3 : Hid (Six z (.int .i64 x) (.int .i64 t) (.slice s.A0 s.n0 s.c0) (.slice s.A1 s.n1 s.c1) (.slice s.A2 s.n2 s.c2) (.slice s.A3 s.n3 s.c3) ((w2.setCell ⟨L.p, 6, none⟩ (.slice none 0 0)).setCell ⟨L.p, 7, none⟩ (.slice none 0 0))) := Lib.hid (by
    have hne : L.p ≠ z := by have := HPZ.out; omega
    exact (HA2.out.far hne 6 _).far hne 7 _)
  have HC3 : Hid (CfgAt ((w2.setCell ⟨L.p, 6, none⟩ (.slice none 0 0)).setCell ⟨L.p, 7, none⟩ (.slice none 0 0)) s cf) := Lib.hid ((HC.out.ok HW2.out).kp (two0_kp w2 L.p) (hos.sub fun b hb => hb))
  clear HB2 HA2
  generalize (w2.setCell ⟨L.p, 6, none⟩ (.slice none 0 0)).setCell ⟨L.p, 7, none⟩ (.slice none 0 0) = w3 at *
  have a0 := HA3.out.c0
  have a1 := HA3.out.c1
  have a2 := HA3.out.c2
  have a3 := HA3.out.c3
  have a4 := HA3.out.c4
  have a5 := HA3.out.c5
  have hcb := copyBase_f x t s cf w3 HC3.out HLE.out
  go_wp2_with fail
  refine hcb.mono ?_
  clear hcb a0 a1 a2 a3 a4 a5 HA3
  rintro _ w4 ⟨u, rfl, hu, o4⟩
  have HU : Hid (CfgAt w4 u cf) := Lib.hid (hu.at HLE.out.l0 HLE.out.l1 HLE.out.l2 HLE.out.l3)
  have HUF : Hid (CfgOff (fun b => b < w3.heap.size) u) := Lib.hid (hu.off fun _ h => h)
  have HPL : Hid (L.p < w3.heap.size) := Lib.hid HB3.out.lt
  have HB4 : Hid (Bx L.bare w4) := Lib.hid (HB3.out.kp (S := fun _ => False) (Kp.of o4) (fun f => f))
  have HK4 : Hid (Kp (fun b => b = L.p) w w4) := Lib.hid (HK3.out.ok o4)
  clear hu o4 HB3 HK3
  have b0 : w4.cell? ⟨L.p, 0, none⟩ = some (.int .i64 L.i) := HB4.out.c0
  have b1 : w4.cell? ⟨L.p, 1, none⟩ = some (.int .i64 L.t) := HB4.out.c1
  have b2 : w4.cell? ⟨L.p, 2, none⟩ = some (.slice L.s.A0 L.s.n0 L.s.c0) := HB4.out.c2
  have b3 : w4.cell? ⟨L.p, 3, none⟩ = some (.slice L.s.A1 L.s.n1 L.s.c1) := HB4.out.c3
  have b4 : w4.cell? ⟨L.p, 4, none⟩ = some (.slice L.s.A2 L.s.n2 L.s.c2) := HB4.out.c4
  have b5 : w4.cell? ⟨L.p, 5, none⟩ = some (.slice L.s.A3 L.s.n3 L.s.c3) := HB4.out.c5
  have f0 : w4.frozen? ⟨L.p, 0, none⟩ = false := HB4.out.f 0
  have f1 : w4.frozen? ⟨L.p, 1, none⟩ = false := HB4.out.f 1
  have f2 : w4.frozen? ⟨L.p, 2, none⟩ = false := HB4.out.f 2
  have f3 : w4.frozen? ⟨L.p, 3, none⟩ = false := HB4.out.f 3
  have f4 : w4.frozen? ⟨L.p, 4, none⟩ = false := HB4.out.f 4
  have f5 : w4.frozen? ⟨L.p, 5, none⟩ = false := HB4.out.f 5
  go_wp2_with fail
  refine bodyPost_ret (v := .bool true) (by simp [results, Try.results20, go_sem]; try rfl) rfl ?_
  clear b0 b1 b2 b3 b4 b5 f0 f1 f2 f3 f4 f5
  show InstP L x 0 cf w (.returned (.bool true)) (six w4 L.p x t u)
  refine ⟨rfl, L.bare.stB x t u, HB4.out.setB x t u, ?_, rfl, rfl, rfl, ?_⟩
  · exact HU.out.kp (six_kp w4 L.p x t u) (HUF.out.sub fun b hb => by have hb : b = L.p := hb; rw [hb]; exact HPL.out)
  · exact (Kp.refl _ w).then (HK4.out.then (six_kp w4 L.p x t u) (fun _ _ e => e)) fun _ _ e => .inl e
end Go.Proofs.Ytebhcadolnjplaa
