/- Compact and Install of a log. -/
import Derived.Test.YtebhcadolnjplaaHm
import Derived.Test.YtebhcadolnjplaaHc
namespace Go.Proofs.Ytebhcadolnjplaa
open Go.RowKit

theorem Stood.pre {S : Nat → Prop} {L L' : LG} {m : Nat} {t : Int} {cf : Cfg} {w w1 w' : World} (h : Stood S L m t cf w1 L' w') (o : Ok w w1) : Stood S L m t cf w L' w' :=
  ⟨h.box, h.cfg, h.p, h.i, h.t, h.es, h.all, (Kp.of o).then h.kp (fun _ _ e => e), fun b hb => (h.new b hb).imp id (fun q => Nat.le_trans o.size q)⟩
set_option maxRecDepth 100000 in
theorem compact_no (S : Nat → Prop) (L : LG) (x : Int) (w : World) (h : LogAt S L w) (hx : x < L.i ∨ L.i + L.es.length < x) : Calls Try.prog 19 #[.pointer (some ⟨L.p, 0, none⟩), .int .i64 x] w (Ret w (.bool false)) := by
  have hno := none_f L.p w h.box.c8
  have HC0 := Lib.hid h.box.c0
  have hb : hasB L x = false := by
    simp only [hasB, Bool.and_eq_false_iff, decide_eq_false_iff_not]
    omega
  have HH : Hid (∀ w1, Ok w w1 → Calls Try.prog 60 #[.pointer (some ⟨L.p, 0, none⟩), .int .i64 x] w1 (Ret w1 (.bool false))) := Lib.hid fun w1 (k : Ok w w1) => by
    have := has_f S L x w1 (h.ok k)
    rwa [hb] at this
  have d1 : (x != L.i) = true := by
    have : ¬ x = L.i := by omega
    simpa using this
  clear h hb hx
  go_enter Try.func19, Try.ntmps19
  go_wp2_with fail
  refine hno.mono ?_
  rintro _ w1 ⟨rfl, o1⟩
  have c0 := o1.cell HC0.out
  have hh := HH.out w1 o1
  have HO := Lib.hid o1
  clear o1
  go_wp2_with fail
  refine hh.mono ?_
  rintro _ w2 ⟨rfl, o2⟩
  go_wp2_with fail
  go_ret
  exact ⟨rfl, HO.out.trans o2⟩
def CompP (S : Nat → Prop) (L : LG) (m : Nat) (t : Int) (cf : Cfg) (w : World) (e : Ending) (w' : World) : Prop := e = .returned (.bool true) ∧ ∃ L', Stood S L m t cf w L' w'
set_option maxRecDepth 100000 in
set_option maxHeartbeats 4000000 in
theorem compact_f (S : Nat → Prop) (L : LG) (c0' : Cfg) (m : Nat) (x : Int) (w : World) (h : LogC (Sof S L) L c0' w) (hS : ∀ b, S b → b < w.heap.size) (hm : m ≤ L.es.length) (hx : L.i + (m : Int) = x) :
    Calls Try.prog 19 #[.pointer (some ⟨L.p, 0, none⟩), .int .i64 x] w (CompP S L m (termB L x).1 (inF L c0' x).1 w) := by
  have HL := Lib.hid h
  have HX := Lib.hid hx
  have hno := none_f L.p w h.log.box.c8
  clear h
  by_cases hm0 : x = L.i
  · have d1 : (x != L.i) = false := by simpa using hm0
    clear hm0 hx
    go_enter Try.func19, Try.ntmps19
    go_wp2_with fail
    refine hno.mono ?_
    rintro _ w1 ⟨rfl, o1⟩
    have c0 := o1.cell HL.out.log.box.c0
    clear hno
    have HW1 := Lib.hid o1
    clear o1
    have hte := term_f (Sof S L) L x w1 (HL.out.log.ok HW1.out)
    go_wp2_with fail
    refine hte.mono ?_
    clear hte c0
    rintro _ w2 ⟨rfl, o2⟩
    have HW2 : Hid (Ok w w2) := Lib.hid (HW1.out.trans o2)
    clear o2 HW1
    have hca := configAt_f (Sof S L) L c0' x w2 (HL.out.ok HW2.out)
    go_wp2_with fail
    refine hca.mono ?_
    clear hca
    rintro _ w3 ⟨s, rfl, hs, o3⟩
    have HC3 := Lib.hid hs
    have HW3 : Hid (Ok w w3) := Lib.hid (HW2.out.trans o3)
    clear hs o3 HW2
    obtain ⟨F, hF⟩ : ∃ F, inF L c0' x = F := ⟨_, rfl⟩
    have HEQ := Lib.hid hF
    have HLE : Hid (CfgLe F.1) := Lib.hid (by rw [← hF]; exact HL.out.fle _)
    rw [hF] at HC3 ⊢
    clear hF
    obtain ⟨fc, fi⟩ := F
    have HF : Hid (Fo w3.heap.size (.slice s.A0 s.n0 s.c0) (.slice s.A1 s.n1 s.c1) (.slice s.A2 s.n2 s.c2) (.slice s.A3 s.n3 s.c3) (w3.alloc (.cells #[.slice s.A0 s.n0 s.c0, .slice s.A1 s.n1 s.c1, .slice s.A2 s.n2 s.c2, .slice s.A3 s.n3 s.c3] 25))) := Lib.hid (Fo.new _ _ _ _ _ _)
    have HA4 : Hid (Ok w3 (w3.alloc (.cells #[.slice s.A0 s.n0 s.c0, .slice s.A1 s.n1 s.c1, .slice s.A2 s.n2 s.c2, .slice s.A3 s.n3 s.c3] 25))) := Lib.hid ((Ok.refl w3).alloc _)
    go_upto_region 5 with fail
    generalize (w3.alloc (.cells #[.slice s.A0 s.n0 s.c0, .slice s.A1 s.n1 s.c1, .slice s.A2 s.n2 s.c2, .slice s.A3 s.n3 s.c3] 25)) = w4 at *
    have a0 := HF.out.c0
    have a1 := HF.out.c1
    have a2 := HF.out.c2
    have a3 := HF.out.c3
    have hcp := copyConfig_f s fc w4 (HC3.out.ok HA4.out) HLE.out
    go_wp2_with fail
    refine hcp.mono ?_
    clear hcp a0 a1 a2 a3
    rintro _ w5 ⟨u, rfl, hu, o5⟩
    have HW5 : Hid (Ok w w5) := Lib.hid (HW3.out.trans (HA4.out.trans o5))
    have HW4 : Hid (Ok w w4) := Lib.hid (HW3.out.trans HA4.out)
    have hst := stand_f S L c0' fc m (termB L x).1 u w5 (HL.out.ok HW5.out) hm (hu.at HLE.out.l0 HLE.out.l1 HLE.out.l2 HLE.out.l3) (hu.off fun b hb => Nat.lt_of_lt_of_le (hb.elim (hS b) (HL.out.log.lt b)) HW4.out.size) HLE.out
    rw [HX.out] at hst
    clear hu o5 HF HA4
    go_wp2_with fail
    refine hst.mono ?_
    clear hst
    rintro _ w6 ⟨rfl, L', hst⟩
    go_wp2_with fail
    go_ret
    exact ⟨rfl, L', by rw [HEQ.out]; exact hst.pre HW5.out⟩
  · have d1 : (x != L.i) = true := by simpa using hm0
    have hb : hasB L x = true := by
      simp only [hasB, Bool.and_eq_true, decide_eq_true_eq]
      omega
    have HH : Hid (∀ w1, Ok w w1 → Calls Try.prog 60 #[.pointer (some ⟨L.p, 0, none⟩), .int .i64 x] w1 (Ret w1 (.bool true))) := Lib.hid fun w1 (k : Ok w w1) => by
      have := has_f (Sof S L) L x w1 (HL.out.log.ok k)
      rwa [hb] at this
    clear hm0 hx hb
    go_enter Try.func19, Try.ntmps19
    go_wp2_with fail
    refine hno.mono ?_
    rintro _ w0 ⟨rfl, o0⟩
    have c0 := o0.cell HL.out.log.box.c0
    have hh := HH.out w0 o0
    have HO0 := Lib.hid o0
    clear hno o0 HH
    go_wp2_with fail
    refine hh.mono ?_
    clear hh
    rintro _ w1 ⟨rfl, o01⟩
    have o1 : Ok w w1 := HO0.out.trans o01
    clear o01 HO0
    have HW1 := Lib.hid o1
    clear o1
    have hte := term_f (Sof S L) L x w1 (HL.out.log.ok HW1.out)
    go_wp2_with fail
    refine hte.mono ?_
    clear hte c0
    rintro _ w2 ⟨rfl, o2⟩
    have HW2 : Hid (Ok w w2) := Lib.hid (HW1.out.trans o2)
    clear o2 HW1
    have hca := configAt_f (Sof S L) L c0' x w2 (HL.out.ok HW2.out)
    go_wp2_with fail
    refine hca.mono ?_
    clear hca
    rintro _ w3 ⟨s, rfl, hs, o3⟩
    have HC3 := Lib.hid hs
    have HW3 : Hid (Ok w w3) := Lib.hid (HW2.out.trans o3)
    clear hs o3 HW2
    obtain ⟨F, hF⟩ : ∃ F, inF L c0' x = F := ⟨_, rfl⟩
    have HEQ := Lib.hid hF
    have HLE : Hid (CfgLe F.1) := Lib.hid (by rw [← hF]; exact HL.out.fle _)
    rw [hF] at HC3 ⊢
    clear hF
    obtain ⟨fc, fi⟩ := F
    have HF : Hid (Fo w3.heap.size (.slice s.A0 s.n0 s.c0) (.slice s.A1 s.n1 s.c1) (.slice s.A2 s.n2 s.c2) (.slice s.A3 s.n3 s.c3) (w3.alloc (.cells #[.slice s.A0 s.n0 s.c0, .slice s.A1 s.n1 s.c1, .slice s.A2 s.n2 s.c2, .slice s.A3 s.n3 s.c3] 25))) := Lib.hid (Fo.new _ _ _ _ _ _)
    have HA4 : Hid (Ok w3 (w3.alloc (.cells #[.slice s.A0 s.n0 s.c0, .slice s.A1 s.n1 s.c1, .slice s.A2 s.n2 s.c2, .slice s.A3 s.n3 s.c3] 25))) := Lib.hid ((Ok.refl w3).alloc _)
    go_upto_region 5 with fail
    generalize (w3.alloc (.cells #[.slice s.A0 s.n0 s.c0, .slice s.A1 s.n1 s.c1, .slice s.A2 s.n2 s.c2, .slice s.A3 s.n3 s.c3] 25)) = w4 at *
    have a0 := HF.out.c0
    have a1 := HF.out.c1
    have a2 := HF.out.c2
    have a3 := HF.out.c3
    have hcp := copyConfig_f s fc w4 (HC3.out.ok HA4.out) HLE.out
    go_wp2_with fail
    refine hcp.mono ?_
    clear hcp a0 a1 a2 a3
    rintro _ w5 ⟨u, rfl, hu, o5⟩
    have HW5 : Hid (Ok w w5) := Lib.hid (HW3.out.trans (HA4.out.trans o5))
    have HW4 : Hid (Ok w w4) := Lib.hid (HW3.out.trans HA4.out)
    have hst := stand_f S L c0' fc m (termB L x).1 u w5 (HL.out.ok HW5.out) hm (hu.at HLE.out.l0 HLE.out.l1 HLE.out.l2 HLE.out.l3) (hu.off fun b hb => Nat.lt_of_lt_of_le (hb.elim (hS b) (HL.out.log.lt b)) HW4.out.size) HLE.out
    rw [HX.out] at hst
    clear hu o5 HF HA4
    go_wp2_with fail
    refine hst.mono ?_
    clear hst
    rintro _ w6 ⟨rfl, L', hst⟩
    go_wp2_with fail
    go_ret
    exact ⟨rfl, L', by rw [HEQ.out]; exact hst.pre HW5.out⟩
end Go.Proofs.Ytebhcadolnjplaa
