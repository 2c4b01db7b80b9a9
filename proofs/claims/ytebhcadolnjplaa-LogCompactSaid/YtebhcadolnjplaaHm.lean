/- What a log tells of its base, of its configuration. -/
import Derived.Test.YtebhcadolnjplaaHl
namespace Go.Proofs.Ytebhcadolnjplaa
open Go.RowKit

def pickI (x : Int) (n : Nat) : Int := if x.tmod n < 0 then x.tmod n + n else x.tmod n
theorem pickI_lt (x : Int) (n : Nat) (hn : 0 < n) : 0 ≤ pickI x n ∧ pickI x n < n := by
  have b1 : -(n : Int) < x.tmod (n : Int) := Int.lt_tmod_of_pos x (b := (n : Int)) (by omega)
  have b2 : x.tmod (n : Int) < (n : Int) := Int.tmod_lt_of_pos x (by omega)
  unfold pickI
  split <;> omega
theorem pick_f (x : Int) (n : Nat) (hn : 0 < n) (hn6 : n ≤ 1000000) (w : World) : Calls Try.prog 28 #[.int .i64 x, .int .i64 (n : Int)] w (Ret w (.int .i64 (pickI x n))) := by
  have d1 : decide ((n : Int) < 1) = false := decide_eq_false (by omega)
  have hz : ¬ ((n : Int) = 0) := by omega
  have b1 : -(n : Int) < x.tmod (n : Int) := Int.lt_tmod_of_pos x (b := (n : Int)) (by omega)
  have b2 : x.tmod (n : Int) < (n : Int) := Int.tmod_lt_of_pos x (by omega)
  by_cases hx : x.tmod (n : Int) < 0
  · have HE : Hid (pickI x n = x.tmod n + n) := Lib.hid (if_pos hx)
    have d2 : decide (x.tmod (n : Int) < 0) = true := decide_eq_true hx
    go_enter Try.func28, Try.ntmps28
    go_wp2
    go_ret
    exact ⟨by rw [HE.out]; rfl, Ok.refl _⟩
  · have HE : Hid (pickI x n = x.tmod n) := Lib.hid (if_neg hx)
    have d2 : decide (x.tmod (n : Int) < 0) = false := decide_eq_false hx
    go_enter Try.func28, Try.ntmps28
    go_wp2
    go_ret
    exact ⟨by rw [HE.out]; rfl, Ok.refl _⟩
theorem force_le (l : List En) : ∀ (c : Cfg) (k x b : Int), CfgLe c → (∀ j, j < l.length → EnLe (enA l j)) → CfgLe (forceE c k x b l).1 := by
  induction l with
  | nil => intro c k x b hc _; exact hc
  | cons e l ih =>
    intro c k x b hc hl
    have h2 : ∀ j, j < l.length → EnLe (enA l j) := fun j hj => by
      have := hl (j + 1) (by simpa using hj)
      simpa [enA] using this
    rw [forceE]
    split
    · exact ih _ _ _ _ (by have := (hl 0 (by simp)).cfg; simpa [enA] using this) h2
    · exact ih _ _ _ _ hc h2
theorem LogC.fle {S : Nat → Prop} {L : LG} {c0 : Cfg} {w : World} (h : LogC S L c0 w) (x : Int) : CfgLe (inF L c0 x).1 := force_le _ _ _ _ _ h.le h.log.sm
def CfgS (s : S4) : Value := .agg #[.slice s.A0 s.n0 s.c0, .slice s.A1 s.n1 s.c1, .slice s.A2 s.n2 s.c2, .slice s.A3 s.n3 s.c3]
def ConfP (L : LG) (c0 : Cfg) (w : World) (e : Ending) (w' : World) : Prop :=
  ∃ s : S4, e = .returned (.tuple #[CfgS s, .int .i64 (inF L c0 (L.i + L.es.length)).2]) ∧ CfgAt w' s (inF L c0 (L.i + L.es.length)).1 ∧ Ok w w'
set_option maxRecDepth 100000 in
set_option maxHeartbeats 4000000 in
theorem config_f (S : Nat → Prop) (L : LG) (c0 : Cfg) (W : World) (h : LogC S L c0 W) : Calls Try.prog 15 #[.pointer (some ⟨L.p, 0, none⟩)] W (ConfP L c0 W) := by
  have HZ : Hid (Fo W.heap.size (.slice none 0 0) (.slice none 0 0) (.slice none 0 0) (.slice none 0 0) (W.alloc (.cells #[.slice none 0 0, .slice none 0 0, .slice none 0 0, .slice none 0 0] 25))) := Lib.hid (Fo.new _ _ _ _ _ _)
  have HO : Hid (Ok W (W.alloc (.cells #[.slice none 0 0, .slice none 0 0, .slice none 0 0, .slice none 0 0] 25))) := Lib.hid ((Ok.refl W).alloc _)
  have HL := Lib.hid h
  clear h
  go_enter Try.func15, Try.ntmps15
  go_wp2_with fail
  obtain ⟨z, hz⟩ : ∃ z, z = W.heap.size := ⟨_, rfl⟩
  have HS := Lib.hid hz
  rw [← hz] at HZ ⊢
  clear hz
  generalize (W.alloc (.cells #[.slice none 0 0, .slice none 0 0, .slice none 0 0, .slice none 0 0] 25)) = w0 at *
  refine (none_f L.p w0 (HO.out.cell HL.out.log.box.c8)).mono ?_
  rintro _ w1 ⟨rfl, o1⟩
  have HO1 : Hid (Ok w0 w1) := Lib.hid o1
  have HW1 : Hid (Ok W w1) := Lib.hid (HO.out.trans o1)
  clear o1
  have hla := last_f L.p L.i L.AE L.es.length L.cE w1 (HW1.out.cell HL.out.log.box.c0) (HW1.out.cell HL.out.log.box.c6) HL.out.log.lo HL.out.log.hi (Nat.le_trans HL.out.log.le (by decide))
  go_wp2_with fail
  refine hla.mono ?_
  clear hla
  rintro _ w2 ⟨rfl, o2⟩
  have HO2 : Hid (Ok w0 w2) := Lib.hid (HO1.out.trans o2)
  have HW2 : Hid (Ok W w2) := Lib.hid (HW1.out.trans o2)
  clear o2
  have hca := configAt_f S L c0 (L.i + L.es.length) w2 (HL.out.ok HW2.out)
  go_wp2_with fail
  refine hca.mono ?_
  clear hca
  rintro _ w3 ⟨s, rfl, hs, o3⟩
  have HC3 := Lib.hid hs
  have HLE : Hid (CfgLe (inF L c0 (L.i + L.es.length)).1) := Lib.hid (HL.out.fle _)
  have HO3 : Hid (Ok w0 w3) := Lib.hid (HO2.out.trans o3)
  have HW3 : Hid (Ok W w3) := Lib.hid (HW2.out.trans o3)
  clear hs o3 HO1 HO2 HW1 HW2
  obtain ⟨F, hF⟩ : ∃ F, inF L c0 (L.i + L.es.length) = F := ⟨_, rfl⟩
  have HEQ := Lib.hid hF
  rw [hF] at HC3 HLE ⊢
  clear hF
  obtain ⟨fc, fi⟩ := F
  have HF : Hid (Fo w3.heap.size (.slice s.A0 s.n0 s.c0) (.slice s.A1 s.n1 s.c1) (.slice s.A2 s.n2 s.c2) (.slice s.A3 s.n3 s.c3) (w3.alloc (.cells #[.slice s.A0 s.n0 s.c0, .slice s.A1 s.n1 s.c1, .slice s.A2 s.n2 s.c2, .slice s.A3 s.n3 s.c3] 25))) := Lib.hid (Fo.new _ _ _ _ _ _)
  have HA4 : Hid (Ok w3 (w3.alloc (.cells #[.slice s.A0 s.n0 s.c0, .slice s.A1 s.n1 s.c1, .slice s.A2 s.n2 s.c2, .slice s.A3 s.n3 s.c3] 25))) := Lib.hid ((Ok.refl w3).alloc _)
  go_upto_region 4 with fail
  generalize (w3.alloc (.cells #[.slice s.A0 s.n0 s.c0, .slice s.A1 s.n1 s.c1, .slice s.A2 s.n2 s.c2, .slice s.A3 s.n3 s.c3] 25)) = w4 at *
  have a0 := HF.out.c0
  have a1 := HF.out.c1
  have a2 := HF.out.c2
  have a3 := HF.out.c3
  have hcp := copyConfig_f s fc w4 (HC3.out.ok HA4.out) HLE.out
  go_wp2_with fail
  refine hcp.mono ?_
  clear hcp a0 a1 a2 a3
  rintro _ w5 ⟨u, rfl, hu, o5⟩
  have HU : Hid (CfgOwn w5 w4.heap.size u fc) := Lib.hid hu
  have HZ5 := Lib.hid (HZ.out.ok (HO3.out.trans (HA4.out.trans o5)))
  have HW5 : Hid (Ok W w5) := Lib.hid (HW3.out.trans (HA4.out.trans o5))
  have HZL : Hid (z < w4.heap.size) := Lib.hid (World.block_lt_of_cell? _ _ (HZ.out.ok (HO3.out.trans HA4.out)).c0)
  clear hu o5 HZ HO3 HF HA4
  have z0 := HZ5.out.c0
  have z1 := HZ5.out.c1
  have z2 := HZ5.out.c2
  have z3 := HZ5.out.c3
  have f0 := HZ5.out.f 0
  have f1 := HZ5.out.f 1
  have f2 := HZ5.out.f 2
  have f3 := HZ5.out.f 3
  go_wp2_with fail
  refine bodyPost_ret (v := .tuple #[CfgS u, .int .i64 fi]) (by simp [results, Try.results15, go_sem, z0, z1, z2, z3, CfgS]; try rfl) rfl ?_
  clear z0 z1 z2 z3 f0 f1 f2 f3
  have hg : W.heap.size ≤ z := Nat.le_of_eq HS.out.symm
  refine ⟨u, by rw [HEQ.out], ?_, ?_⟩
  · rw [HEQ.out]
    have := ((((HU.out.set z 0 (.slice u.A0 u.n0 u.c0) HZL.out).set z 1 (.slice u.A1 u.n1 u.c1) HZL.out).set z 2 (.slice u.A2 u.n2 u.c2) HZL.out).set z 3 (.slice u.A3 u.n3 u.c3) HZL.out)
    exact this.at HLE.out.l0 HLE.out.l1 HLE.out.l2 HLE.out.l3
  · show Below W.heap.size W _
    (iterate 4 refine Below.setCell ?_ hg _)
    exact HW5.out
def BaseV (i t : Int) (s : S4) : Value := .agg #[.int .i64 i, .int .i64 t, .slice s.A0 s.n0 s.c0, .slice s.A1 s.n1 s.c1, .slice s.A2 s.n2 s.c2, .slice s.A3 s.n3 s.c3]
def BaseR (i t : Int) (W : World) (e : Ending) (w' : World) : Prop := ∃ s : S4, e = .returned (BaseV i t s) ∧ Ok W w'
set_option maxRecDepth 100000 in
set_option maxHeartbeats 4000000 in
theorem base_f (L : LG) (cf : Cfg) (W : World) (h : Bx L W) (hc : CfgAt W L.s cf) (hl : CfgLe cf) : Calls Try.prog 23 #[.pointer (some ⟨L.p, 0, none⟩)] W (BaseR L.i L.t W) := by
  have HZ : Hid (Six W.heap.size (.int .i64 0) (.int .i64 0) (.slice none 0 0) (.slice none 0 0) (.slice none 0 0) (.slice none 0 0) (W.alloc (.cells #[.int .i64 0, .int .i64 0, .slice none 0 0, .slice none 0 0, .slice none 0 0, .slice none 0 0] 27))) := Lib.hid (Six.new _ _ _ _ _ _ _ _)
  have HO : Hid (Ok W (W.alloc (.cells #[.int .i64 0, .int .i64 0, .slice none 0 0, .slice none 0 0, .slice none 0 0, .slice none 0 0] 27))) := Lib.hid ((Ok.refl W).alloc _)
  have HB := Lib.hid h
  have HC := Lib.hid hc
  clear h hc
  go_enter Try.func23, Try.ntmps23
  go_wp2_with fail
  obtain ⟨z, hz⟩ : ∃ z, z = W.heap.size := ⟨_, rfl⟩
  have HS := Lib.hid hz
  rw [← hz] at HZ ⊢
  clear hz
  generalize (W.alloc (.cells #[.int .i64 0, .int .i64 0, .slice none 0 0, .slice none 0 0, .slice none 0 0, .slice none 0 0] 27)) = w0 at *
  refine (none_f L.p w0 (HO.out.cell HB.out.c8)).mono ?_
  rintro _ w1 ⟨rfl, o1⟩
  have HZ1 := Lib.hid (HZ.out.ok o1)
  have HW1 : Hid (Ok W w1) := Lib.hid (HO.out.trans o1)
  clear o1 HZ HO
  have c0 := HW1.out.cell HB.out.c0
  have c1 := HW1.out.cell HB.out.c1
  have c2 := HW1.out.cell HB.out.c2
  have c3 := HW1.out.cell HB.out.c3
  have c4 := HW1.out.cell HB.out.c4
  have c5 := HW1.out.cell HB.out.c5
  have hcb := copyBase_f L.i L.t L.s cf w1 (HC.out.ok HW1.out) hl
  go_wp2_with fail
  refine hcb.mono ?_
  clear hcb c0 c1 c2 c3 c4 c5
  rintro _ w2 ⟨u, rfl, hu, o2⟩
  have HZ2 := Lib.hid (HZ1.out.ok o2)
  have HW2 : Hid (Ok W w2) := Lib.hid (HW1.out.trans o2)
  clear hu o2 HZ1 HW1
  have z0 := HZ2.out.c0
  have z1 := HZ2.out.c1
  have z2 := HZ2.out.c2
  have z3 := HZ2.out.c3
  have z4 := HZ2.out.c4
  have z5 := HZ2.out.c5
  have f0 := HZ2.out.f 0
  have f1 := HZ2.out.f 1
  have f2 := HZ2.out.f 2
  have f3 := HZ2.out.f 3
  have f4 := HZ2.out.f 4
  have f5 := HZ2.out.f 5
  go_wp2_with fail
  refine bodyPost_ret (v := BaseV L.i L.t u) (by simp [results, Try.results23, go_sem, z0, z1, z2, z3, z4, z5, BaseV]; try rfl) rfl ?_
  clear z0 z1 z2 z3 z4 z5 f0 f1 f2 f3 f4 f5
  have hg : W.heap.size ≤ z := Nat.le_of_eq HS.out.symm
  refine ⟨u, rfl, ?_⟩
  show Below W.heap.size W _
  (iterate 6 refine Below.setCell ?_ hg _)
  exact HW2.out
set_option maxRecDepth 100000 in
theorem last2_f (p : Nat) (i : Int) (A : Option Addr) (n c : Nat) (w : World) (c0 : w.cell? ⟨p, 0, none⟩ = some (.int .i64 i)) (c6 : w.cell? ⟨p, 6, none⟩ = some (.slice A n c)) (h0 : 0 ≤ i) (h1 : i ≤ 2147483648) (hn : n ≤ 1000000) :
    Calls Try.prog 56 #[.pointer (some ⟨p, 0, none⟩)] w (Ret w (.int .i64 (i + n))) := by
  go_enter Try.func56, Try.ntmps56
  have e : IntKind.i64.wrap (i + (n : Int)) = i + n := IntWalk.i64_in _ (by omega)
  go_wp2_with fail
  go_quiet (fail)
  go_wp2_with fail
  go_ret
  exact ⟨rfl, (Ok.refl _).drewN _⟩
set_option maxRecDepth 100000 in
theorem lastM2_f (L : LG) (w : World) (h : Bx L w) (h0 : 0 ≤ L.i) (h1 : L.i ≤ 2147483648) (hn : L.es.length ≤ 1000000) : Calls Try.prog 18 #[.pointer (some ⟨L.p, 0, none⟩)] w (Ret w (.int .i64 (L.i + L.es.length))) := by
  have hno := none_f L.p w h.c8
  have HL : Hid (∀ w1, Ok w w1 → _) := Lib.hid fun w1 (k : Ok w w1) => last2_f L.p L.i L.AE L.es.length L.cE w1 (k.cell h.c0) (k.cell h.c6) h0 h1 hn
  clear h
  go_enter Try.func18, Try.ntmps18
  go_wp2_with fail
  refine hno.mono ?_
  rintro _ w1 ⟨rfl, o1⟩
  have hl := HL.out w1 o1
  clear HL
  go_wp2_with fail
  refine hl.mono ?_
  rintro _ w2 ⟨rfl, o2⟩
  go_wp2_with fail
  go_ret
  exact ⟨rfl, o1.trans o2⟩
end Go.Proofs.Ytebhcadolnjplaa
