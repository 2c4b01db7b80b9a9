/- The law LogCompact. -/
import Derived.Test.YtebhcadolnjplaaHp
import Derived.Test.YtebhcadolnjplaaGr
import Derived.Deep.CutRange
namespace Go.Proofs.Ytebhcadolnjplaa
open Go.RowKit

theorem field27 (i t : Int) (s : S4) (w : World) : (Instr.field 27 (.agg #[.int .i64 i, .int .i64 t, .slice s.A0 s.n0 s.c0, .slice s.A1 s.n1 s.c1, .slice s.A2 s.n2 s.c2, .slice s.A3 s.n3 s.c3]) 0).run Try.prog w = .ok (.int .i64 i) w := by
  simp [Instr.field, asAgg, go_sem]
structure Fit1 (i x : Int) (cf : Cfg) (l : List En) : Prop where
  ll : l.length ≤ 400
  el : ∀ j, j < l.length → enN (enA l j) ≤ 400
  ii : i ≤ 1073741824
  xx : x ≤ 1073741824
  cfg : CfgLe cf
def Great1 (i x : Int) (cf : Cfg) (l : List En) (w : World) (y : Ending) (w' : World) : Prop := ∃ b, y = .returned (.bool b) ∧ Ok w w' ∧ (b = false → Fit1 i x cf l)
theorem great1 (i t : Int) (s : S4) (cf : Cfg) (A : Option Addr) (c : Nat) (l : List En) (x : Int) (w : World) (hc : CfgAt w s cf) (h1 : EnsIn NoB w A l) (hn1 : l.length ≤ 17592186044416) :
    Calls Try.prog 11 #[.slice (some ⟨w.heap.size, 0, none⟩) 1 1] (w.alloc (.cells #[.int .i64 0, .int .i64 x, .slice A l.length c, .int .i64 i, .int .i64 t, .slice s.A0 s.n0 s.c0, .slice s.A1 s.n1 s.c1, .slice s.A2 s.n2 s.c2, .slice s.A3 s.n3 s.c3] 29)) (Great1 i x cf l w) := by
  have o : Ok w (w.alloc (.cells #[.int .i64 0, .int .i64 x, .slice A l.length c, .int .i64 i, .int .i64 t, .slice s.A0 s.n0 s.c0, .slice s.A1 s.n1 s.c1, .slice s.A2 s.n2 s.c2, .slice s.A3 s.n3 s.c3] 29)) := (Ok.refl w).alloc _
  refine Calls.mono (R := GreatP 1 (fun _ => ⟨0, x, A, l.length, c, i, t, s⟩) (fun _ => l) (fun _ => cf) _) (great_f NoB w.heap.size 0 1 1 (fun _ => ⟨0, x, A, l.length, c, i, t, s⟩) (fun _ => l) (fun _ => cf) (by decide) _ ?_) ?_
  · intro j hj
    obtain rfl : j = 0 := by omega
    exact ⟨box_cell _ _ _ _ _ rfl, box_cell _ _ _ _ _ rfl, box_cell _ _ _ _ _ rfl, box_cell _ _ _ _ _ rfl, box_cell _ _ _ _ _ rfl, box_cell _ _ _ _ _ rfl, box_cell _ _ _ _ _ rfl, h1.kp (Kp.of (S := fun _ => False) o) (fun _ f => f.elim), rfl, hn1, hc.ok o⟩
  · rintro y w' ⟨b, rfl, ok, hb⟩
    refine ⟨b, rfl, o.trans ok, fun q => ?_⟩
    have a := hb q 0 (by decide)
    exact ⟨a.len, a.ens, a.bi, a.index, cfg_le a.cfg⟩
set_option maxRecDepth 100000 in
set_option maxHeartbeats 8000000 in
theorem compact_law (i t : Int) (s : S4) (cf : Cfg) (A : Option Addr) (c : Nat) (l : List En) (x far : Int) (W : World) (hc : CfgAt W s cf) (h1 : EnsIn NoB W A l) (hn1 : l.length ≤ 17592186044416) (htm : ∀ j, j < l.length → -9223372036854775808 ≤ (enA l j).term ∧ (enA l j).term ≤ 9223372036854775807) :
    Calls Try.prog 6 #[.agg #[.int .i64 i, .int .i64 t, .slice s.A0 s.n0 s.c0, .slice s.A1 s.n1 s.c1, .slice s.A2 s.n2 s.c2, .slice s.A3 s.n3 s.c3], .slice A l.length c, .int .i64 x, .int .i64 far] W (Ret W (.bool true)) := by
  have HC := Lib.hid hc
  have H1 := Lib.hid h1
  have HA : Hid (Six W.heap.size (.int .i64 i) (.int .i64 t) (.slice s.A0 s.n0 s.c0) (.slice s.A1 s.n1 s.c1) (.slice s.A2 s.n2 s.c2) (.slice s.A3 s.n3 s.c3) (W.alloc (.cells #[.int .i64 i, .int .i64 t, .slice s.A0 s.n0 s.c0, .slice s.A1 s.n1 s.c1, .slice s.A2 s.n2 s.c2, .slice s.A3 s.n3 s.c3] 27))) := Lib.hid (Six.new _ _ _ _ _ _ _ _)
  have HO : Hid (Ok W (W.alloc (.cells #[.int .i64 i, .int .i64 t, .slice s.A0 s.n0 s.c0, .slice s.A1 s.n1 s.c1, .slice s.A2 s.n2 s.c2, .slice s.A3 s.n3 s.c3] 27))) := Lib.hid ((Ok.refl W).alloc _)
  have HZ : Hid (W.heap.size + 1 ≤ (W.alloc (.cells #[.int .i64 i, .int .i64 t, .slice s.A0 s.n0 s.c0, .slice s.A1 s.n1 s.c1, .slice s.A2 s.n2 s.c2, .slice s.A3 s.n3 s.c3] 27)).heap.size) := Lib.hid (by rw [World.size_alloc]; omega)
  have HTM := Lib.hid htm
  clear hc h1 htm
  go_enter Try.func6, Try.ntmps6
  go_wp2_with fail
  generalize (W.alloc (.cells #[.int .i64 i, .int .i64 t, .slice s.A0 s.n0 s.c0, .slice s.A1 s.n1 s.c1, .slice s.A2 s.n2 s.c2, .slice s.A3 s.n3 s.c3] 27)) = w0 at *
  obtain ⟨g, hg⟩ : ∃ g, W.heap.size = g := ⟨_, rfl⟩
  have HG := Lib.hid hg
  rw [hg] at HA HZ ⊢
  clear hg
  refine (awake_f w0).mono ?_
  rintro _ w1 ⟨rfl, o1⟩
  have HO1 : Hid (Ok w0 w1) := Lib.hid o1
  have HA1 := Lib.hid (HA.out.ok o1)
  clear o1
  have c0 := HA1.out.c0
  have c1 := HA1.out.c1
  have c2 := HA1.out.c2
  have c3 := HA1.out.c3
  have c4 := HA1.out.c4
  have c5 := HA1.out.c5
  go_wp2_with fail
  have HE1 : Hid (EnsIn NoB w1 A l) := Lib.hid (H1.out.kp (Kp.of (S := fun _ => False) (HO.out.trans HO1.out)) (fun _ f => f.elim))
  have HC1 := Lib.hid (HC.out.ok (HO.out.trans HO1.out))
  have hgr := great1 i t s cf A c l x w1 HC1.out HE1.out hn1
  refine hgr.mono ?_
  clear hgr c0 c1 c2 c3 c4 c5
  rintro _ w2 ⟨b, rfl, o2, hb⟩
  have HO2 : Hid (Ok w0 w2) := Lib.hid (HO1.out.trans o2)
  have HA2 := Lib.hid (HA1.out.ok o2)
  have HE1 : Hid (EnsIn NoB w2 A l) := Lib.hid (HE1.out.kp (Kp.of (S := fun _ => False) o2) (fun _ f => f.elim))
  have HC2 := Lib.hid (HC1.out.ok o2)
  have HFIT := Lib.hid hb
  clear hb o2 HC1
  cases b with
  | true =>
    clear HA1
    go_wp2_with fail
    go_ret
    exact ⟨rfl, HO.out.trans HO2.out⟩
  | false =>
  have c0 := HA2.out.c0
  by_cases hi0 : i < 0
  · have d1 : decide (i < 0) = true := decide_eq_true hi0
    go_wp2_with fail
    go_ret
    exact ⟨rfl, HO.out.trans HO2.out⟩
  have d1 : decide (i < 0) = false := decide_eq_false hi0
  have c1 := HA2.out.c1
  by_cases ht0 : t < 0
  · have d2 : decide (t < 0) = true := decide_eq_true ht0
    go_wp2_with fail
    go_ret
    exact ⟨rfl, HO.out.trans HO2.out⟩
  have d2 : decide (t < 0) = false := decide_eq_false ht0
  by_cases hf0 : 200 < far
  · have d3 : decide (far > 200) = true := decide_eq_true hf0
    go_wp2_with fail
    go_ret
    exact ⟨rfl, HO.out.trans HO2.out⟩
  have d3 : decide (far > 200) = false := decide_eq_false hf0
  have HI : Hid (0 ≤ i ∧ 0 ≤ t) := Lib.hid ⟨by omega, by omega⟩
  clear hi0 ht0 hf0
  have FIT := Lib.hid (HFIT.out rfl)
  clear HFIT HO1 HA1
  go_upto_region 5 with fail
  rename_i K0 hK0
  have HK0 := Lib.hid hK0
  clear hK0 d1 d2 d3
  refine Until.begin (S := fun w => w.cell? ⟨g, 0, none⟩ = some (.int .i64 i) ∧ w.cell? ⟨g, 1, none⟩ = some (.int .i64 t) ∧ w.cell? ⟨g, 2, none⟩ = some (.slice s.A0 s.n0 s.c0) ∧ w.cell? ⟨g, 3, none⟩ = some (.slice s.A1 s.n1 s.c1) ∧ w.cell? ⟨g, 4, none⟩ = some (.slice s.A2 s.n2 s.c2) ∧ w.cell? ⟨g, 5, none⟩ = some (.slice s.A3 s.n3 s.c3)) (j := 5) (by kernel_rfl) ?_ ?_
  · have k := HA2.out.ok ((Ok.refl w2).drew)
    exact ⟨k.c0, k.c1, k.c2, k.c3, k.c4, k.c5⟩
  intro hS
  have HD : Hid (Ok w2 w2.drew) := Lib.hid ((Ok.refl w2).drew)
  clear c0 c1
  have HCC := Lib.hid (HC2.out.ok HD.out)
  generalize w2.drew = v0 at *
  refine Until.take (i := 0) (v := ?v0) rfl (by kernel_rfl) (by kernel_rfl) (by kernel_rfl) (by kernel_rfl) (fun _ _ _ h => h) (Or.inl ⟨by rfl, ?hy0⟩) hS ?rest0
  case hy0 => ((intro w hSw; (try dsimp only at hSw)); obtain ⟨z0, z1, z2, z3, z4, z5⟩ := hSw; go_simp; (try with_reducible rfl))
  try go_frame
  refine Until.take (i := 2) (v := ?v2) rfl (by kernel_rfl) (by kernel_rfl) (by kernel_rfl) (by kernel_rfl) (fun _ _ _ h => h) (Or.inl ⟨by rfl, ?hy2⟩) hS ?rest2
  case hy2 => ((intro w hSw; (try dsimp only at hSw)); obtain ⟨z0, z1, z2, z3, z4, z5⟩ := hSw; go_simp; (try with_reducible rfl))
  try go_frame
  refine Until.one (i := 1) (by kernel_rfl) rfl (fun K hK => ?_)
  have HK := Lib.hid hK
  clear hK
  go_simp
  refine (new2_f i t s cf v0 HCC.out FIT.out.cfg HI.out.1 FIT.out.ii HI.out.2).mono ?_
  rintro _ v1 ⟨p1, s1, rfl, hp, ok, hl, hcf, hof⟩
  have HP1 : Hid (v0.heap.size ≤ p1) := Lib.hid hp
  have ON1 : Hid (Ok v0 v1) := Lib.hid ok
  have HN1 : Hid (∀ S : Nat → Prop, LogAt (Sof S (LG.new p1 i t s1)) (LG.new p1 i t s1) v1) := Lib.hid hl
  have HCF1 : Hid (CfgAt v1 s1 cf) := Lib.hid hcf
  have HOF1 : Hid (CfgOff (fun b => b < v0.heap.size ∨ p1 ≤ b) s1) := Lib.hid hof
  have HS1 : Hid (_ ∧ _ ∧ _ ∧ _ ∧ _ ∧ _) := Lib.hid ⟨ok.cell hS.1, ok.cell hS.2.1, ok.cell hS.2.2.1, ok.cell hS.2.2.2.1, ok.cell hS.2.2.2.2.1, ok.cell hS.2.2.2.2.2⟩
  clear hp ok hl hS hcf hof
  refine HK.out.out _ _ (fun _ => HS1.out) (fun _ => ?_)
  have hS := HS1.out
  clear HS1 HK K
  try go_frame
  refine Until.one (i := 3) (by kernel_rfl) rfl (fun K hK => ?_)
  have HK := Lib.hid hK
  clear hK
  go_simp
  refine (new2_f i t s cf v1 (HCC.out.ok ON1.out) FIT.out.cfg HI.out.1 FIT.out.ii HI.out.2).mono ?_
  rintro _ v2 ⟨p2, s2, rfl, hp, ok, hl, hcf, hof⟩
  have HP2 : Hid (v1.heap.size ≤ p2) := Lib.hid hp
  have ON2 : Hid (Ok v1 v2) := Lib.hid ok
  have HN2 : Hid (∀ S : Nat → Prop, LogAt (Sof S (LG.new p2 i t s2)) (LG.new p2 i t s2) v2) := Lib.hid hl
  have HCF2 : Hid (CfgAt v2 s2 cf) := Lib.hid hcf
  have HOF2 : Hid (CfgOff (fun b => b < v1.heap.size ∨ p2 ≤ b) s2) := Lib.hid hof
  have HS2 : Hid (_ ∧ _ ∧ _ ∧ _ ∧ _ ∧ _) := Lib.hid ⟨ok.cell hS.1, ok.cell hS.2.1, ok.cell hS.2.2.1, ok.cell hS.2.2.2.1, ok.cell hS.2.2.2.2.1, ok.cell hS.2.2.2.2.2⟩
  clear hp ok hl hS hcf hof
  refine HK.out.out _ _ (fun _ => HS2.out) (fun _ => ?_)
  have hS := HS2.out
  clear HS2 HK K
  try go_frame
  have HS4 := Lib.hid hS
  clear hS
  refine Until.one (i := 4) (by kernel_rfl) rfl (fun K hK => ?_)
  have HK := Lib.hid hK
  clear hK
  go_simp
  refine HK.out.out _ _ (fun _ => HS4.out) (fun _ => ?_)
  clear HK K
  try go_frame
  refine Until.one (i := 5) (by kernel_rfl) rfl (fun K hK => ?_)
  have HK := Lib.hid hK
  clear hK
  go_simp
  refine HK.out.out _ _ (fun h => absurd (h.symm.trans (by kernel_rfl : _ = true)) Bool.false_ne_true) (fun _ => ?_)
  clear HK K
  try go_frame
  refine Until.done (by kernel_rfl) ?_ _
  refine HK0.out _ _ ?_
  clear HK0 HS4
  have HV0 : Hid (g + 1 ≤ v0.heap.size) := Lib.hid (Nat.le_trans HZ.out (Nat.le_trans HO2.out.size HD.out.size))
  have HVP2 : Hid (p2 < v2.heap.size) := Lib.hid ((HN2.out NoB).lt p2 (.inl rfl))
  have HP1L : Hid (p1 < v1.heap.size) := Lib.hid ((HN1.out NoB).lt p1 (.inl rfl))
  have HNE : Hid (p1 ≠ p2) := Lib.hid (by have := HP1L.out; have := HP2.out; omega)
  have HF2 : Hid (v0.heap.size ≤ p2) := Lib.hid (Nat.le_trans ON1.out.size HP2.out)
  have HLC1 : Hid (LogC (Sof (ZZ p1 p2) (LG.new p1 i t s1)) (LG.new p1 i t s1) cf v2) := Lib.hid ⟨(HN1.out _).ok ON2.out, HCF1.out.ok ON2.out, HOF1.out.sub fun b hb => by
    refine .inr ?_
    have := HP1L.out
    have := HP2.out
    rcases hb with (q | q) | q
    · omega
    · omega
    · have := new_ow q; omega, rfl, FIT.out.cfg⟩
  have HEV : Hid (Env v0 g i t s A A l l v2) := Lib.hid ((⟨HA2.out.ok HD.out, (HE1.out.kp (Kp.of (S := fun _ => False) HD.out) (fun _ f => f.elim)).far, (HE1.out.kp (Kp.of (S := fun _ => False) HD.out) (fun _ f => f.elim)).far, Kp.refl _ _⟩ : Env v0 g i t s A A l l v0).ok (ON1.out.trans ON2.out))
  have HW0 : Hid (Ok W v0) := Lib.hid ((HO.out.trans HO2.out).trans HD.out)
  have HZV : Hid (∀ b, ZZ p1 p2 b → b < v2.heap.size) := Lib.hid fun b hb => hb.elim (fun q => q ▸ HLC1.out.log.lt p1 (.inl rfl)) (fun q => q ▸ HVP2.out)
  have HSZ : Hid (v0.heap.size ≤ v2.heap.size) := Lib.hid (Nat.le_trans ON1.out.size ON2.out.size)
  have HV12 : Hid (v1.heap.size ≤ v2.heap.size) := Lib.hid ON2.out.size
  clear HN1 HA2 HE1 HC2 HCC HD HO HO2 HZ HA HC ON1 ON2 HCF1 HOF1
  have hput := putM2_f (ZZ p1 p2) (LG.new p1 i t s1) A l.length c l rfl v2 HLC1.out.log HZV.out (HEV.out.en1.mono fun b hb => by
    show v0.heap.size ≤ b
    have := HP1.out
    have := HF2.out
    rcases hb with (q | q) | q
    · omega
    · omega
    · have := new_ow q; omega) (fun j hj => en_le (FIT.out.el j hj)) (by have := FIT.out.ll; show 0 + l.length ≤ 1000; omega) (by have := FIT.out.ll; show 0 + l.length ≤ 1000; omega)
  go_wp2_with fail
  refine hput.mono ?_
  clear hput
  rintro _ v3 ⟨rfl, L1, hg1⟩
  have HG1 := Lib.hid hg1
  have HL1 := Lib.hid (HLC1.out.put hg1)
  have HEV3 : Hid (Env v0 g i t s A A l l v3) := Lib.hid (HEV.out.kept HV0.out hg1.g.kp fun b hb => by have := new_ow hb; have := HP1.out; show v0.heap.size ≤ b; omega)
  have HLC2 : Hid (LogC (Sof (Sof (ZZ p1 p2) L1) (LG.new p2 i t s2)) (LG.new p2 i t s2) cf v3) := Lib.hid ⟨second_stays HNE.out HN2.out hg1.g, HCF2.out.kp hg1.g.kp (HOF2.out.sub fun b hb => by
      have := new_ow hb
      have := HP1L.out
      exact .inl (by omega)), HOF2.out.sub fun b hb => by
    have := HP1L.out
    have := HVP2.out
    rcases hb with ((q | q) | q) | q
    · exact .inl (by omega)
    · exact .inr (by omega)
    · rcases one_ow hg1.g q with e | e
      · exact .inl (by omega)
      · exact .inr (by omega)
    · have := new_ow q
      exact .inr (by omega), rfl, FIT.out.cfg⟩
  clear hg1 HEV HLC1 HN2 HCF2 HOF2
  have hput := putM2_f (Sof (ZZ p1 p2) L1) (LG.new p2 i t s2) A l.length c l rfl v3 HLC2.out.log (fun b hb => by
    have := HG1.out.g.kp.size
    rcases hb with q | q
    · have := HZV.out b q; omega
    · exact HG1.out.g.log.lt b q) (HEV3.out.en1.mono fun b hb => by
    show v0.heap.size ≤ b
    have := HP1.out
    have := HF2.out
    have := HSZ.out
    rcases hb with ((q | q) | q) | q
    · omega
    · omega
    · have := one_ow HG1.out.g q; omega
    · have := new_ow q; omega) (fun j hj => en_le (FIT.out.el j hj)) (by have := FIT.out.ll; show 0 + l.length ≤ 1000; omega) (by have := FIT.out.ll; show 0 + l.length ≤ 1000; omega)
  go_wp2_with fail
  refine hput.mono ?_
  clear hput
  rintro _ v4 ⟨rfl, L2, hg2⟩
  have HG2 := Lib.hid hg2
  have HL2 := Lib.hid (HLC2.out.put hg2)
  have HL1' : Hid (LogC (Sof (ZZ p1 p2) L1) L1 cf v4) := Lib.hid (HL1.out.kp hg2.g.kp (fun _ hb => .inl (.inr (new_ow hb))) (fun b hb hq => by
    have e := new_ow hq
    have := HVP2.out
    rcases one_ow HG1.out.g hb with q | q
    · exact HNE.out (q.symm.trans e)
    · omega))
  have HEV4 : Hid (Env v0 g i t s A A l l v4) := Lib.hid (HEV3.out.kept HV0.out hg2.g.kp fun b hb => by have := new_ow hb; have := HF2.out; show v0.heap.size ≤ b; omega)
  have HL2P : Hid (L2.p = p2 ∧ L2.i = i ∧ L2.es.length = l.length) := Lib.hid ⟨hg2.g.ext.p, hg2.g.ext.i, by have e : L2.es = l := hg2.g.ext.es; rw [e]⟩
  have HLE2 : Hid (L2.es = l) := Lib.hid hg2.g.ext.es
  have HZV2 := Lib.hid HZV.out
  clear hg2 HEV3 HZV HLC2 HL1
  have HFAR2 : Hid (∀ b, Ow L2.p L2.AE L2.AC b → v0.heap.size ≤ b) := Lib.hid fun b hb => by
    rcases HG2.out.g.new b hb with q | q
    · have := new_ow q; have := HF2.out; omega
    · have := HG1.out.g.kp.size; have := HSZ.out; omega
  have HS2 : Hid (∀ b, Sof (ZZ p1 p2) L1 b → b < v4.heap.size) := Lib.hid fun b hb => by
    have h1 := HG2.out.g.kp.size
    have h2 := HG1.out.g.kp.size
    rcases hb with q | q
    · have := HG2.out.g.kp.size; have := HZV2.out b q; omega
    · have := HG1.out.g.log.lt b q; omega
  have hcm := compact_all HNE.out HVP2.out HG1.out.g HG2.out.g HL1'.out HL2.out HEV4.out (Nat.lt_of_succ_le HV0.out) HP1.out HSZ.out x FIT.out.xx
  go_wp2_with fail
  refine hcm.mono ?_
  clear hcm
  rintro _ v5 ⟨ob, L', cL, rfl, hev, hcm⟩
  have HEV5 := Lib.hid hev
  have HT := Lib.hid hcm
  clear hev hcm HEV4 HG1 HG2 HL1' HL2
  have HB0 : Hid (i ≤ 1073741824 ∧ x ≤ 1073741824 ∧ l.length ≤ 400) := Lib.hid ⟨FIT.out.ii, FIT.out.xx, FIT.out.ll⟩
  have HFIN : Hid (Ok W v5) := Lib.hid (((Kp.of (S := fun b => W.heap.size ≤ b) HW0.out).then HEV5.out.kp (fun j _ hb => Nat.le_trans HW0.out.size hb)).below (Nat.le_refl _) (fun _ h => h))
  have HOW2 : Hid (∀ b, Ow L2.p L2.AE L2.AC b → W.heap.size ≤ b) := Lib.hid fun b hb => Nat.le_trans HW0.out.size (HFAR2.out b hb)
  have HGN : Hid (¬ Ow L2.p L2.AE L2.AC g) := Lib.hid fun hb => by have := HFAR2.out g hb; have := HV0.out; omega
  clear FIT HP1 HF2 HSZ HV12 HP1L HW0
  go_upto_region 9 with fail
  go_cut [74] from 63 to 74 (fun v wx => v = .bool false ∧ Ok v5 wx)
  case first =>
    have c0 := HEV5.out.base.c0
    by_cases ha : i ≤ x
    · have d1 : decide (x ≥ i) = true := decide_eq_true ha
      have hl := lastM_f (Sof (Sof (ZZ p1 p2) L1) L2) L2 v5 HT.out.was.log
      rw [HL2P.out.1, HL2P.out.2.1, HL2P.out.2.2] at hl
      go_wp2_with fail
      refine hl.mono ?_
      clear hl
      rintro _ v6 ⟨rfl, o6⟩
      have HO6 := Lib.hid o6
      clear o6
      by_cases hb : x ≤ i + (l.length : Int)
      · have d2 : decide (x ≤ i + (l.length : Int)) = true := decide_eq_true hb
        have HOBV : Hid (ob = true) := Lib.hid (by rw [HT.out.obe, decide_eq_true ha, decide_eq_true hb]; rfl)
        clear ha hb
        go_wp2_with fail
        go_meet
        case rel => exact ⟨by rw [HOBV.out]; rfl, HO6.out⟩
      · have d2 : decide (x ≤ i + (l.length : Int)) = false := decide_eq_false hb
        have HOBV : Hid (ob = false) := Lib.hid (by rw [HT.out.obe, decide_eq_false hb, Bool.and_false])
        clear ha hb
        go_wp2_with fail
        go_meet
        case rel => exact ⟨by rw [HOBV.out], HO6.out⟩
    · have d1 : decide (x ≥ i) = false := decide_eq_false ha
      have HOBV : Hid (ob = false) := Lib.hid (by rw [HT.out.obe, decide_eq_false ha, Bool.false_and])
      clear ha
      go_wp2_with fail
      go_meet
      case rel => exact ⟨by rw [HOBV.out], Ok.refl _⟩
  case rest =>
  obtain ⟨rfl, hco⟩ := hcut
  have HO6 := Lib.hid hco
  clear hco
  have hcf := config_f (Sof (ZZ p1 p2) L') L' cL wc (HT.out.l.ok HO6.out)
  rw [HT.out.pe] at hcf
  go_wp2_with fail
  refine hcf.mono ?_
  clear hcf
  rintro _ v7 ⟨sa, rfl, ha, o7⟩
  rw [HT.out.len, HT.out.cfg] at ha
  have HCA := Lib.hid ha
  have HO7 := Lib.hid (HO6.out.trans o7)
  clear ha o7 HO6
  unfold CfgS
  have HF1 : Hid (Fo v7.heap.size (.slice sa.A0 sa.n0 sa.c0) (.slice sa.A1 sa.n1 sa.c1) (.slice sa.A2 sa.n2 sa.c2) (.slice sa.A3 sa.n3 sa.c3) (v7.alloc (.cells #[.slice sa.A0 sa.n0 sa.c0, .slice sa.A1 sa.n1 sa.c1, .slice sa.A2 sa.n2 sa.c2, .slice sa.A3 sa.n3 sa.c3] 25))) := Lib.hid (Fo.new _ _ _ _ _ _)
  have HQ1 : Hid (Ok v7 (v7.alloc (.cells #[.slice sa.A0 sa.n0 sa.c0, .slice sa.A1 sa.n1 sa.c1, .slice sa.A2 sa.n2 sa.c2, .slice sa.A3 sa.n3 sa.c3] 25))) := Lib.hid ((Ok.refl v7).alloc _)
  go_upto_region 12 with fail
  generalize (v7.alloc (.cells #[.slice sa.A0 sa.n0 sa.c0, .slice sa.A1 sa.n1 sa.c1, .slice sa.A2 sa.n2 sa.c2, .slice sa.A3 sa.n3 sa.c3] 25)) = v8 at *
  obtain ⟨g1, hg1⟩ : ∃ g1, v7.heap.size = g1 := ⟨_, rfl⟩
  rw [hg1] at HF1 ⊢
  clear hg1
  have HO8 : Hid (Ok v5 v8) := Lib.hid (HO7.out.trans HQ1.out)
  have HCA := Lib.hid (HCA.out.ok HQ1.out)
  have hcf := config_f (Sof (Sof (ZZ p1 p2) L1) L2) L2 cf v8 (HT.out.was.ok HO8.out)
  rw [HL2P.out.1] at hcf
  clear HQ1 HO7
  go_wp2_with fail
  refine hcf.mono ?_
  clear hcf
  rintro _ v9 ⟨sb, rfl, hb, o9⟩
  rw [HL2P.out.2.1, HL2P.out.2.2] at hb
  have HCB := Lib.hid hb
  have HCA := Lib.hid (HCA.out.ok o9)
  have HF1 := Lib.hid (HF1.out.ok o9)
  have HO9 := Lib.hid (HO8.out.trans o9)
  clear hb o9 HO8
  unfold CfgS
  have HF2 : Hid (Fo v9.heap.size (.slice sb.A0 sb.n0 sb.c0) (.slice sb.A1 sb.n1 sb.c1) (.slice sb.A2 sb.n2 sb.c2) (.slice sb.A3 sb.n3 sb.c3) (v9.alloc (.cells #[.slice sb.A0 sb.n0 sb.c0, .slice sb.A1 sb.n1 sb.c1, .slice sb.A2 sb.n2 sb.c2, .slice sb.A3 sb.n3 sb.c3] 25))) := Lib.hid (Fo.new _ _ _ _ _ _)
  have HQ2 : Hid (Ok v9 (v9.alloc (.cells #[.slice sb.A0 sb.n0 sb.c0, .slice sb.A1 sb.n1 sb.c1, .slice sb.A2 sb.n2 sb.c2, .slice sb.A3 sb.n3 sb.c3] 25))) := Lib.hid ((Ok.refl v9).alloc _)
  go_upto_region 13 with fail
  generalize (v9.alloc (.cells #[.slice sb.A0 sb.n0 sb.c0, .slice sb.A1 sb.n1 sb.c1, .slice sb.A2 sb.n2 sb.c2, .slice sb.A3 sb.n3 sb.c3] 25)) = va at *
  obtain ⟨g2, hg2⟩ : ∃ g2, v9.heap.size = g2 := ⟨_, rfl⟩
  rw [hg2] at HF2 ⊢
  clear hg2
  have HOA : Hid (Ok v5 va) := Lib.hid (HO9.out.trans HQ2.out)
  have HCA := Lib.hid (HCA.out.ok HQ2.out)
  have HCB := Lib.hid (HCB.out.ok HQ2.out)
  have HF1 := Lib.hid (HF1.out.ok HQ2.out)
  clear HQ2 HO9
  go_cut [105] from 85 to 105 (fun v wx => v = .bool false ∧ Ok v5 wx)
  case first =>
    have hl := lastM_f (Sof (ZZ p1 p2) L') L' va (HT.out.l.log.ok HOA.out)
    rw [HT.out.pe, HT.out.len] at hl
    go_wp2_with fail
    refine hl.mono ?_
    clear hl
    rintro _ vb ⟨rfl, ob1⟩
    have HOB : Hid (Ok va vb) := Lib.hid ob1
    clear ob1
    have hl := lastM_f (Sof (Sof (ZZ p1 p2) L1) L2) L2 vb (HT.out.was.log.ok (HOA.out.trans HOB.out))
    rw [HL2P.out.1, HL2P.out.2.1, HL2P.out.2.2] at hl
    go_wp2_with fail
    refine hl.mono ?_
    clear hl
    rintro _ vc ⟨rfl, oc1⟩
    have HOC : Hid (Ok va vc) := Lib.hid (HOB.out.trans oc1)
    clear oc1 HOB
    have hsc := sameConfig_f sa sb (inF L2 cf (i + (l.length : Int))).1 vc (HCA.out.ok HOC.out) (HCB.out.ok HOC.out)
    have a0 := (HF1.out.ok HOC.out).c0
    have a1 := (HF1.out.ok HOC.out).c1
    have a2 := (HF1.out.ok HOC.out).c2
    have a3 := (HF1.out.ok HOC.out).c3
    have b0 := (HF2.out.ok HOC.out).c0
    have b1 := (HF2.out.ok HOC.out).c1
    have b2 := (HF2.out.ok HOC.out).c2
    have b3 := (HF2.out.ok HOC.out).c3
    go_wp2_with fail
    refine hsc.mono ?_
    clear hsc a0 a1 a2 a3 b0 b1 b2 b3
    rintro _ vd ⟨rfl, od1⟩
    have HODD : Hid (Ok v5 vd) := Lib.hid (HOA.out.trans (HOC.out.trans od1))
    clear od1 HOC
    have HIX := Lib.hid HT.out.ix
    cases ob with
    | false =>
      go_wp2_with fail
      go_meet
      case rel => exact ⟨rfl, HODD.out⟩
    | true =>
      have hix : (L'.i != x) = false := by rw [HIX.out rfl]; simp
      have hbs := base_f L' cL vd (HT.out.l.ok HODD.out).log.box (HT.out.l.ok HODD.out).cfg HT.out.l.le
      rw [HT.out.pe] at hbs
      go_wp2_with fail
      refine hbs.mono ?_
      clear hbs
      rintro _ ve ⟨sc, rfl, oe1⟩
      have HOE : Hid (Ok v5 ve) := Lib.hid (HODD.out.trans oe1)
      clear oe1
      unfold BaseV
      have hfd := field27 L'.i L'.t sc
      go_wp2_with fail
      go_meet
      case rel => exact ⟨rfl, HOE.out⟩
  case rest =>
  obtain ⟨rfl, hco⟩ := hcut
  have HO6 := Lib.hid hco
  clear hco HCA HCB HF1 HF2 HOA
  have hbs := base_f L' cL wc (HT.out.l.ok HO6.out).log.box (HT.out.l.ok HO6.out).cfg HT.out.l.le
  rw [HT.out.pe] at hbs
  go_wp2_with fail
  refine hbs.mono ?_
  clear hbs
  rintro _ v7 ⟨sc, rfl, o7⟩
  have HO7 : Hid (Ok v5 v7) := Lib.hid (HO6.out.trans o7)
  clear o7 HO6
  unfold BaseV
  have hfd := field27 L'.i L'.t sc
  go_wp2_with fail
  clear hfd
  obtain ⟨bi, hbi⟩ : ∃ bi, L'.i = bi := ⟨_, rfl⟩
  have HBI := Lib.hid hbi
  rw [hbi]
  have HBL : Hid (i ≤ bi ∧ bi ≤ i + (l.length : Int)) := Lib.hid (by have h1 := HT.out.lo; have h2 := HT.out.len; rw [hbi] at h1 h2; omega)
  clear hbi
  obtain ⟨z, hz⟩ : ∃ z, i + (l.length : Int) = z := ⟨_, rfl⟩
  have HZ0 : Hid (z = i + (l.length : Int)) := Lib.hid hz.symm
  clear hz
  go_loopw [16, 17, 18, 19, 20, 21, 22, 23, 24] (fun v16 _ _ _ _ _ _ _ _ wr => ∃ y : Int, v16 = .int .i64 y ∧ bi ≤ y ∧ y ≤ z + 1 ∧ Ok v5 wr) (fun v16 _ _ _ _ _ _ _ _ _ => (z + 1 - intOf v16).toNat)
  case atStart => exact ⟨bi, rfl, Int.le_refl _, by have := HZ0.out; have := HBL.out; omega, HO7.out⟩
  case round =>
    obtain ⟨y, rfl, hy0, hy1, okr⟩ := hrel
    have HOK := Lib.hid okr
    clear okr HO7
    have hl := lastM_f (Sof (ZZ p1 p2) L') L' wr (HT.out.l.log.ok HOK.out)
    rw [HT.out.pe, HT.out.len, ← HZ0.out] at hl
    go_wp2_with fail
    refine hl.mono ?_
    clear hl
    rintro _ u0 ⟨rfl, o0⟩
    have HU0 : Hid (Ok v5 u0) := Lib.hid (HOK.out.trans o0)
    clear o0 HOK
    by_cases hlt : y ≤ z
    · have d1 : decide (y ≤ z) = true := decide_eq_true hlt
      have ht1 := term_f (Sof (ZZ p1 p2) L') L' y u0 (HT.out.l.log.ok HU0.out)
      rw [HT.out.pe, HT.out.term y (by rw [HBI.out]; exact hy0)] at ht1
      have HTE : Hid (∀ w', Ok v5 w' → Calls Try.prog 13 #[.pointer (some ⟨p2, 0, none⟩), .int .i64 y] w' (Ret w' (.tuple #[.int .i64 (termB L2 y).1, .bool (termB L2 y).2]))) := Lib.hid fun w' o => by
        have := term_f (Sof (Sof (ZZ p1 p2) L1) L2) L2 y w' (HT.out.was.log.ok o)
        rwa [HL2P.out.1] at this
      generalize termB L2 y = TB at *
      obtain ⟨tt, tb⟩ := TB
      go_wp2_with fail
      refine ht1.mono ?_
      clear ht1
      rintro _ u1 ⟨rfl, o1⟩
      have HU1 : Hid (Ok v5 u1) := Lib.hid (HU0.out.trans o1)
      clear o1 HU0
      have ht2 := HTE.out u1 HU1.out
      clear HTE
      go_wp2_with fail
      refine ht2.mono ?_
      clear ht2
      rintro _ u2 ⟨rfl, o2⟩
      have HU2 : Hid (Ok v5 u2) := Lib.hid (HU1.out.trans o2)
      clear o2 HU1
      have ha1 := atM_f (Sof (ZZ p1 p2) L') L' y u2 (HT.out.l.log.ok HU2.out)
      rw [HT.out.pe] at ha1
      go_wp2_with fail
      refine ha1.mono ?_
      clear ha1
      rintro _ u3 ⟨r1, rfl, hr1, o3⟩
      have HR1 : Hid (EnAt NoB u3 r1 (atB L' y)) := Lib.hid (hr1 NoB (fun _ f => f.elim))
      have HU3 : Hid (Ok v5 u3) := Lib.hid (HU2.out.trans o3)
      have HK1 : Hid (Ok u3 (u3.alloc (.cells #[.int .i64 r1.term, .int .u8 r1.kind, .slice r1.A r1.n r1.c, .slice r1.s.A0 r1.s.n0 r1.s.c0, .slice r1.s.A1 r1.s.n1 r1.s.c1, .slice r1.s.A2 r1.s.n2 r1.s.c2, .slice r1.s.A3 r1.s.n3 r1.s.c3] 44))) := Lib.hid ((Ok.refl _).alloc _)
      have HV1 : Hid (Sev u3.heap.size (.int .i64 r1.term) (.int .u8 r1.kind) (.slice r1.A r1.n r1.c) (.slice r1.s.A0 r1.s.n0 r1.s.c0) (.slice r1.s.A1 r1.s.n1 r1.s.c1) (.slice r1.s.A2 r1.s.n2 r1.s.c2) (.slice r1.s.A3 r1.s.n3 r1.s.c3) (u3.alloc (.cells #[.int .i64 r1.term, .int .u8 r1.kind, .slice r1.A r1.n r1.c, .slice r1.s.A0 r1.s.n0 r1.s.c0, .slice r1.s.A1 r1.s.n1 r1.s.c1, .slice r1.s.A2 r1.s.n2 r1.s.c2, .slice r1.s.A3 r1.s.n3 r1.s.c3] 44))) := Lib.hid (Sev.new _ _ _ _ _ _ _ _ _)
      clear hr1 o3 HU2
      unfold ER.val
      go_upto_region 21 with fail
      generalize (u3.alloc (.cells #[.int .i64 r1.term, .int .u8 r1.kind, .slice r1.A r1.n r1.c, .slice r1.s.A0 r1.s.n0 r1.s.c0, .slice r1.s.A1 r1.s.n1 r1.s.c1, .slice r1.s.A2 r1.s.n2 r1.s.c2, .slice r1.s.A3 r1.s.n3 r1.s.c3] 44)) = k1 at *
      obtain ⟨g1, hg1⟩ : ∃ g1, u3.heap.size = g1 := ⟨_, rfl⟩
      rw [hg1] at HV1 ⊢
      clear hg1
      have HR1 := Lib.hid (HR1.out.ok HK1.out)
      have HU4 : Hid (Ok v5 k1) := Lib.hid (HU3.out.trans HK1.out)
      clear HK1 HU3
      have ha2 := atM_f (Sof (Sof (ZZ p1 p2) L1) L2) L2 y k1 (HT.out.was.log.ok HU4.out)
      rw [HL2P.out.1] at ha2
      go_wp2_with fail
      refine ha2.mono ?_
      clear ha2
      rintro _ u5 ⟨r2, rfl, hr2, o5⟩
      have HR2 : Hid (EnAt NoB u5 r2 (atB L2 y)) := Lib.hid (hr2 NoB (fun _ f => f.elim))
      have HR1 := Lib.hid (HR1.out.ok o5)
      have HV1 := Lib.hid (HV1.out.ok o5)
      have HU5 : Hid (Ok v5 u5) := Lib.hid (HU4.out.trans o5)
      have HK2 : Hid (Ok u5 (u5.alloc (.cells #[.int .i64 r2.term, .int .u8 r2.kind, .slice r2.A r2.n r2.c, .slice r2.s.A0 r2.s.n0 r2.s.c0, .slice r2.s.A1 r2.s.n1 r2.s.c1, .slice r2.s.A2 r2.s.n2 r2.s.c2, .slice r2.s.A3 r2.s.n3 r2.s.c3] 44))) := Lib.hid ((Ok.refl _).alloc _)
      have HV2 : Hid (Sev u5.heap.size (.int .i64 r2.term) (.int .u8 r2.kind) (.slice r2.A r2.n r2.c) (.slice r2.s.A0 r2.s.n0 r2.s.c0) (.slice r2.s.A1 r2.s.n1 r2.s.c1) (.slice r2.s.A2 r2.s.n2 r2.s.c2) (.slice r2.s.A3 r2.s.n3 r2.s.c3) (u5.alloc (.cells #[.int .i64 r2.term, .int .u8 r2.kind, .slice r2.A r2.n r2.c, .slice r2.s.A0 r2.s.n0 r2.s.c0, .slice r2.s.A1 r2.s.n1 r2.s.c1, .slice r2.s.A2 r2.s.n2 r2.s.c2, .slice r2.s.A3 r2.s.n3 r2.s.c3] 44))) := Lib.hid (Sev.new _ _ _ _ _ _ _ _ _)
      clear hr2 o5 HU4
      unfold ER.val
      go_upto_region 22 with fail
      generalize (u5.alloc (.cells #[.int .i64 r2.term, .int .u8 r2.kind, .slice r2.A r2.n r2.c, .slice r2.s.A0 r2.s.n0 r2.s.c0, .slice r2.s.A1 r2.s.n1 r2.s.c1, .slice r2.s.A2 r2.s.n2 r2.s.c2, .slice r2.s.A3 r2.s.n3 r2.s.c3] 44)) = k2 at *
      obtain ⟨g2, hg2⟩ : ∃ g2, u5.heap.size = g2 := ⟨_, rfl⟩
      rw [hg2] at HV2 ⊢
      clear hg2
      have HR1 := Lib.hid (HR1.out.ok HK2.out)
      have HR2 := Lib.hid (HR2.out.ok HK2.out)
      have HV1 := Lib.hid (HV1.out.ok HK2.out)
      have HU6 : Hid (Ok v5 k2) := Lib.hid (HU5.out.trans HK2.out)
      clear HK2 HU5
      have hbs := base_f L' cL k2 (HT.out.l.ok HU6.out).log.box (HT.out.l.ok HU6.out).cfg HT.out.l.le
      rw [HT.out.pe, HBI.out] at hbs
      have ntt : (tt != tt) = false := by simp
      have ntb : (tb != tb) = false := by cases tb <;> rfl
      go_wp2_with fail
      refine hbs.mono ?_
      clear hbs
      rintro _ k3 ⟨sc, rfl, o7⟩
      have HR1 := Lib.hid (HR1.out.ok o7)
      have HR2 := Lib.hid (HR2.out.ok o7)
      have HV1 := Lib.hid (HV1.out.ok o7)
      have HV2 := Lib.hid (HV2.out.ok o7)
      have HU7 : Hid (Ok v5 k3) := Lib.hid (HU6.out.trans o7)
      clear o7 HU6
      unfold BaseV
      have hfd := field27 bi L'.t sc
      have ey : IntKind.i64.wrap (y + 1) = y + 1 := IntWalk.i64_in _ (by have := HZ0.out; have := HI.out; have := HB0.out; have := HBL.out; omega)
      have HLT : Hid ((z + 1 - (y + 1)).toNat < (z + 1 - y).toNat) := Lib.hid (by omega)
      by_cases hgt : bi < y
      · have d2 : decide (y > bi) = true := decide_eq_true hgt
        have hse := sameEntry_f NoB NoB r1 r2 (atB L2 y) k3 (by rw [← HT.out.at' y (by rw [HBI.out]; exact hgt)]; exact HR1.out) HR2.out
        unfold ER.val at hse
        have a0 := HV1.out.c0
        have a1 := HV1.out.c1
        have a2 := HV1.out.c2
        have a3 := HV1.out.c3
        have a4 := HV1.out.c4
        have a5 := HV1.out.c5
        have a6 := HV1.out.c6
        have b0 := HV2.out.c0
        have b1 := HV2.out.c1
        have b2 := HV2.out.c2
        have b3 := HV2.out.c3
        have b4 := HV2.out.c4
        have b5 := HV2.out.c5
        have b6 := HV2.out.c6
        go_wp2_with fail
        refine hse.mono ?_
        clear hse a0 a1 a2 a3 a4 a5 a6 b0 b1 b2 b3 b4 b5 b6
        rintro _ k4 ⟨rfl, o8⟩
        have HU8 : Hid (Ok v5 k4) := Lib.hid (HU7.out.trans o8)
        clear o8 HU7
        go_wp2_with fail
        first | exact ⟨⟨y + 1, rfl, by omega, by omega, HU8.out⟩, HLT.out⟩ | (refine ⟨?_, HLT.out⟩; (repeat apply Exists.intro); exact ⟨⟨y + 1, rfl, by omega, by omega, HU8.out⟩, rfl⟩)
      · have d2 : decide (y > bi) = false := decide_eq_false hgt
        go_wp2_with fail
        first | exact ⟨⟨y + 1, rfl, by omega, by omega, HU7.out⟩, HLT.out⟩ | (refine ⟨?_, HLT.out⟩; (repeat apply Exists.intro); exact ⟨⟨y + 1, rfl, by omega, by omega, HU7.out⟩, rfl⟩)
    · have d1 : decide (y ≤ z) = false := decide_eq_false hlt
      clear hy0 hy1 hlt
      go_upto_region 24 with fail
      clear d1
      have HB8 : Hid (i + 1 + pickI far (l.length + 3) ≤ 1073742230 ∧ i < i + 1 + pickI far (l.length + 3)) := Lib.hid (by have := pickI_lt far (l.length + 3) (by omega); have := HB0.out; have := HI.out; push_cast at *; omega)
      have r0 := cell_regrown (HEV5.out.ok HU0.out).base.c0
      have e1 : IntKind.i64.wrap (i + 1) = i + 1 := IntWalk.i64_in _ (by have := HB0.out; have := HI.out; omega)
      have e2 : IntKind.i64.wrap ((l.length : Int) + 3) = (l.length : Int) + 3 := IntWalk.i64_in _ (by have := HB0.out; omega)
      have q28 : ∀ d os, Calls Try.prog 28 #[.int .i64 far, .int .i64 ((l.length : Int) + 3)] (Go.Sort.grow (redrawn u0 d) os) fun e w'' => e = .returned (.int .i64 (pickI far (l.length + 3))) ∧ ∃ q : Regrown, w'' = Go.Sort.grow (redrawn u0 q.d) q.os := fun d os => Rg (by
        have := pick_f far (l.length + 3) (by omega) (by have := HB0.out; omega) (Go.Sort.grow (redrawn u0 d) os)
        rwa [show ((l.length + 3 : Nat) : Int) = (l.length : Int) + 3 from by push_cast; rfl] at this)
      obtain ⟨pk, hpk⟩ : ∃ pk, pickI far (l.length + 3) = pk := ⟨_, rfl⟩
      rw [hpk] at q28 HB8
      clear hpk
      have e3 : IntKind.i64.wrap (i + 1 + pk) = i + 1 + pk := IntWalk.i64_in _ (by have := HB8.out; have := HI.out; omega)
      refine wp_region_quiet_below (by kernel_rfl) (by kernel_rfl) ?_
      refine HeldU.out ?_
      repeat (
        refine hqU_step (fun K hK => ?_)
        go_simp
        first
          | (refine hK _ ?_; clear hK K)
          | (apply Exists.intro
             refine ⟨fun _ => ?_, hK _ ?_⟩
             (with_reducible first
               | exact q28 _ _)
             clear hK K))
      refine HeldU.mk (wpQuiet_nil ?_)
      intro _ hw'
      obtain ⟨⟨dq, osq⟩, hw''⟩ := hw'
      subst hw''
      have HX1 : Hid (Ok v5 (Go.Sort.grow (redrawn u0 dq) osq)) := Lib.hid (HU0.out.trans (below_regrown u0 dq osq))
      clear q28 r0 e1 e2 e3 HU0
      generalize Go.Sort.grow (redrawn u0 dq) osq = x1 at *
      obtain ⟨k, hk⟩ : ∃ k, i + 1 + pk = k := ⟨_, rfl⟩
      rw [hk] at HB8 ⊢
      clear hk
      have hte := term_f (Sof (Sof (ZZ p1 p2) L1) L2) L2 k x1 (HT.out.was.log.ok HX1.out)
      rw [HL2P.out.1] at hte
      have HTB : Hid (termB L2 k = if hasB L2 k then ((enA l (k - i - 1).toNat).term, true) else (0, false)) := Lib.hid (by
        unfold termB
        rw [if_neg (by rw [HL2P.out.2.1]; have := HB8.out; omega), HL2P.out.2.1, HLE2.out])
      obtain ⟨TB, hTB⟩ : ∃ TB, termB L2 k = TB := ⟨_, rfl⟩
      have HTQ := Lib.hid hTB
      rw [hTB] at hte HTB
      clear hTB
      obtain ⟨tt, tb⟩ := TB
      go_wp2_with fail
      refine hte.mono ?_
      clear hte
      rintro _ x2 ⟨rfl, o2⟩
      have HX2 : Hid (Ok v5 x2) := Lib.hid (HX1.out.trans o2)
      clear o2 HX1
      have hpi := pick_f far 2 (by decide) (by decide) x2
      have HPI : Hid (pickI far 2 = 0 ∨ pickI far 2 = 1) := Lib.hid (by have := pickI_lt far 2 (by decide); omega)
      have HPF : Hid (∀ w, Calls Try.prog 28 #[.int .i64 far, .int .i64 2] w (Ret w (.int .i64 (pickI far 2)))) := Lib.hid fun w => pick_f far 2 (by decide) (by decide) w
      clear hpi
      generalize pickI far 2 = pk2 at *
      have hpi := HPF.out x2
      go_wp2_with fail
      refine hpi.mono ?_
      clear hpi
      rintro _ x3 ⟨rfl, o3⟩
      have HX3 : Hid (Ok v5 x3) := Lib.hid (HX2.out.trans o3)
      clear o3 HX2
      have HCZ : Hid (∀ w, CfgAt w ⟨none, 0, 0, none, 0, 0, none, 0, 0, none, 0, 0⟩ ⟨[], [], [], []⟩) := Lib.hid fun w => ⟨InI.nil w, InI.nil w, InI.nil w, InI.nil w⟩
      have HZL : Hid (CfgLe ⟨[], [], [], []⟩) := Lib.hid ⟨Nat.zero_le _, Nat.zero_le _, Nat.zero_le _, Nat.zero_le _⟩
      have HOZ : Hid (CfgOff (fun b => b = L2.p) ⟨none, 0, 0, none, 0, 0, none, 0, 0, none, 0, 0⟩) := Lib.hid (by
        have ho : Off (fun b => b = L2.p) (.slice none 0 0) := fun b o n c e => by simp at e
        exact ⟨ho, ho, ho, ho⟩)
      have HX3S : Hid (∀ b, Sof (ZZ p1 p2) L1 b → b < x3.heap.size) := Lib.hid fun b hb => Nat.lt_of_lt_of_le (HS2.out b hb) (Nat.le_trans HT.out.sz HX3.out.size)
      by_cases hA0 : tb = true ∧ pk2 = 0
      · obtain ⟨rfl, rfl⟩ := hA0
        have hhb : hasB L2 k = true := by
          cases hq : hasB L2 k with
          | true => rfl
          | false => have := HTB.out; rw [hq] at this; simp at this
        obtain ⟨m, hm, hkm, hkn⟩ := has_out L2 k hhb
        rw [HL2P.out.2.1] at hkm hkn
        rw [HL2P.out.2.2] at hm
        have htt : tt = (enA l m).term := by
          have := HTB.out
          rw [hhb, if_pos rfl, hkn] at this
          exact (Prod.ext_iff.1 this).1
        have ew : IntKind.i64.wrap (tt + 0) = tt := by rw [Int.add_zero, htt]; exact IntWalk.i64_in _ (by have := HTM.out m hm; omega)
        have ew2 : IntKind.i64.wrap tt = tt := by rw [htt]; exact IntWalk.i64_in _ (by have := HTM.out m hm; omega)
        have hin := install_at (Sof (ZZ p1 p2) L1) L2 cf ⟨[], [], [], []⟩ m k tt ⟨none, 0, 0, none, 0, 0, none, 0, 0, none, 0, 0⟩ x3 (HT.out.was.ok HX3.out) HX3S.out (by rw [HL2P.out.2.2]; exact hm) (by rw [HL2P.out.2.1]; exact hkm.symm) (by rw [HLE2.out]; exact htt.symm) (HCZ.out _) HZL.out
        rw [HL2P.out.1, HL2P.out.2.2] at hin
        have HKM : Hid (k = i + m + 1 ∧ m < l.length) := Lib.hid ⟨hkm, hm⟩
        clear hhb hm hkm hkn htt
        go_wp2_with fail
        refine hin.mono ?_
        clear hin ew ew2
        rintro _ x4 ⟨rfl, L4, hi4⟩
        have HI4 := Lib.hid hi4
        clear hi4
        have HX4 : Hid (Kp (fun b => W.heap.size ≤ b) W x4) := Lib.hid ((Kp.of (HFIN.out.trans HX3.out)).then HI4.out.kp (fun j hj hb => HOW2.out j hb))
        have hpi := HPF.out x4
        go_wp2_with fail
        refine hpi.mono ?_
        clear hpi
        rintro _ x5 ⟨rfl, o5⟩
        have HB5 : Hid (Bx L4 x5) := Lib.hid (HI4.out.box.kp (S := fun _ => False) (Kp.of o5) (fun f => f))
        have HX5 := Lib.hid (HX4.out.ok o5)
        have HO5 : Hid (Ok x4 x5) := Lib.hid o5
        clear o5
        have hg0 : x5.cell? ⟨g, 0, none⟩ = some (.int .i64 i) := HO5.out.cell (HI4.out.kp.cell (HEV5.out.ok HX3.out).base.c0 (fun hb => HGN.out hb))
        go_upto_region 29 with fail
        have r0 := cell_regrown hg0
        have q18 : ∀ d os, Calls Try.prog 18 #[.pointer (some ⟨p2, 0, none⟩)] (Go.Sort.grow (redrawn x5 d) os) fun e w'' => e = .returned (.int .i64 (i + (l.length : Int))) ∧ ∃ q : Regrown, w'' = Go.Sort.grow (redrawn x5 q.d) q.os := fun d os => Rg (by
          have := lastM2_f L4 _ (HB5.out.kp (S := fun _ => False) (Kp.of (below_regrown x5 d os)) (fun f => f)) (by rw [HI4.out.i]; have := HB8.out; have := HI.out; omega) (by rw [HI4.out.i]; have := HB8.out; omega) (by rw [HI4.out.n]; have := HB0.out; omega)
          rw [HI4.out.p, HL2P.out.1, HI4.out.i, HI4.out.n, show k + ((l.length - (m + 1) : Nat) : Int) = i + (l.length : Int) from by have := HKM.out; omega] at this
          exact this)
        have e1 : IntKind.i64.wrap (i + (l.length : Int)) = i + (l.length : Int) := IntWalk.i64_in _ (by have := HB0.out; have := HI.out; omega)
        refine wp_region_quiet_below (by kernel_rfl) (by kernel_rfl) ?_
        refine HeldU.out ?_
        repeat (
          refine hqU_step (fun K hK => ?_)
          go_simp
          first
            | (refine hK _ ?_; clear hK K)
            | (apply Exists.intro
               refine ⟨fun _ => ?_, hK _ ?_⟩
               (with_reducible first
                 | exact q18 _ _)
               clear hK K))
        refine HeldU.mk (wpQuiet_nil ?_)
        intro _ hw'
        obtain ⟨⟨dq, osq⟩, hw''⟩ := hw'
        subst hw''
        have HX6 : Hid (Kp (fun b => W.heap.size ≤ b) W (Go.Sort.grow (redrawn x5 dq) osq)) := Lib.hid (HX5.out.ok (below_regrown x5 dq osq))
        clear q18 r0 hg0
        generalize Go.Sort.grow (redrawn x5 dq) osq = x6 at *
        go_wp2_with fail
        go_ret
        exact ⟨rfl, HX6.out.below (Nat.le_refl _) (fun _ h => h)⟩
      · obtain ⟨tw, htw⟩ : ∃ tw, IntKind.i64.wrap (tt + pk2) = tw := ⟨_, rfl⟩
        have hno : hasB L2 k = false ∨ ∃ j : Nat, j < L2.es.length ∧ k = L2.i + j + 1 ∧ (enA L2.es j).term ≠ tw := by
          cases hq : hasB L2 k with
          | false => exact .inl rfl
          | true =>
            obtain ⟨m, hm, hkm, hkn⟩ := has_out L2 k hq
            rw [HL2P.out.2.1] at hkn
            have h2 := HTB.out
            rw [hq, if_pos rfl, hkn] at h2
            have h3 : tt = (enA l m).term := (Prod.ext_iff.1 h2).1
            have h4 : tb = true := (Prod.ext_iff.1 h2).2
            have h5 : pk2 = 1 := by rcases HPI.out with q | q; exact absurd ⟨h4, q⟩ hA0; exact q
            refine .inr ⟨m, hm, hkm, ?_⟩
            rw [HLE2.out, ← h3, ← htw, h5]
            exact fun e => wrap_ne tt e.symm
        have hin := install_no (Sof (ZZ p1 p2) L1) L2 cf ⟨[], [], [], []⟩ k tw ⟨none, 0, 0, none, 0, 0, none, 0, 0, none, 0, 0⟩ x3 (HT.out.was.ok HX3.out) (by rw [HL2P.out.2.1]; exact HB8.out.2) hno (HCZ.out _) HOZ.out HZL.out
        rw [HL2P.out.1] at hin
        clear hno
        go_wp2_with fail
        refine hin.mono ?_
        clear hin htw
        rintro _ x4 ⟨rfl, L4, hi4⟩
        have HI4 := Lib.hid hi4
        clear hi4
        have HX4 : Hid (Kp (fun b => W.heap.size ≤ b) W x4) := Lib.hid ((Kp.of (HFIN.out.trans HX3.out)).then HI4.out.kp (fun j hj hb => HOW2.out j hb))
        have HL4 : Hid (∀ w', Ok x4 w' → Calls Try.prog 18 #[.pointer (some ⟨p2, 0, none⟩)] w' (Ret w' (.int .i64 k))) := Lib.hid fun w' o => by
          have := lastM2_f L4 w' (HI4.out.box.kp (S := fun _ => False) (Kp.of o) (fun f => f)) (by rw [HI4.out.i]; have := HB8.out; have := HI.out; omega) (by rw [HI4.out.i]; have := HB8.out; omega) (by rw [HI4.out.n]; omega)
          rw [HI4.out.p, HL2P.out.1, HI4.out.i, HI4.out.n, show k + ((0 : Nat) : Int) = k from by omega] at this
          exact this
        have HB4 : Hid (∀ w', Ok x4 w' → Calls Try.prog 23 #[.pointer (some ⟨p2, 0, none⟩)] w' (BaseR k L4.t w')) := Lib.hid fun w' o => by
          have := base_f L4 ⟨[], [], [], []⟩ w' (HI4.out.box.kp (S := fun _ => False) (Kp.of o) (fun f => f)) (HI4.out.cfg.ok o) HZL.out
          rwa [HI4.out.p, HL2P.out.1, HI4.out.i] at this
        cases tb with
        | false =>
          have HX5 : Hid (Ok x4 x4) := Lib.hid (Ok.refl x4)
          clear hA0
          have hl := HL4.out x4 HX5.out
          go_wp2_with fail
          refine hl.mono ?_
          clear hl
          rintro _ x6 ⟨rfl, o6⟩
          have HX6 : Hid (Ok x4 x6) := Lib.hid o6
          clear o6
          have hb := HB4.out x6 HX6.out
          go_wp2_with fail
          refine hb.mono ?_
          clear hb
          rintro _ x7 ⟨sc, rfl, o7⟩
          unfold BaseV
          have hfd := field27 k L4.t sc
          go_wp2_with fail
          go_ret
          exact ⟨rfl, (HX4.out.ok (HX6.out.trans o7)).below (Nat.le_refl _) (fun _ h => h)⟩
        | true =>
          have h5 : pk2 = 1 := by rcases HPI.out with q | q; exact absurd ⟨rfl, q⟩ hA0; exact q
          subst h5
          clear hA0
          have hpi := HPF.out x4
          go_wp2_with fail
          refine hpi.mono ?_
          clear hpi
          rintro _ x5 ⟨rfl, o5⟩
          have HX5 : Hid (Ok x4 x5) := Lib.hid o5
          clear o5
          have hl := HL4.out x5 HX5.out
          go_wp2_with fail
          refine hl.mono ?_
          clear hl
          rintro _ x6 ⟨rfl, o6⟩
          have HX6 : Hid (Ok x4 x6) := Lib.hid (HX5.out.trans o6)
          clear o6
          have hb := HB4.out x6 HX6.out
          go_wp2_with fail
          refine hb.mono ?_
          clear hb
          rintro _ x7 ⟨sc, rfl, o7⟩
          unfold BaseV
          have hfd := field27 k L4.t sc
          go_wp2_with fail
          go_ret
          exact ⟨rfl, (HX4.out.ok (HX6.out.trans o7)).below (Nat.le_refl _) (fun _ h => h)⟩
end Go.Proofs.Ytebhcadolnjplaa
