/- The law LogTake. -/
import Derived.Test.YtebhcadolnjplaaGy
import Derived.Test.YtebhcadolnjplaaGw
namespace Go.Proofs.Ytebhcadolnjplaa
open Go.RowKit

def a2 (i t : Int) (s : S4) (A B : Option Addr) (n c k e : Nat) (x : Int) : Array Value := #[.int .i64 0, .int .i64 x, .slice A n c, .int .i64 i, .int .i64 t, .slice s.A0 s.n0 s.c0, .slice s.A1 s.n1 s.c1, .slice s.A2 s.n2 s.c2, .slice s.A3 s.n3 s.c3, .int .i64 0, .int .i64 0, .slice B k e, .int .i64 0, .int .i64 0, .slice none 0 0, .slice none 0 0, .slice none 0 0, .slice none 0 0]
structure Fits (i x : Int) (cf : Cfg) (l row : List En) : Prop where
  ll : l.length ≤ 400
  el : ∀ j, j < l.length → enN (enA l j) ≤ 400
  rr : row.length ≤ 400
  er : ∀ j, j < row.length → enN (enA row j) ≤ 400
  ii : i ≤ 1073741824
  xx : x ≤ 1073741824
  cfg : CfgLe cf
def Great2 (i x : Int) (cf : Cfg) (l row : List En) (w : World) (y : Ending) (w' : World) : Prop := ∃ b, y = .returned (.bool b) ∧ Ok w w' ∧ (b = false → Fits i x cf l row)
theorem great2 (i t : Int) (s : S4) (cf : Cfg) (A B : Option Addr) (c e : Nat) (l row : List En) (x : Int) (w : World) (hc : CfgAt w s cf) (h1 : EnsIn NoB w A l) (h2 : EnsIn NoB w B row) (hn1 : l.length ≤ 17592186044416) (hn2 : row.length ≤ 17592186044416) :
    Calls Try.prog 11 #[.slice (some ⟨w.heap.size, 0, none⟩) 2 2] (w.alloc (.cells (a2 i t s A B l.length c row.length e x) 29)) (Great2 i x cf l row w) := by
  have o : Ok w (w.alloc (.cells (a2 i t s A B l.length c row.length e x) 29)) := (Ok.refl w).alloc _
  refine (great_f NoB w.heap.size 0 2 2 (fun j => if j = 0 then ⟨0, x, A, l.length, c, i, t, s⟩ else ⟨0, 0, B, row.length, e, 0, 0, ⟨none, 0, 0, none, 0, 0, none, 0, 0, none, 0, 0⟩⟩) (fun j => if j = 0 then l else row) (fun j => if j = 0 then cf else ⟨[], [], [], []⟩) (by decide) _ ?_).mono ?_
  · intro j hj
    match j, hj with
    | 0, _ => exact ⟨box_cell _ _ _ _ _ rfl, box_cell _ _ _ _ _ rfl, box_cell _ _ _ _ _ rfl, box_cell _ _ _ _ _ rfl, box_cell _ _ _ _ _ rfl, box_cell _ _ _ _ _ rfl, box_cell _ _ _ _ _ rfl, h1.kp (Kp.of (S := fun _ => False) o) (fun _ f => f.elim), rfl, hn1, hc.ok o⟩
    | 1, _ => exact ⟨box_cell _ _ _ _ _ rfl, box_cell _ _ _ _ _ rfl, box_cell _ _ _ _ _ rfl, box_cell _ _ _ _ _ rfl, box_cell _ _ _ _ _ rfl, box_cell _ _ _ _ _ rfl, box_cell _ _ _ _ _ rfl, h2.kp (Kp.of (S := fun _ => False) o) (fun _ f => f.elim), rfl, hn2, ⟨InI.nil _, InI.nil _, InI.nil _, InI.nil _⟩⟩
  · rintro y w' ⟨b, rfl, ok, hb⟩
    refine ⟨b, rfl, o.trans ok, fun q => ?_⟩
    have a := hb q 0 (by decide)
    have d := hb q 1 (by decide)
    exact ⟨a.len, a.ens, d.len, d.ens, a.bi, a.index, cfg_le a.cfg⟩


set_option maxRecDepth 100000 in
set_option maxHeartbeats 4000000 in
theorem take_law (i t : Int) (s : S4) (cf : Cfg) (A B : Option Addr) (c e : Nat) (l row : List En) (x : Int) (W : World) (hc : CfgAt W s cf) (h1 : EnsIn NoB W A l) (h2 : EnsIn NoB W B row) (hn1 : l.length ≤ 17592186044416) (hn2 : row.length ≤ 17592186044416) (he : row.length ≤ e) :
    Calls Try.prog 5 #[.agg #[.int .i64 i, .int .i64 t, .slice s.A0 s.n0 s.c0, .slice s.A1 s.n1 s.c1, .slice s.A2 s.n2 s.c2, .slice s.A3 s.n3 s.c3], .slice A l.length c, .int .i64 x, .slice B row.length e] W (Ret W (.bool true)) := by
  have HC := Lib.hid hc
  have H1 := Lib.hid h1
  have H2 := Lib.hid h2
  have HA : Hid (Six W.heap.size (.int .i64 i) (.int .i64 t) (.slice s.A0 s.n0 s.c0) (.slice s.A1 s.n1 s.c1) (.slice s.A2 s.n2 s.c2) (.slice s.A3 s.n3 s.c3) (W.alloc (.cells #[.int .i64 i, .int .i64 t, .slice s.A0 s.n0 s.c0, .slice s.A1 s.n1 s.c1, .slice s.A2 s.n2 s.c2, .slice s.A3 s.n3 s.c3] 27))) := Lib.hid (Six.new _ _ _ _ _ _ _ _)
  have HO : Hid (Ok W (W.alloc (.cells #[.int .i64 i, .int .i64 t, .slice s.A0 s.n0 s.c0, .slice s.A1 s.n1 s.c1, .slice s.A2 s.n2 s.c2, .slice s.A3 s.n3 s.c3] 27))) := Lib.hid ((Ok.refl W).alloc _)
  have HZ : Hid (W.heap.size + 1 ≤ (W.alloc (.cells #[.int .i64 i, .int .i64 t, .slice s.A0 s.n0 s.c0, .slice s.A1 s.n1 s.c1, .slice s.A2 s.n2 s.c2, .slice s.A3 s.n3 s.c3] 27)).heap.size) := Lib.hid (by rw [World.size_alloc]; omega)
  clear hc h1 h2
  go_enter Try.func5, Try.ntmps5
  go_wp2_with fail
  generalize (W.alloc (.cells #[.int .i64 i, .int .i64 t, .slice s.A0 s.n0 s.c0, .slice s.A1 s.n1 s.c1, .slice s.A2 s.n2 s.c2, .slice s.A3 s.n3 s.c3] 27)) = w0 at *
  obtain ⟨g, hg⟩ : ∃ g, W.heap.size = g := ⟨_, rfl⟩
  have HG := Lib.hid hg
  rw [hg] at HA HZ ⊢
  clear hg
  refine (awake_f w0).mono ?_
  rintro _ w1 ⟨rfl, o1⟩
  have HO1 : Hid (Ok w0 w1) := Lib.hid o1
  have HA1 := Lib.hid (HA.out.ok o1)
  clear o1
  have c0 := HA1.out.c0
  have c1 := HA1.out.c1
  have c2 := HA1.out.c2
  have c3 := HA1.out.c3
  have c4 := HA1.out.c4
  have c5 := HA1.out.c5
  go_wp2_with fail
  have HE1 : Hid (EnsIn NoB w1 A l) := Lib.hid (H1.out.kp (Kp.of (S := fun _ => False) (HO.out.trans HO1.out)) (fun _ f => f.elim))
  have HE2 : Hid (EnsIn NoB w1 B row) := Lib.hid (H2.out.kp (Kp.of (S := fun _ => False) (HO.out.trans HO1.out)) (fun _ f => f.elim))
  have HC1 := Lib.hid (HC.out.ok (HO.out.trans HO1.out))
  have hgr := great2 i t s cf A B c e l row x w1 HC1.out HE1.out HE2.out hn1 hn2
  unfold a2 at hgr
  refine hgr.mono ?_
  clear hgr c0 c1 c2 c3 c4 c5
  rintro _ w2 ⟨b, rfl, o2, hb⟩
  have HO2 : Hid (Ok w0 w2) := Lib.hid (HO1.out.trans o2)
  have HA2 := Lib.hid (HA1.out.ok o2)
  have HE1 : Hid (EnsIn NoB w2 A l) := Lib.hid (HE1.out.kp (Kp.of (S := fun _ => False) o2) (fun _ f => f.elim))
  have HE2 : Hid (EnsIn NoB w2 B row) := Lib.hid (HE2.out.kp (Kp.of (S := fun _ => False) o2) (fun _ f => f.elim))
  have HC2 := Lib.hid (HC1.out.ok o2)
  have HFIT := Lib.hid hb
  clear hb o2 HC1
  cases b with
  | true =>
    clear HA1
    go_wp2_with fail
    go_ret
    exact ⟨rfl, HO.out.trans HO2.out⟩
  | false =>
  have c0 := HA2.out.c0
  by_cases hi0 : i < 0
  · have d1 : decide (i < 0) = true := decide_eq_true hi0
    go_wp2_with fail
    go_ret
    exact ⟨rfl, HO.out.trans HO2.out⟩
  have d1 : decide (i < 0) = false := decide_eq_false hi0
  have c1 := HA2.out.c1
  by_cases ht0 : t < 0
  · have d2 : decide (t < 0) = true := decide_eq_true ht0
    go_wp2_with fail
    go_ret
    exact ⟨rfl, HO.out.trans HO2.out⟩
  have d2 : decide (t < 0) = false := decide_eq_false ht0
  have HI : Hid (0 ≤ i ∧ 0 ≤ t) := Lib.hid ⟨by omega, by omega⟩
  clear hi0 ht0
  have FIT := Lib.hid (HFIT.out rfl)
  clear HFIT HO1 HA1
  go_upto_region 5 with fail
  rename_i K0 hK0
  have HK0 := Lib.hid hK0
  clear hK0 d1 d2
  refine Until.begin (S := fun w => w.cell? ⟨g, 0, none⟩ = some (.int .i64 i) ∧ w.cell? ⟨g, 1, none⟩ = some (.int .i64 t) ∧ w.cell? ⟨g, 2, none⟩ = some (.slice s.A0 s.n0 s.c0) ∧ w.cell? ⟨g, 3, none⟩ = some (.slice s.A1 s.n1 s.c1) ∧ w.cell? ⟨g, 4, none⟩ = some (.slice s.A2 s.n2 s.c2) ∧ w.cell? ⟨g, 5, none⟩ = some (.slice s.A3 s.n3 s.c3)) (j := 5) (by kernel_rfl) ?_ ?_
  · have k := HA2.out.ok ((Ok.refl w2).drew)
    exact ⟨k.c0, k.c1, k.c2, k.c3, k.c4, k.c5⟩
  intro hS
  have HD : Hid (Ok w2 w2.drew) := Lib.hid ((Ok.refl w2).drew)
  clear c0 c1
  have HCC := Lib.hid (HC2.out.ok HD.out)
  generalize w2.drew = v0 at *
  refine Until.take (i := 0) (v := ?v0) rfl (by kernel_rfl) (by kernel_rfl) (by kernel_rfl) (by kernel_rfl) (fun _ _ _ h => h) (Or.inl ⟨by rfl, ?hy0⟩) hS ?rest0
  case hy0 => ((intro w hSw; (try dsimp only at hSw)); obtain ⟨z0, z1, z2, z3, z4, z5⟩ := hSw; go_simp; (try with_reducible rfl))
  try go_frame
  refine Until.take (i := 2) (v := ?v2) rfl (by kernel_rfl) (by kernel_rfl) (by kernel_rfl) (by kernel_rfl) (fun _ _ _ h => h) (Or.inl ⟨by rfl, ?hy2⟩) hS ?rest2
  case hy2 => ((intro w hSw; (try dsimp only at hSw)); obtain ⟨z0, z1, z2, z3, z4, z5⟩ := hSw; go_simp; (try with_reducible rfl))
  try go_frame
  refine Until.one (i := 1) (by kernel_rfl) rfl (fun K hK => ?_)
  have HK := Lib.hid hK
  clear hK
  go_simp
  refine (new_f i t s cf v0 HCC.out FIT.out.cfg HI.out.1 FIT.out.ii HI.out.2).mono ?_
  rintro _ v1 ⟨p1, s1, rfl, hp, ok, hl⟩
  have HP1 : Hid (v0.heap.size ≤ p1) := Lib.hid hp
  have ON1 : Hid (Ok v0 v1) := Lib.hid ok
  have HN1 : Hid (∀ S : Nat → Prop, LogAt (Sof S (LG.new p1 i t s1)) (LG.new p1 i t s1) v1) := Lib.hid hl
  have HS1 : Hid (_ ∧ _ ∧ _ ∧ _ ∧ _ ∧ _) := Lib.hid ⟨ok.cell hS.1, ok.cell hS.2.1, ok.cell hS.2.2.1, ok.cell hS.2.2.2.1, ok.cell hS.2.2.2.2.1, ok.cell hS.2.2.2.2.2⟩
  clear hp ok hl hS
  refine HK.out.out _ _ (fun _ => HS1.out) (fun _ => ?_)
  have hS := HS1.out
  clear HS1 HK K
  try go_frame
  refine Until.one (i := 3) (by kernel_rfl) rfl (fun K hK => ?_)
  have HK := Lib.hid hK
  clear hK
  go_simp
  refine (new_f i t s cf v1 (HCC.out.ok ON1.out) FIT.out.cfg HI.out.1 FIT.out.ii HI.out.2).mono ?_
  rintro _ v2 ⟨p2, s2, rfl, hp, ok, hl⟩
  have HP2 : Hid (v1.heap.size ≤ p2) := Lib.hid hp
  have ON2 : Hid (Ok v1 v2) := Lib.hid ok
  have HN2 : Hid (∀ S : Nat → Prop, LogAt (Sof S (LG.new p2 i t s2)) (LG.new p2 i t s2) v2) := Lib.hid hl
  have HS2 : Hid (_ ∧ _ ∧ _ ∧ _ ∧ _ ∧ _) := Lib.hid ⟨ok.cell hS.1, ok.cell hS.2.1, ok.cell hS.2.2.1, ok.cell hS.2.2.2.1, ok.cell hS.2.2.2.2.1, ok.cell hS.2.2.2.2.2⟩
  clear hp ok hl hS
  refine HK.out.out _ _ (fun _ => HS2.out) (fun _ => ?_)
  have hS := HS2.out
  clear HS2 HK K
  try go_frame
  have HS4 := Lib.hid hS
  clear hS
  refine Until.one (i := 4) (by kernel_rfl) rfl (fun K hK => ?_)
  have HK := Lib.hid hK
  clear hK
  go_simp
  refine HK.out.out _ _ (fun _ => HS4.out) (fun _ => ?_)
  clear HK K
  try go_frame
  refine Until.one (i := 5) (by kernel_rfl) rfl (fun K hK => ?_)
  have HK := Lib.hid hK
  clear hK
  go_simp
  refine HK.out.out _ _ (fun h => absurd (h.symm.trans (by kernel_rfl : _ = true)) Bool.false_ne_true) (fun _ => ?_)
  clear HK K
  try go_frame
  refine Until.done (by kernel_rfl) ?_ _
  refine HK0.out _ _ ?_
  clear HK0 HS4
  have HV0 : Hid (g + 1 ≤ v0.heap.size) := Lib.hid (Nat.le_trans HZ.out (Nat.le_trans HO2.out.size HD.out.size))
  have HVP2 : Hid (p2 < v2.heap.size) := Lib.hid ((HN2.out NoB).lt p2 (.inl rfl))
  have HNE : Hid (p1 ≠ p2) := Lib.hid (by have := (HN1.out NoB).lt p1 (.inl rfl); have := HP2.out; omega)
  have HF2 : Hid (v0.heap.size ≤ p2) := Lib.hid (Nat.le_trans ON1.out.size HP2.out)
  have HM1 : Hid (∀ S : Nat → Prop, LogAt (Sof S (LG.new p1 i t s1)) (LG.new p1 i t s1) v2) := Lib.hid fun S => (HN1.out S).ok ON2.out
  have HEV : Hid (Env v0 g i t s A B l row v2) := Lib.hid ((⟨HA2.out.ok HD.out, (HE1.out.kp (Kp.of (S := fun _ => False) HD.out) (fun _ f => f.elim)).far, (HE2.out.kp (Kp.of (S := fun _ => False) HD.out) (fun _ f => f.elim)).far, Kp.refl _ _⟩ : Env v0 g i t s A B l row v0).ok (ON1.out.trans ON2.out))
  have HW0 : Hid (Ok W v0) := Lib.hid ((HO.out.trans HO2.out).trans HD.out)
  have HZV : Hid (∀ b, ZZ p1 p2 b → b < v2.heap.size) := Lib.hid fun b hb => hb.elim (fun q => q ▸ (HM1.out NoB).lt p1 (.inl rfl)) (fun q => q ▸ HVP2.out)
  have HSZ : Hid (v0.heap.size ≤ v2.heap.size) := Lib.hid (Nat.le_trans ON1.out.size ON2.out.size)
  clear HN1 HA2 HE1 HE2 HC2 HCC HD HO HO2 HZ HA HC ON1 ON2 HP2
  have hput := putM_f (ZZ p1 p2) (LG.new p1 i t s1) A l.length c l rfl v2 (HM1.out _) HZV.out (HEV.out.en1.mono fun b hb => by
    show v0.heap.size ≤ b
    have := HP1.out
    have := HF2.out
    rcases hb with (q | q) | q
    · omega
    · omega
    · have := new_ow q; omega) (fun j hj => en_le (FIT.out.el j hj)) (by have := FIT.out.ll; show 0 + l.length ≤ 1000; omega) (by have := FIT.out.ll; show 0 + l.length ≤ 1000; omega)
  go_wp2_with fail
  refine hput.mono ?_
  clear hput
  rintro _ v3 ⟨rfl, L1, hg1⟩
  have HG1 := Lib.hid hg1
  have HEV3 : Hid (Env v0 g i t s A B l row v3) := Lib.hid (HEV.out.kept HV0.out hg1.kp fun b hb => by have := new_ow hb; have := HP1.out; show v0.heap.size ≤ b; omega)
  clear hg1 HEV HM1
  have hput := putM_f (Sof (ZZ p1 p2) L1) (LG.new p2 i t s2) A l.length c l rfl v3 (second_stays HNE.out HN2.out HG1.out) (fun b hb => by
    have := HG1.out.kp.size
    rcases hb with q | q
    · have := HZV.out b q; omega
    · exact HG1.out.log.lt b q) (HEV3.out.en1.mono fun b hb => by
    show v0.heap.size ≤ b
    have := HP1.out
    have := HF2.out
    have := HSZ.out
    rcases hb with ((q | q) | q) | q
    · omega
    · omega
    · have := one_ow HG1.out q; omega
    · have := new_ow q; omega) (fun j hj => en_le (FIT.out.el j hj)) (by have := FIT.out.ll; show 0 + l.length ≤ 1000; omega) (by have := FIT.out.ll; show 0 + l.length ≤ 1000; omega)
  go_wp2_with fail
  refine hput.mono ?_
  clear hput
  rintro _ v4 ⟨rfl, L2, hg2⟩
  have HG2 := Lib.hid hg2
  have HEV4 : Hid (Env v0 g i t s A B l row v4) := Lib.hid (HEV3.out.kept HV0.out hg2.kp fun b hb => by have := new_ow hb; have := HF2.out; show v0.heap.size ≤ b; omega)
  have HL2P : Hid (L2.p = p2 ∧ L2.i = i ∧ L2.es.length = l.length) := Lib.hid ⟨hg2.ext.p, hg2.ext.i, by have e : L2.es = l := hg2.ext.es; rw [e]⟩
  clear hg2 HEV3 HN2 HZV
  have htk := take_all HNE.out HVP2.out HG1.out HG2.out HEV4.out (Nat.lt_of_succ_le HV0.out) HP1.out HF2.out HSZ.out x e he FIT.out.ll FIT.out.rr FIT.out.er
  go_wp2_with fail
  refine htk.mono ?_
  clear htk
  rintro _ v5 ⟨at', L', M, rfl, hev, htk⟩
  have HEV5 := Lib.hid hev
  have HT := Lib.hid htk
  clear hev HEV4 HG1 HG2
  have c0 := HEV5.out.base.c0
  have HB0 : Hid (i ≤ 1073741824 ∧ x ≤ 1073741824 ∧ l.length ≤ 400 ∧ row.length ≤ 400) := Lib.hid ⟨FIT.out.ii, FIT.out.xx, FIT.out.ll, FIT.out.rr⟩
  have HFIN : Hid (Ok W v5) := Lib.hid (((Kp.of (S := fun b => W.heap.size ≤ b) HW0.out).then HEV5.out.kp (fun j _ hb => Nat.le_trans HW0.out.size hb)).below (Nat.le_refl _) (fun _ h => h))
  rcases htk.way with ⟨rfl, hm, hle⟩ | ⟨hat, hx, hat1, hat2, hles, hrow, hagain⟩
  · have HLE : Hid (L'.es.length = l.length) := Lib.hid hle
    subst hm
    clear htk hle
    by_cases ha : i < x
    · have d1 : decide (i < x) = true := decide_eq_true ha
      by_cases hb : x ≤ i + (l.length : Int) + 1
      · have d2 : decide (x ≤ i + (l.length : Int) + 1) = true := decide_eq_true hb
        clear ha hb
        have bx := HB0.out
        have e1 : IntKind.i64.wrap (i + (l.length : Int)) = i + (l.length : Int) := IntWalk.i64_in _ (by have := HI.out; omega)
        have e2 : IntKind.i64.wrap (i + (l.length : Int) + 1) = i + (l.length : Int) + 1 := IntWalk.i64_in _ (by have := HI.out; omega)
        clear bx
        go_upto_region 11 with fail
        clear e1 e2 c0
        obtain ⟨z, hz⟩ : ∃ z, i + (l.length : Int) = z := ⟨_, rfl⟩
        have hla := lastM_f (Sof (Sof (ZZ p1 p2) L1) L2) L2 v5 HT.out.was
        rw [HL2P.out.1, HL2P.out.2.1, HL2P.out.2.2, hz] at hla
        have HZ0 : Hid (i ≤ z + 1 ∧ z ≤ 1073742824 ∧ z = i + (l.length : Int)) := Lib.hid (by have := HB0.out; omega)
        clear hz
        go_wp2_with fail
        refine hla.mono ?_
        clear hla
        rintro _ v6 ⟨rfl, o6⟩
        have HO6 := Lib.hid o6
        have c0 := o6.cell HEV5.out.base.c0
        clear o6
        go_wp2_with fail
        clear c0
        clear HEV5
        go_loopw [14, 15, 16, 17, 18] (fun v14 _ _ _ _ wr => ∃ y : Int, v14 = .int .i64 y ∧ i ≤ y ∧ y ≤ z + 1 ∧ Ok v5 wr) (fun v14 _ _ _ _ _ => (z + 1 - intOf v14).toNat)
        case atStart => exact ⟨i, rfl, Int.le_refl _, by have := HZ0.out; omega, HO6.out⟩
        case round =>
          obtain ⟨y, rfl, hy0, hy1, okr⟩ := hrel
          have HOK := Lib.hid okr
          clear okr HO6
          by_cases hlt : y ≤ z
          · have d1 : decide (y ≤ z) = true := decide_eq_true hlt
            have ha1 := atM_f (Sof (ZZ p1 p2) L') L' y wr (HT.out.l.ok HOK.out)
            rw [HT.out.pe] at ha1
            go_wp2_with fail
            refine ha1.mono ?_
            clear ha1
            rintro _ u1 ⟨r1, rfl, hr1, o1⟩
            have HR1 : Hid (EnAt NoB u1 r1 (atB L2 y)) := Lib.hid (by rw [← HT.out.same y hy0 (HZ0.out.2.2 ▸ hlt)]; exact hr1 NoB (fun _ f => f.elim))
            have HU1 : Hid (Ok v5 u1) := Lib.hid (HOK.out.trans o1)
            have HK1 : Hid (Ok u1 (u1.alloc (.cells #[.int .i64 r1.term, .int .u8 r1.kind, .slice r1.A r1.n r1.c, .slice r1.s.A0 r1.s.n0 r1.s.c0, .slice r1.s.A1 r1.s.n1 r1.s.c1, .slice r1.s.A2 r1.s.n2 r1.s.c2, .slice r1.s.A3 r1.s.n3 r1.s.c3] 44))) := Lib.hid ((Ok.refl _).alloc _)
            have HV1 : Hid (Sev u1.heap.size (.int .i64 r1.term) (.int .u8 r1.kind) (.slice r1.A r1.n r1.c) (.slice r1.s.A0 r1.s.n0 r1.s.c0) (.slice r1.s.A1 r1.s.n1 r1.s.c1) (.slice r1.s.A2 r1.s.n2 r1.s.c2) (.slice r1.s.A3 r1.s.n3 r1.s.c3) (u1.alloc (.cells #[.int .i64 r1.term, .int .u8 r1.kind, .slice r1.A r1.n r1.c, .slice r1.s.A0 r1.s.n0 r1.s.c0, .slice r1.s.A1 r1.s.n1 r1.s.c1, .slice r1.s.A2 r1.s.n2 r1.s.c2, .slice r1.s.A3 r1.s.n3 r1.s.c3] 44))) := Lib.hid (Sev.new _ _ _ _ _ _ _ _ _)
            clear hr1 o1 HOK
            unfold ER.val
            go_wp2_with fail
            generalize (u1.alloc (.cells #[.int .i64 r1.term, .int .u8 r1.kind, .slice r1.A r1.n r1.c, .slice r1.s.A0 r1.s.n0 r1.s.c0, .slice r1.s.A1 r1.s.n1 r1.s.c1, .slice r1.s.A2 r1.s.n2 r1.s.c2, .slice r1.s.A3 r1.s.n3 r1.s.c3] 44)) = k1 at *
            obtain ⟨g1, hg1⟩ : ∃ g1, u1.heap.size = g1 := ⟨_, rfl⟩
            rw [hg1] at HV1 ⊢
            clear hg1
            have HR1 := Lib.hid (HR1.out.ok HK1.out)
            have HU1 : Hid (Ok v5 k1) := Lib.hid (HU1.out.trans HK1.out)
            clear HK1
            have ha2 := atM_f (Sof (Sof (ZZ p1 p2) L1) L2) L2 y k1 (HT.out.was.ok HU1.out)
            rw [HL2P.out.1] at ha2
            refine ha2.mono ?_
            clear ha2
            rintro _ u2 ⟨r2, rfl, hr2, o2⟩
            have HR2 : Hid (EnAt NoB u2 r2 (atB L2 y)) := Lib.hid (hr2 NoB (fun _ f => f.elim))
            have HR1 := Lib.hid (HR1.out.ok o2)
            have HV1 := Lib.hid (HV1.out.ok o2)
            have HU2 : Hid (Ok v5 u2) := Lib.hid (HU1.out.trans o2)
            have HK2 : Hid (Ok u2 (u2.alloc (.cells #[.int .i64 r2.term, .int .u8 r2.kind, .slice r2.A r2.n r2.c, .slice r2.s.A0 r2.s.n0 r2.s.c0, .slice r2.s.A1 r2.s.n1 r2.s.c1, .slice r2.s.A2 r2.s.n2 r2.s.c2, .slice r2.s.A3 r2.s.n3 r2.s.c3] 44))) := Lib.hid ((Ok.refl _).alloc _)
            have HV2 : Hid (Sev u2.heap.size (.int .i64 r2.term) (.int .u8 r2.kind) (.slice r2.A r2.n r2.c) (.slice r2.s.A0 r2.s.n0 r2.s.c0) (.slice r2.s.A1 r2.s.n1 r2.s.c1) (.slice r2.s.A2 r2.s.n2 r2.s.c2) (.slice r2.s.A3 r2.s.n3 r2.s.c3) (u2.alloc (.cells #[.int .i64 r2.term, .int .u8 r2.kind, .slice r2.A r2.n r2.c, .slice r2.s.A0 r2.s.n0 r2.s.c0, .slice r2.s.A1 r2.s.n1 r2.s.c1, .slice r2.s.A2 r2.s.n2 r2.s.c2, .slice r2.s.A3 r2.s.n3 r2.s.c3] 44))) := Lib.hid (Sev.new _ _ _ _ _ _ _ _ _)
            clear hr2 o2 HU1
            unfold ER.val
            go_upto_region 19 with fail
            generalize (u2.alloc (.cells #[.int .i64 r2.term, .int .u8 r2.kind, .slice r2.A r2.n r2.c, .slice r2.s.A0 r2.s.n0 r2.s.c0, .slice r2.s.A1 r2.s.n1 r2.s.c1, .slice r2.s.A2 r2.s.n2 r2.s.c2, .slice r2.s.A3 r2.s.n3 r2.s.c3] 44)) = k2 at *
            obtain ⟨g2, hg2⟩ : ∃ g2, u2.heap.size = g2 := ⟨_, rfl⟩
            rw [hg2] at HV2 ⊢
            clear hg2
            have HR1 := Lib.hid (HR1.out.ok HK2.out)
            have HR2 := Lib.hid (HR2.out.ok HK2.out)
            have HV1 := Lib.hid (HV1.out.ok HK2.out)
            have HU2 : Hid (Ok v5 k2) := Lib.hid (HU2.out.trans HK2.out)
            have hse := sameEntry_f NoB NoB r1 r2 (atB L2 y) k2 HR1.out HR2.out
            unfold ER.val at hse
            have a0 := HV1.out.c0
            have a1 := HV1.out.c1
            have a2 := HV1.out.c2
            have a3 := HV1.out.c3
            have a4 := HV1.out.c4
            have a5 := HV1.out.c5
            have a6 := HV1.out.c6
            have b0 := HV2.out.c0
            have b1 := HV2.out.c1
            have b2 := HV2.out.c2
            have b3 := HV2.out.c3
            have b4 := HV2.out.c4
            have b5 := HV2.out.c5
            have b6 := HV2.out.c6
            clear HK2 HV1 HV2
            go_wp2_with fail
            refine hse.mono ?_
            clear hse a0 a1 a2 a3 a4 a5 a6 b0 b1 b2 b3 b4 b5 b6
            rintro _ u3 ⟨rfl, o3⟩
            have HU3 : Hid (Ok v5 u3) := Lib.hid (HU2.out.trans o3)
            clear o3 HU2
            have ey : IntKind.i64.wrap (y + 1) = y + 1 := IntWalk.i64_in _ (by have := HZ0.out; have := HI.out; omega)
            have HLT : Hid ((z + 1 - (y + 1)).toNat < (z + 1 - y).toNat) := Lib.hid (by omega)
            go_wp2_with fail
            first | exact ⟨⟨y + 1, rfl, by omega, by omega, HU3.out⟩, HLT.out⟩ | (refine ⟨?_, HLT.out⟩; (repeat apply Exists.intro); exact ⟨⟨y + 1, rfl, by omega, by omega, HU3.out⟩, rfl⟩)
          · have d1 : decide (y ≤ z) = false := decide_eq_false hlt
            have HO7 : Hid (Ok v5 wr) := Lib.hid HOK.out
            clear hy0 hy1 hlt HOK
            go_upto_region 21 with fail
            clear d1
            have hl1 := lastM_f (Sof (ZZ p1 p2) L') L' wr (HT.out.l.ok HO7.out)
            rw [HT.out.pe, HT.out.ie, HLE.out] at hl1
            go_wp2_with fail
            refine hl1.mono ?_
            clear hl1
            rintro _ w8 ⟨rfl, o8⟩
            have HO8 := Lib.hid (HO7.out.trans o8)
            clear o8 HO7
            have hl2 := lastM_f (Sof (Sof (ZZ p1 p2) L1) L2) L2 w8 (HT.out.was.ok HO8.out)
            rw [HL2P.out.1, HL2P.out.2.1, HL2P.out.2.2] at hl2
            go_wp2_with fail
            refine hl2.mono ?_
            clear hl2
            rintro _ w9 ⟨rfl, o9⟩
            go_wp2_with fail
            go_ret
            exact ⟨rfl, HFIN.out.trans (HO8.out.trans o9)⟩
      · have d2 : decide (x ≤ i + (l.length : Int) + 1) = false := decide_eq_false hb
        clear ha hb
        have bx := HB0.out
        have e1 : IntKind.i64.wrap (i + (l.length : Int)) = i + (l.length : Int) := IntWalk.i64_in _ (by have := HI.out; omega)
        have e2 : IntKind.i64.wrap (i + (l.length : Int) + 1) = i + (l.length : Int) + 1 := IntWalk.i64_in _ (by have := HI.out; omega)
        clear bx
        go_upto_region 11 with fail
        clear e1 e2 c0
        obtain ⟨z, hz⟩ : ∃ z, i + (l.length : Int) = z := ⟨_, rfl⟩
        have hla := lastM_f (Sof (Sof (ZZ p1 p2) L1) L2) L2 v5 HT.out.was
        rw [HL2P.out.1, HL2P.out.2.1, HL2P.out.2.2, hz] at hla
        have HZ0 : Hid (i ≤ z + 1 ∧ z ≤ 1073742824 ∧ z = i + (l.length : Int)) := Lib.hid (by have := HB0.out; omega)
        clear hz
        go_wp2_with fail
        refine hla.mono ?_
        clear hla
        rintro _ v6 ⟨rfl, o6⟩
        have HO6 := Lib.hid o6
        have c0 := o6.cell HEV5.out.base.c0
        clear o6
        go_wp2_with fail
        clear c0
        clear HEV5
        go_loopw [14, 15, 16, 17, 18] (fun v14 _ _ _ _ wr => ∃ y : Int, v14 = .int .i64 y ∧ i ≤ y ∧ y ≤ z + 1 ∧ Ok v5 wr) (fun v14 _ _ _ _ _ => (z + 1 - intOf v14).toNat)
        case atStart => exact ⟨i, rfl, Int.le_refl _, by have := HZ0.out; omega, HO6.out⟩
        case round =>
          obtain ⟨y, rfl, hy0, hy1, okr⟩ := hrel
          have HOK := Lib.hid okr
          clear okr HO6
          by_cases hlt : y ≤ z
          · have d1 : decide (y ≤ z) = true := decide_eq_true hlt
            have ha1 := atM_f (Sof (ZZ p1 p2) L') L' y wr (HT.out.l.ok HOK.out)
            rw [HT.out.pe] at ha1
            go_wp2_with fail
            refine ha1.mono ?_
            clear ha1
            rintro _ u1 ⟨r1, rfl, hr1, o1⟩
            have HR1 : Hid (EnAt NoB u1 r1 (atB L2 y)) := Lib.hid (by rw [← HT.out.same y hy0 (HZ0.out.2.2 ▸ hlt)]; exact hr1 NoB (fun _ f => f.elim))
            have HU1 : Hid (Ok v5 u1) := Lib.hid (HOK.out.trans o1)
            have HK1 : Hid (Ok u1 (u1.alloc (.cells #[.int .i64 r1.term, .int .u8 r1.kind, .slice r1.A r1.n r1.c, .slice r1.s.A0 r1.s.n0 r1.s.c0, .slice r1.s.A1 r1.s.n1 r1.s.c1, .slice r1.s.A2 r1.s.n2 r1.s.c2, .slice r1.s.A3 r1.s.n3 r1.s.c3] 44))) := Lib.hid ((Ok.refl _).alloc _)
            have HV1 : Hid (Sev u1.heap.size (.int .i64 r1.term) (.int .u8 r1.kind) (.slice r1.A r1.n r1.c) (.slice r1.s.A0 r1.s.n0 r1.s.c0) (.slice r1.s.A1 r1.s.n1 r1.s.c1) (.slice r1.s.A2 r1.s.n2 r1.s.c2) (.slice r1.s.A3 r1.s.n3 r1.s.c3) (u1.alloc (.cells #[.int .i64 r1.term, .int .u8 r1.kind, .slice r1.A r1.n r1.c, .slice r1.s.A0 r1.s.n0 r1.s.c0, .slice r1.s.A1 r1.s.n1 r1.s.c1, .slice r1.s.A2 r1.s.n2 r1.s.c2, .slice r1.s.A3 r1.s.n3 r1.s.c3] 44))) := Lib.hid (Sev.new _ _ _ _ _ _ _ _ _)
            clear hr1 o1 HOK
            unfold ER.val
            go_wp2_with fail
            generalize (u1.alloc (.cells #[.int .i64 r1.term, .int .u8 r1.kind, .slice r1.A r1.n r1.c, .slice r1.s.A0 r1.s.n0 r1.s.c0, .slice r1.s.A1 r1.s.n1 r1.s.c1, .slice r1.s.A2 r1.s.n2 r1.s.c2, .slice r1.s.A3 r1.s.n3 r1.s.c3] 44)) = k1 at *
            obtain ⟨g1, hg1⟩ : ∃ g1, u1.heap.size = g1 := ⟨_, rfl⟩
            rw [hg1] at HV1 ⊢
            clear hg1
            have HR1 := Lib.hid (HR1.out.ok HK1.out)
            have HU1 : Hid (Ok v5 k1) := Lib.hid (HU1.out.trans HK1.out)
            clear HK1
            have ha2 := atM_f (Sof (Sof (ZZ p1 p2) L1) L2) L2 y k1 (HT.out.was.ok HU1.out)
            rw [HL2P.out.1] at ha2
            refine ha2.mono ?_
            clear ha2
            rintro _ u2 ⟨r2, rfl, hr2, o2⟩
            have HR2 : Hid (EnAt NoB u2 r2 (atB L2 y)) := Lib.hid (hr2 NoB (fun _ f => f.elim))
            have HR1 := Lib.hid (HR1.out.ok o2)
            have HV1 := Lib.hid (HV1.out.ok o2)
            have HU2 : Hid (Ok v5 u2) := Lib.hid (HU1.out.trans o2)
            have HK2 : Hid (Ok u2 (u2.alloc (.cells #[.int .i64 r2.term, .int .u8 r2.kind, .slice r2.A r2.n r2.c, .slice r2.s.A0 r2.s.n0 r2.s.c0, .slice r2.s.A1 r2.s.n1 r2.s.c1, .slice r2.s.A2 r2.s.n2 r2.s.c2, .slice r2.s.A3 r2.s.n3 r2.s.c3] 44))) := Lib.hid ((Ok.refl _).alloc _)
            have HV2 : Hid (Sev u2.heap.size (.int .i64 r2.term) (.int .u8 r2.kind) (.slice r2.A r2.n r2.c) (.slice r2.s.A0 r2.s.n0 r2.s.c0) (.slice r2.s.A1 r2.s.n1 r2.s.c1) (.slice r2.s.A2 r2.s.n2 r2.s.c2) (.slice r2.s.A3 r2.s.n3 r2.s.c3) (u2.alloc (.cells #[.int .i64 r2.term, .int .u8 r2.kind, .slice r2.A r2.n r2.c, .slice r2.s.A0 r2.s.n0 r2.s.c0, .slice r2.s.A1 r2.s.n1 r2.s.c1, .slice r2.s.A2 r2.s.n2 r2.s.c2, .slice r2.s.A3 r2.s.n3 r2.s.c3] 44))) := Lib.hid (Sev.new _ _ _ _ _ _ _ _ _)
            clear hr2 o2 HU1
            unfold ER.val
            go_upto_region 19 with fail
            generalize (u2.alloc (.cells #[.int .i64 r2.term, .int .u8 r2.kind, .slice r2.A r2.n r2.c, .slice r2.s.A0 r2.s.n0 r2.s.c0, .slice r2.s.A1 r2.s.n1 r2.s.c1, .slice r2.s.A2 r2.s.n2 r2.s.c2, .slice r2.s.A3 r2.s.n3 r2.s.c3] 44)) = k2 at *
            obtain ⟨g2, hg2⟩ : ∃ g2, u2.heap.size = g2 := ⟨_, rfl⟩
            rw [hg2] at HV2 ⊢
            clear hg2
            have HR1 := Lib.hid (HR1.out.ok HK2.out)
            have HR2 := Lib.hid (HR2.out.ok HK2.out)
            have HV1 := Lib.hid (HV1.out.ok HK2.out)
            have HU2 : Hid (Ok v5 k2) := Lib.hid (HU2.out.trans HK2.out)
            have hse := sameEntry_f NoB NoB r1 r2 (atB L2 y) k2 HR1.out HR2.out
            unfold ER.val at hse
            have a0 := HV1.out.c0
            have a1 := HV1.out.c1
            have a2 := HV1.out.c2
            have a3 := HV1.out.c3
            have a4 := HV1.out.c4
            have a5 := HV1.out.c5
            have a6 := HV1.out.c6
            have b0 := HV2.out.c0
            have b1 := HV2.out.c1
            have b2 := HV2.out.c2
            have b3 := HV2.out.c3
            have b4 := HV2.out.c4
            have b5 := HV2.out.c5
            have b6 := HV2.out.c6
            clear HK2 HV1 HV2
            go_wp2_with fail
            refine hse.mono ?_
            clear hse a0 a1 a2 a3 a4 a5 a6 b0 b1 b2 b3 b4 b5 b6
            rintro _ u3 ⟨rfl, o3⟩
            have HU3 : Hid (Ok v5 u3) := Lib.hid (HU2.out.trans o3)
            clear o3 HU2
            have ey : IntKind.i64.wrap (y + 1) = y + 1 := IntWalk.i64_in _ (by have := HZ0.out; have := HI.out; omega)
            have HLT : Hid ((z + 1 - (y + 1)).toNat < (z + 1 - y).toNat) := Lib.hid (by omega)
            go_wp2_with fail
            first | exact ⟨⟨y + 1, rfl, by omega, by omega, HU3.out⟩, HLT.out⟩ | (refine ⟨?_, HLT.out⟩; (repeat apply Exists.intro); exact ⟨⟨y + 1, rfl, by omega, by omega, HU3.out⟩, rfl⟩)
          · have d1 : decide (y ≤ z) = false := decide_eq_false hlt
            have HO7 : Hid (Ok v5 wr) := Lib.hid HOK.out
            clear hy0 hy1 hlt HOK
            go_upto_region 21 with fail
            clear d1
            have hl1 := lastM_f (Sof (ZZ p1 p2) L') L' wr (HT.out.l.ok HO7.out)
            rw [HT.out.pe, HT.out.ie, HLE.out] at hl1
            go_wp2_with fail
            refine hl1.mono ?_
            clear hl1
            rintro _ w8 ⟨rfl, o8⟩
            have HO8 := Lib.hid (HO7.out.trans o8)
            clear o8 HO7
            have hl2 := lastM_f (Sof (Sof (ZZ p1 p2) L1) L2) L2 w8 (HT.out.was.ok HO8.out)
            rw [HL2P.out.1, HL2P.out.2.1, HL2P.out.2.2] at hl2
            go_wp2_with fail
            refine hl2.mono ?_
            clear hl2
            rintro _ w9 ⟨rfl, o9⟩
            go_wp2_with fail
            go_ret
            exact ⟨rfl, HFIN.out.trans (HO8.out.trans o9)⟩
    · have d1 : decide (i < x) = false := decide_eq_false ha
      clear ha
      have bx := HB0.out
      have e1 : IntKind.i64.wrap (i + (l.length : Int)) = i + (l.length : Int) := IntWalk.i64_in _ (by have := HI.out; omega)
      have e2 : IntKind.i64.wrap (i + (l.length : Int) + 1) = i + (l.length : Int) + 1 := IntWalk.i64_in _ (by have := HI.out; omega)
      clear bx
      go_upto_region 11 with fail
      clear e1 e2 c0
      obtain ⟨z, hz⟩ : ∃ z, i + (l.length : Int) = z := ⟨_, rfl⟩
      have hla := lastM_f (Sof (Sof (ZZ p1 p2) L1) L2) L2 v5 HT.out.was
      rw [HL2P.out.1, HL2P.out.2.1, HL2P.out.2.2, hz] at hla
      have HZ0 : Hid (i ≤ z + 1 ∧ z ≤ 1073742824 ∧ z = i + (l.length : Int)) := Lib.hid (by have := HB0.out; omega)
      clear hz
      go_wp2_with fail
      refine hla.mono ?_
      clear hla
      rintro _ v6 ⟨rfl, o6⟩
      have HO6 := Lib.hid o6
      have c0 := o6.cell HEV5.out.base.c0
      clear o6
      go_wp2_with fail
      clear c0
      clear HEV5
      go_loopw [14, 15, 16, 17, 18] (fun v14 _ _ _ _ wr => ∃ y : Int, v14 = .int .i64 y ∧ i ≤ y ∧ y ≤ z + 1 ∧ Ok v5 wr) (fun v14 _ _ _ _ _ => (z + 1 - intOf v14).toNat)
      case atStart => exact ⟨i, rfl, Int.le_refl _, by have := HZ0.out; omega, HO6.out⟩
      case round =>
        obtain ⟨y, rfl, hy0, hy1, okr⟩ := hrel
        have HOK := Lib.hid okr
        clear okr HO6
        by_cases hlt : y ≤ z
        · have d1 : decide (y ≤ z) = true := decide_eq_true hlt
          have ha1 := atM_f (Sof (ZZ p1 p2) L') L' y wr (HT.out.l.ok HOK.out)
          rw [HT.out.pe] at ha1
          go_wp2_with fail
          refine ha1.mono ?_
          clear ha1
          rintro _ u1 ⟨r1, rfl, hr1, o1⟩
          have HR1 : Hid (EnAt NoB u1 r1 (atB L2 y)) := Lib.hid (by rw [← HT.out.same y hy0 (HZ0.out.2.2 ▸ hlt)]; exact hr1 NoB (fun _ f => f.elim))
          have HU1 : Hid (Ok v5 u1) := Lib.hid (HOK.out.trans o1)
          have HK1 : Hid (Ok u1 (u1.alloc (.cells #[.int .i64 r1.term, .int .u8 r1.kind, .slice r1.A r1.n r1.c, .slice r1.s.A0 r1.s.n0 r1.s.c0, .slice r1.s.A1 r1.s.n1 r1.s.c1, .slice r1.s.A2 r1.s.n2 r1.s.c2, .slice r1.s.A3 r1.s.n3 r1.s.c3] 44))) := Lib.hid ((Ok.refl _).alloc _)
          have HV1 : Hid (Sev u1.heap.size (.int .i64 r1.term) (.int .u8 r1.kind) (.slice r1.A r1.n r1.c) (.slice r1.s.A0 r1.s.n0 r1.s.c0) (.slice r1.s.A1 r1.s.n1 r1.s.c1) (.slice r1.s.A2 r1.s.n2 r1.s.c2) (.slice r1.s.A3 r1.s.n3 r1.s.c3) (u1.alloc (.cells #[.int .i64 r1.term, .int .u8 r1.kind, .slice r1.A r1.n r1.c, .slice r1.s.A0 r1.s.n0 r1.s.c0, .slice r1.s.A1 r1.s.n1 r1.s.c1, .slice r1.s.A2 r1.s.n2 r1.s.c2, .slice r1.s.A3 r1.s.n3 r1.s.c3] 44))) := Lib.hid (Sev.new _ _ _ _ _ _ _ _ _)
          clear hr1 o1 HOK
          unfold ER.val
          go_wp2_with fail
          generalize (u1.alloc (.cells #[.int .i64 r1.term, .int .u8 r1.kind, .slice r1.A r1.n r1.c, .slice r1.s.A0 r1.s.n0 r1.s.c0, .slice r1.s.A1 r1.s.n1 r1.s.c1, .slice r1.s.A2 r1.s.n2 r1.s.c2, .slice r1.s.A3 r1.s.n3 r1.s.c3] 44)) = k1 at *
          obtain ⟨g1, hg1⟩ : ∃ g1, u1.heap.size = g1 := ⟨_, rfl⟩
          rw [hg1] at HV1 ⊢
          clear hg1
          have HR1 := Lib.hid (HR1.out.ok HK1.out)
          have HU1 : Hid (Ok v5 k1) := Lib.hid (HU1.out.trans HK1.out)
          clear HK1
          have ha2 := atM_f (Sof (Sof (ZZ p1 p2) L1) L2) L2 y k1 (HT.out.was.ok HU1.out)
          rw [HL2P.out.1] at ha2
          refine ha2.mono ?_
          clear ha2
          rintro _ u2 ⟨r2, rfl, hr2, o2⟩
          have HR2 : Hid (EnAt NoB u2 r2 (atB L2 y)) := Lib.hid (hr2 NoB (fun _ f => f.elim))
          have HR1 := Lib.hid (HR1.out.ok o2)
          have HV1 := Lib.hid (HV1.out.ok o2)
          have HU2 : Hid (Ok v5 u2) := Lib.hid (HU1.out.trans o2)
          have HK2 : Hid (Ok u2 (u2.alloc (.cells #[.int .i64 r2.term, .int .u8 r2.kind, .slice r2.A r2.n r2.c, .slice r2.s.A0 r2.s.n0 r2.s.c0, .slice r2.s.A1 r2.s.n1 r2.s.c1, .slice r2.s.A2 r2.s.n2 r2.s.c2, .slice r2.s.A3 r2.s.n3 r2.s.c3] 44))) := Lib.hid ((Ok.refl _).alloc _)
          have HV2 : Hid (Sev u2.heap.size (.int .i64 r2.term) (.int .u8 r2.kind) (.slice r2.A r2.n r2.c) (.slice r2.s.A0 r2.s.n0 r2.s.c0) (.slice r2.s.A1 r2.s.n1 r2.s.c1) (.slice r2.s.A2 r2.s.n2 r2.s.c2) (.slice r2.s.A3 r2.s.n3 r2.s.c3) (u2.alloc (.cells #[.int .i64 r2.term, .int .u8 r2.kind, .slice r2.A r2.n r2.c, .slice r2.s.A0 r2.s.n0 r2.s.c0, .slice r2.s.A1 r2.s.n1 r2.s.c1, .slice r2.s.A2 r2.s.n2 r2.s.c2, .slice r2.s.A3 r2.s.n3 r2.s.c3] 44))) := Lib.hid (Sev.new _ _ _ _ _ _ _ _ _)
          clear hr2 o2 HU1
          unfold ER.val
          go_upto_region 19 with fail
          generalize (u2.alloc (.cells #[.int .i64 r2.term, .int .u8 r2.kind, .slice r2.A r2.n r2.c, .slice r2.s.A0 r2.s.n0 r2.s.c0, .slice r2.s.A1 r2.s.n1 r2.s.c1, .slice r2.s.A2 r2.s.n2 r2.s.c2, .slice r2.s.A3 r2.s.n3 r2.s.c3] 44)) = k2 at *
          obtain ⟨g2, hg2⟩ : ∃ g2, u2.heap.size = g2 := ⟨_, rfl⟩
          rw [hg2] at HV2 ⊢
          clear hg2
          have HR1 := Lib.hid (HR1.out.ok HK2.out)
          have HR2 := Lib.hid (HR2.out.ok HK2.out)
          have HV1 := Lib.hid (HV1.out.ok HK2.out)
          have HU2 : Hid (Ok v5 k2) := Lib.hid (HU2.out.trans HK2.out)
          have hse := sameEntry_f NoB NoB r1 r2 (atB L2 y) k2 HR1.out HR2.out
          unfold ER.val at hse
          have a0 := HV1.out.c0
          have a1 := HV1.out.c1
          have a2 := HV1.out.c2
          have a3 := HV1.out.c3
          have a4 := HV1.out.c4
          have a5 := HV1.out.c5
          have a6 := HV1.out.c6
          have b0 := HV2.out.c0
          have b1 := HV2.out.c1
          have b2 := HV2.out.c2
          have b3 := HV2.out.c3
          have b4 := HV2.out.c4
          have b5 := HV2.out.c5
          have b6 := HV2.out.c6
          clear HK2 HV1 HV2
          go_wp2_with fail
          refine hse.mono ?_
          clear hse a0 a1 a2 a3 a4 a5 a6 b0 b1 b2 b3 b4 b5 b6
          rintro _ u3 ⟨rfl, o3⟩
          have HU3 : Hid (Ok v5 u3) := Lib.hid (HU2.out.trans o3)
          clear o3 HU2
          have ey : IntKind.i64.wrap (y + 1) = y + 1 := IntWalk.i64_in _ (by have := HZ0.out; have := HI.out; omega)
          have HLT : Hid ((z + 1 - (y + 1)).toNat < (z + 1 - y).toNat) := Lib.hid (by omega)
          go_wp2_with fail
          first | exact ⟨⟨y + 1, rfl, by omega, by omega, HU3.out⟩, HLT.out⟩ | (refine ⟨?_, HLT.out⟩; (repeat apply Exists.intro); exact ⟨⟨y + 1, rfl, by omega, by omega, HU3.out⟩, rfl⟩)
        · have d1 : decide (y ≤ z) = false := decide_eq_false hlt
          have HO7 : Hid (Ok v5 wr) := Lib.hid HOK.out
          clear hy0 hy1 hlt HOK
          go_upto_region 21 with fail
          clear d1
          have hl1 := lastM_f (Sof (ZZ p1 p2) L') L' wr (HT.out.l.ok HO7.out)
          rw [HT.out.pe, HT.out.ie, HLE.out] at hl1
          go_wp2_with fail
          refine hl1.mono ?_
          clear hl1
          rintro _ w8 ⟨rfl, o8⟩
          have HO8 := Lib.hid (HO7.out.trans o8)
          clear o8 HO7
          have hl2 := lastM_f (Sof (Sof (ZZ p1 p2) L1) L2) L2 w8 (HT.out.was.ok HO8.out)
          rw [HL2P.out.1, HL2P.out.2.1, HL2P.out.2.2] at hl2
          go_wp2_with fail
          refine hl2.mono ?_
          clear hl2
          rintro _ w9 ⟨rfl, o9⟩
          go_wp2_with fail
          go_ret
          exact ⟨rfl, HFIN.out.trans (HO8.out.trans o9)⟩
  · have d1 : decide (i < x) = true := decide_eq_true hx.1
    have d2 : decide (x ≤ i + (l.length : Int) + 1) = true := decide_eq_true hx.2
    have dz : (at' == (0 : Int)) = false := beq_eq_false_iff_ne.2 (by have := HI.out; omega)
    have dn : (at' != (0 : Int)) = true := by simp only [bne, dz, Bool.not_false]
    have d3 : decide (at' < x) = false := decide_eq_false (by omega)
    have d4 : decide (x + (row.length : Int) ≤ at') = false := decide_eq_false (by omega)
    have e3 : IntKind.i64.wrap (x + (row.length : Int)) = x + (row.length : Int) := IntWalk.i64_in _ (by have := HB0.out; have := HI.out; omega)
    have HX0 : Hid (i < x) := Lib.hid hx.1
    have HLS : Hid (i + (L'.es.length : Int) = x + (row.length : Int) - 1) := Lib.hid (by omega)
    have HEN : Hid (EnsIn (Far v0) v5 B row) := Lib.hid HEV5.out.en2
    obtain ⟨z, hz⟩ : ∃ z, at' - 1 = z := ⟨_, rfl⟩
    have hzm : z = i + (M : Int) := by omega
    have HZ0 : Hid (i ≤ z + 1 ∧ z ≤ 1073742824 ∧ z = i + (M : Int)) := Lib.hid ⟨by omega, by have := HT.out.many; have := HB0.out; omega, hzm⟩
    have e6 : IntKind.i64.wrap (at' - 1) = z := by rw [hz]; exact IntWalk.i64_in _ (by have := HZ0.out; have := HI.out; omega)
    clear htk hx hat hat1 hat2 hles hz hzm
    have bx := HB0.out
    have e1 : IntKind.i64.wrap (i + (l.length : Int)) = i + (l.length : Int) := IntWalk.i64_in _ (by have := HI.out; omega)
    have e2 : IntKind.i64.wrap (i + (l.length : Int) + 1) = i + (l.length : Int) + 1 := IntWalk.i64_in _ (by have := HI.out; omega)
    clear bx
    go_upto_region 11 with fail
    clear e1 e2 c0
    clear d3 d4 e3
    have hla := lastM_f (Sof (Sof (ZZ p1 p2) L1) L2) L2 v5 HT.out.was
    rw [HL2P.out.1, HL2P.out.2.1, HL2P.out.2.2] at hla
    go_wp2_with fail
    refine hla.mono ?_
    clear hla
    rintro _ v6 ⟨rfl, o6⟩
    have HO6 := Lib.hid o6
    have c0 := o6.cell HEV5.out.base.c0
    clear o6
    go_wp2_with fail
    clear c0
    clear HEV5
    go_loopw [14, 15, 16, 17, 18] (fun v14 _ _ _ _ wr => ∃ y : Int, v14 = .int .i64 y ∧ i ≤ y ∧ y ≤ z + 1 ∧ Ok v5 wr) (fun v14 _ _ _ _ _ => (z + 1 - intOf v14).toNat)
    case atStart => exact ⟨i, rfl, Int.le_refl _, by have := HZ0.out; omega, HO6.out⟩
    case round =>
      obtain ⟨y, rfl, hy0, hy1, okr⟩ := hrel
      have HOK := Lib.hid okr
      clear okr HO6
      by_cases hlt : y ≤ z
      · have d1 : decide (y ≤ z) = true := decide_eq_true hlt
        have ha1 := atM_f (Sof (ZZ p1 p2) L') L' y wr (HT.out.l.ok HOK.out)
        rw [HT.out.pe] at ha1
        go_wp2_with fail
        refine ha1.mono ?_
        clear ha1
        rintro _ u1 ⟨r1, rfl, hr1, o1⟩
        have HR1 : Hid (EnAt NoB u1 r1 (atB L2 y)) := Lib.hid (by rw [← HT.out.same y hy0 (HZ0.out.2.2 ▸ hlt)]; exact hr1 NoB (fun _ f => f.elim))
        have HU1 : Hid (Ok v5 u1) := Lib.hid (HOK.out.trans o1)
        have HK1 : Hid (Ok u1 (u1.alloc (.cells #[.int .i64 r1.term, .int .u8 r1.kind, .slice r1.A r1.n r1.c, .slice r1.s.A0 r1.s.n0 r1.s.c0, .slice r1.s.A1 r1.s.n1 r1.s.c1, .slice r1.s.A2 r1.s.n2 r1.s.c2, .slice r1.s.A3 r1.s.n3 r1.s.c3] 44))) := Lib.hid ((Ok.refl _).alloc _)
        have HV1 : Hid (Sev u1.heap.size (.int .i64 r1.term) (.int .u8 r1.kind) (.slice r1.A r1.n r1.c) (.slice r1.s.A0 r1.s.n0 r1.s.c0) (.slice r1.s.A1 r1.s.n1 r1.s.c1) (.slice r1.s.A2 r1.s.n2 r1.s.c2) (.slice r1.s.A3 r1.s.n3 r1.s.c3) (u1.alloc (.cells #[.int .i64 r1.term, .int .u8 r1.kind, .slice r1.A r1.n r1.c, .slice r1.s.A0 r1.s.n0 r1.s.c0, .slice r1.s.A1 r1.s.n1 r1.s.c1, .slice r1.s.A2 r1.s.n2 r1.s.c2, .slice r1.s.A3 r1.s.n3 r1.s.c3] 44))) := Lib.hid (Sev.new _ _ _ _ _ _ _ _ _)
        clear hr1 o1 HOK
        unfold ER.val
        go_wp2_with fail
        generalize (u1.alloc (.cells #[.int .i64 r1.term, .int .u8 r1.kind, .slice r1.A r1.n r1.c, .slice r1.s.A0 r1.s.n0 r1.s.c0, .slice r1.s.A1 r1.s.n1 r1.s.c1, .slice r1.s.A2 r1.s.n2 r1.s.c2, .slice r1.s.A3 r1.s.n3 r1.s.c3] 44)) = k1 at *
        obtain ⟨g1, hg1⟩ : ∃ g1, u1.heap.size = g1 := ⟨_, rfl⟩
        rw [hg1] at HV1 ⊢
        clear hg1
        have HR1 := Lib.hid (HR1.out.ok HK1.out)
        have HU1 : Hid (Ok v5 k1) := Lib.hid (HU1.out.trans HK1.out)
        clear HK1
        have ha2 := atM_f (Sof (Sof (ZZ p1 p2) L1) L2) L2 y k1 (HT.out.was.ok HU1.out)
        rw [HL2P.out.1] at ha2
        refine ha2.mono ?_
        clear ha2
        rintro _ u2 ⟨r2, rfl, hr2, o2⟩
        have HR2 : Hid (EnAt NoB u2 r2 (atB L2 y)) := Lib.hid (hr2 NoB (fun _ f => f.elim))
        have HR1 := Lib.hid (HR1.out.ok o2)
        have HV1 := Lib.hid (HV1.out.ok o2)
        have HU2 : Hid (Ok v5 u2) := Lib.hid (HU1.out.trans o2)
        have HK2 : Hid (Ok u2 (u2.alloc (.cells #[.int .i64 r2.term, .int .u8 r2.kind, .slice r2.A r2.n r2.c, .slice r2.s.A0 r2.s.n0 r2.s.c0, .slice r2.s.A1 r2.s.n1 r2.s.c1, .slice r2.s.A2 r2.s.n2 r2.s.c2, .slice r2.s.A3 r2.s.n3 r2.s.c3] 44))) := Lib.hid ((Ok.refl _).alloc _)
        have HV2 : Hid (Sev u2.heap.size (.int .i64 r2.term) (.int .u8 r2.kind) (.slice r2.A r2.n r2.c) (.slice r2.s.A0 r2.s.n0 r2.s.c0) (.slice r2.s.A1 r2.s.n1 r2.s.c1) (.slice r2.s.A2 r2.s.n2 r2.s.c2) (.slice r2.s.A3 r2.s.n3 r2.s.c3) (u2.alloc (.cells #[.int .i64 r2.term, .int .u8 r2.kind, .slice r2.A r2.n r2.c, .slice r2.s.A0 r2.s.n0 r2.s.c0, .slice r2.s.A1 r2.s.n1 r2.s.c1, .slice r2.s.A2 r2.s.n2 r2.s.c2, .slice r2.s.A3 r2.s.n3 r2.s.c3] 44))) := Lib.hid (Sev.new _ _ _ _ _ _ _ _ _)
        clear hr2 o2 HU1
        unfold ER.val
        go_upto_region 19 with fail
        generalize (u2.alloc (.cells #[.int .i64 r2.term, .int .u8 r2.kind, .slice r2.A r2.n r2.c, .slice r2.s.A0 r2.s.n0 r2.s.c0, .slice r2.s.A1 r2.s.n1 r2.s.c1, .slice r2.s.A2 r2.s.n2 r2.s.c2, .slice r2.s.A3 r2.s.n3 r2.s.c3] 44)) = k2 at *
        obtain ⟨g2, hg2⟩ : ∃ g2, u2.heap.size = g2 := ⟨_, rfl⟩
        rw [hg2] at HV2 ⊢
        clear hg2
        have HR1 := Lib.hid (HR1.out.ok HK2.out)
        have HR2 := Lib.hid (HR2.out.ok HK2.out)
        have HV1 := Lib.hid (HV1.out.ok HK2.out)
        have HU2 : Hid (Ok v5 k2) := Lib.hid (HU2.out.trans HK2.out)
        have hse := sameEntry_f NoB NoB r1 r2 (atB L2 y) k2 HR1.out HR2.out
        unfold ER.val at hse
        have a0 := HV1.out.c0
        have a1 := HV1.out.c1
        have a2 := HV1.out.c2
        have a3 := HV1.out.c3
        have a4 := HV1.out.c4
        have a5 := HV1.out.c5
        have a6 := HV1.out.c6
        have b0 := HV2.out.c0
        have b1 := HV2.out.c1
        have b2 := HV2.out.c2
        have b3 := HV2.out.c3
        have b4 := HV2.out.c4
        have b5 := HV2.out.c5
        have b6 := HV2.out.c6
        clear HK2 HV1 HV2
        go_wp2_with fail
        refine hse.mono ?_
        clear hse a0 a1 a2 a3 a4 a5 a6 b0 b1 b2 b3 b4 b5 b6
        rintro _ u3 ⟨rfl, o3⟩
        have HU3 : Hid (Ok v5 u3) := Lib.hid (HU2.out.trans o3)
        clear o3 HU2
        have ey : IntKind.i64.wrap (y + 1) = y + 1 := IntWalk.i64_in _ (by have := HZ0.out; have := HI.out; omega)
        have HLT : Hid ((z + 1 - (y + 1)).toNat < (z + 1 - y).toNat) := Lib.hid (by omega)
        go_wp2_with fail
        first | exact ⟨⟨y + 1, rfl, by omega, by omega, HU3.out⟩, HLT.out⟩ | (refine ⟨?_, HLT.out⟩; (repeat apply Exists.intro); exact ⟨⟨y + 1, rfl, by omega, by omega, HU3.out⟩, rfl⟩)
      · have d1 : decide (y ≤ z) = false := decide_eq_false hlt
        have HO7 : Hid (Ok v5 wr) := Lib.hid HOK.out
        clear hy0 hy1 hlt HOK
        go_upto_region 21 with fail
        clear d1
        have HAG := Lib.hid hagain
        have HROW := Lib.hid hrow
        clear hagain hrow
        go_wp2_with fail
        clear dz dn
        go_loopw [19, 20, 21] (fun v19 _ _ wr => ∃ q : Nat, q ≤ row.length ∧ v19 = .int .i64 q ∧ Ok v5 wr) (fun v19 _ _ _ => row.length - (intOf v19).toNat)
        case atStart => first | exact ⟨0, Nat.zero_le _, rfl, HO7.out⟩ | ((repeat apply Exists.intro); exact ⟨⟨0, Nat.zero_le _, rfl, HO7.out⟩, rfl⟩)
        case round =>
          obtain ⟨q, hq, rfl, okr⟩ := hrel
          have HOK := Lib.hid okr
          clear okr HO7
          by_cases hlt : q < row.length
          · have d1 : decide ((q : Int) < (row.length : Int)) = true := decide_eq_true (by omega)
            have ex : IntKind.i64.wrap (x + (q : Int)) = x + (q : Int) := IntWalk.i64_in _ (by have := HB0.out; have := HX0.out; have := HI.out; omega)
            have hte := term_f (Sof (ZZ p1 p2) L') L' (x + q) wr (HT.out.l.ok HOK.out)
            rw [HROW.out q hlt, HT.out.pe] at hte
            obtain ⟨b, off, r, rfl, _, hr, hc⟩ := HEN.out.kp (Kp.of (S := fun _ => False) HOK.out) (fun _ f => f.elim) q hlt
            have q0 : wr.cell? ⟨b, off + q * 7, none⟩ = some (.int .i64 r.term) := hc 0 (by decide)
            rw [← hr.term] at hte
            have hi0 : (0 : Int) ≤ (q : Int) := Int.natCast_nonneg _
            have hi1 : (q : Int) < (row.length : Int) := by omega
            have HLT : Hid (row.length - ((q : Int) + 1).toNat < row.length - (q : Int).toNat) := Lib.hid (by omega)
            have HRN : Hid (row.length ≤ 400) := Lib.hid HB0.out.2.2.2
            clear hr hc
            generalize row.length = rn at *
            go_wp2_with fail
            refine hte.mono ?_
            clear hte
            rintro _ u1 ⟨rfl, o1⟩
            have HO8 := Lib.hid (HOK.out.trans o1)
            replace q0 := o1.cell q0
            clear o1
            have hrn := HRN.out
            go_wp2_with fail
            first | exact ⟨⟨q + 1, hlt, rfl, HO8.out⟩, HLT.out⟩ | (refine ⟨?_, HLT.out⟩; (repeat apply Exists.intro); exact ⟨⟨q + 1, hlt, rfl, HO8.out⟩, rfl⟩)
          · have d1 : decide ((q : Int) < (row.length : Int)) = false := decide_eq_false (by omega)
            have hag := HAG.out wr HOK.out
            go_wp2_with fail
            refine hag.mono ?_
            clear hag
            rintro _ w8 ⟨rfl, o8⟩
            have HO8 := Lib.hid (HOK.out.trans o8)
            clear o8
            have hl1 := lastM_f (Sof (ZZ p1 p2) L') L' w8 (HT.out.l.ok HO8.out)
            rw [HT.out.pe, HT.out.ie, HLS.out] at hl1
            have e4 : IntKind.i64.wrap (x + (row.length : Int)) = x + (row.length : Int) := IntWalk.i64_in _ (by have := HB0.out; have := HX0.out; have := HI.out; omega)
            have e5 : IntKind.i64.wrap (x + (row.length : Int) - 1) = x + (row.length : Int) - 1 := IntWalk.i64_in _ (by have := HB0.out; have := HX0.out; have := HI.out; omega)
            go_wp2_with fail
            refine hl1.mono ?_
            clear hl1
            rintro _ w9 ⟨rfl, o9⟩
            go_wp2_with fail
            go_ret
            exact ⟨rfl, HFIN.out.trans (HO8.out.trans o9)⟩
end Go.Proofs.Ytebhcadolnjplaa
