/- A log is laid on a base at or behind its own. -/
import Derived.Test.YtebhcadolnjplaaHk
namespace Go.Proofs.Ytebhcadolnjplaa
open Go.RowKit

theorem mk_filter (l : List En) (b : Int) (m : Nat) (hm : m ≤ l.length) : (mk b l).filter (fun x => !decide (x ≤ b + (m : Int) - 1)) = mk (b + (m : Int)) (l.drop m) := by
  have e : mk b l = mk b (l.take m) ++ mk (b + (m : Int)) (l.drop m) := by
    have := mk_app (l.take m) (l.drop m) b
    rwa [List.take_append_drop, List.length_take, Nat.min_eq_left hm] at this
  rw [e, List.filter_append]
  have h1 : (mk b (l.take m)).filter (fun x => !decide (x ≤ b + (m : Int) - 1)) = [] := by
    rw [List.filter_eq_nil_iff]
    intro y hy
    obtain ⟨j, hj, rfl, _⟩ := mk_mem _ _ _ hy
    rw [List.length_take] at hj
    have : decide (b + (j : Int) ≤ b + (m : Int) - 1) = true := decide_eq_true (by omega)
    simp only [this, Bool.not_true]
    decide
  have h2 : (mk (b + (m : Int)) (l.drop m)).filter (fun x => !decide (x ≤ b + (m : Int) - 1)) = mk (b + (m : Int)) (l.drop m) := by
    rw [List.filter_eq_self]
    intro y hy
    obtain ⟨j, hj, rfl, _⟩ := mk_mem _ _ _ hy
    have : decide (b + (m : Int) + (j : Int) ≤ b + (m : Int) - 1) = false := decide_eq_false (by omega)
    simp only [this, Bool.not_false]
  rw [h1, h2, List.nil_append]
/-- The entries behind the first m, as they lie. -/
theorem tail_at {S : Nat → Prop} {L : LG} {w : World} (h : LogAt S L w) (m : Nat) (hm : m ≤ L.es.length) (A1 : Option Addr) (c1 : Nat) (hA : A1 = if L.cE = m then L.AE else L.AE.map (·.add (m * 7))) (hc1 : c1 = L.cE - m) :
    ∃ rs : List ER, rs.length = L.es.length - m ∧ (A1 = none → L.es.length - m = 0 ∧ c1 = 0) ∧ (∀ j, j < L.es.length - m → ∃ b off, A1 = some ⟨b, off, none⟩ ∧ ∀ k, k < 7 → w.cell? ⟨b, off + j * 7 + k, none⟩ = (erA rs j).cells[k]?) ∧ (∀ a, A1 = some a → a.spot = none) ∧
      ∀ j, j < (L.es.drop m).length → EnAt S w (erA rs j) (enA (L.es.drop m) j) := by
  obtain ⟨rs, h1, h2, h3⟩ := h.rows
  have hcap := h.cap
  have he : ∀ j, enA (L.es.drop m) j = enA L.es (m + j) := fun j => by simp [enA]
  have hr : ∀ j, erA (rs.drop m) j = erA rs (m + j) := fun j => by simp [erA]
  have hAE : (L.AE = none ∧ L.es.length = 0 ∧ L.cE = 0) ∨ ∃ g, L.AE = some ⟨g, 0, none⟩ := by
    rcases h1.2 with ⟨e, q⟩ | ⟨g, cap, cur, e, _⟩
    · simp only [Value.slice.injEq] at e
      exact .inl ⟨e.1, q, e.2.2⟩
    · simp only [Value.slice.injEq] at e
      exact .inr ⟨g, e.1⟩
  have h4 : ∀ j, j < (L.es.drop m).length → EnAt S w (erA (rs.drop m) j) (enA (L.es.drop m) j) := fun j hj => by
    rw [List.length_drop] at hj
    rw [he, hr]
    exact h3 _ (by omega)
  refine ⟨rs.drop m, by rw [List.length_drop, h2], fun e => ?_, fun j hj => ?_, fun a e => ?_, h4⟩
  · rcases hAE with ⟨a1, a2, a3⟩ | ⟨g, a1⟩
    · omega
    · rw [hA, a1] at e
      split at e <;> cases e
  · obtain ⟨g, r, hg, hr', hcs⟩ := h.at (m + j) (by omega)
    have hne : ¬ L.cE = m := by omega
    rw [if_neg hne, hg] at hA
    refine ⟨g, m * 7, by rw [hA]; simp [Addr.add]; omega, fun k hk => ?_⟩
    have hcell := World.ownsRow.cells h1 (g := g) (by rw [hg]; rfl) ((m + j) * 7 + k)
    have hl : (m + j) * 7 + k < (flat7 rs).length := by rw [flat7_len, h2]; omega
    have ha := flat7_at rs (m + j) k (by omega) hk
    have hck : k < (erA rs (m + j)).cells.length := hk
    rw [List.getElem?_eq_getElem hck] at ha
    have := hcell _ ha
    have e2 : (⟨g, 0, none⟩ : Addr).add ((m + j) * 7 + k) = ⟨g, m * 7 + j * 7 + k, none⟩ := by
      rw [show m * 7 + j * 7 + k = (m + j) * 7 + k from by omega]; unfold Addr.add; split <;> simp_all
    rw [e2] at this
    rw [hr, List.getElem?_eq_getElem hck, this]
  · rcases hAE with ⟨a1, _⟩ | ⟨g, a1⟩
    · rw [hA, a1] at e
      split at e <;> cases e
    · rw [hA, a1] at e
      split at e
      · cases e; rfl
      · simp [Addr.add] at e
        rw [← e]
        split <;> rfl
structure Fq6 (g : Nat) (v0 v1 v2 v3 v4 v5 : Value) (w : World) : Prop where
  c0 : w.cell? ⟨g, 0, none⟩ = some v0
  c1 : w.cell? ⟨g, 1, none⟩ = some v1
  c2 : w.cell? ⟨g, 2, none⟩ = some v2
  c3 : w.cell? ⟨g, 3, none⟩ = some v3
  c4 : w.cell? ⟨g, 4, none⟩ = some v4
  c5 : w.cell? ⟨g, 5, none⟩ = some v5
/-- The log, laid on another base. -/
structure Stood (S : Nat → Prop) (L : LG) (m : Nat) (t : Int) (cf : Cfg) (w : World) (L' : LG) (w' : World) : Prop where
  box : Bx L' w'
  cfg : CfgAt w' L'.s cf
  p : L'.p = L.p
  i : L'.i = L.i + (m : Int)
  t : L'.t = t
  es : L'.es = L.es.drop m
  all : L.i + (m : Int) ≤ 1073741824 → LogC (Sof S L') L' cf w'
  kp : Kp (Ow L.p L.AE L.AC) w w'
  new : ∀ b, Ow L'.p L'.AE L'.AC b → Ow L.p L.AE L.AC b ∨ w.heap.size ≤ b
def StandP (S : Nat → Prop) (L : LG) (m : Nat) (t : Int) (cf : Cfg) (w : World) (e : Ending) (w' : World) : Prop := e = .returned (.tuple #[]) ∧ ∃ L', Stood S L m t cf w L' w'
set_option maxRecDepth 100000 in
set_option maxHeartbeats 4000000 in
theorem stand_f (S : Nat → Prop) (L : LG) (c0 cf : Cfg) (m : Nat) (t : Int) (s : S4) (w : World) (h : LogC (Sof S L) L c0 w) (hm : m ≤ L.es.length) (hc : CfgAt w s cf) (ho : CfgOff (Sof S L) s) (hle : CfgLe cf) :
    Calls Try.prog 66 #[.pointer (some ⟨L.p, 0, none⟩), .agg #[.int .i64 (L.i + (m : Int)), .int .i64 t, .slice s.A0 s.n0 s.c0, .slice s.A1 s.n1 s.c1, .slice s.A2 s.n2 s.c2, .slice s.A3 s.n3 s.c3]] w (StandP S L m t cf w) := by
  have h0 := h.log.lo
  have h1 := h.log.hi
  have h2 := h.log.le
  have HA : Hid (Six w.heap.size (.int .i64 (L.i + (m : Int))) (.int .i64 t) (.slice s.A0 s.n0 s.c0) (.slice s.A1 s.n1 s.c1) (.slice s.A2 s.n2 s.c2) (.slice s.A3 s.n3 s.c3) (w.alloc (.cells #[.int .i64 (L.i + (m : Int)), .int .i64 t, .slice s.A0 s.n0 s.c0, .slice s.A1 s.n1 s.c1, .slice s.A2 s.n2 s.c2, .slice s.A3 s.n3 s.c3] 27))) := Lib.hid (Six.new _ _ _ _ _ _ _ _)
  have HO : Hid (Ok w (w.alloc (.cells #[.int .i64 (L.i + (m : Int)), .int .i64 t, .slice s.A0 s.n0 s.c0, .slice s.A1 s.n1 s.c1, .slice s.A2 s.n2 s.c2, .slice s.A3 s.n3 s.c3] 27))) := Lib.hid ((Ok.refl w).alloc _)
  have HL := Lib.hid h
  have HC := Lib.hid hc
  have HOF := Lib.hid ho
  have HM := Lib.hid hm
  have hsl := high22 L.AE L.es.length L.cE m hm
  obtain ⟨A1, hA1⟩ : ∃ A1, A1 = (if L.cE = m then L.AE else L.AE.map (·.add (m * 7))) := ⟨_, rfl⟩
  obtain ⟨c1, hc1⟩ : ∃ c1, c1 = L.cE - m := ⟨_, rfl⟩
  obtain ⟨rs, hrs, ha0, hin, hsp, hen⟩ := tail_at h.log m hm A1 c1 hA1 hc1
  rw [← hA1, ← hc1] at hsl
  have HEN := Lib.hid hen
  obtain ⟨n1, hn1⟩ : ∃ n1, n1 = L.es.length - m := ⟨_, rfl⟩
  have HNL : Hid ((L.es.drop m).length = n1) := Lib.hid (by rw [List.length_drop, hn1])
  rw [← hn1] at hrs ha0 hin hsl
  have HRL := Lib.hid hrs
  have HA0 := Lib.hid ha0
  have HIN := Lib.hid hin
  have HSP := Lib.hid hsp
  have HN1 : Hid (n1 ≤ 1000) := Lib.hid (by omega)
  have HQ : Hid (∀ b, Ow L.p L.AE L.AC b → b ≠ w.heap.size) := Lib.hid fun b hb e => by have := h.log.lt b hb; omega
  have e1 : IntKind.i64.wrap (L.i + (m : Int) - L.i) = (m : Int) := by rw [show L.i + (m : Int) - L.i = (m : Int) from by omega]; exact IntWalk.i64_in _ (by omega)
  have HE : Hid (∀ j, j < (L.es.drop m).length → EnLe (enA (L.es.drop m) j)) := Lib.hid fun j hj => by
    rw [List.length_drop] at hj
    rw [show enA (L.es.drop m) j = enA L.es (m + j) from by simp [enA]]
    exact h.log.sm _ (by omega)
  clear h hc ho hm hA1 hc1 hrs ha0 hin hsp hen hn1
  obtain ⟨p, hp⟩ : ∃ p, L.p = p := ⟨_, rfl⟩
  rw [hp]
  have HP := Lib.hid hp
  clear hp
  go_enter Try.func66, Try.ntmps66
  go_upto_region 1 with fail
  rename_i K0 hK0
  have HK0 := Lib.hid hK0
  clear hK0
  generalize w.alloc (.cells #[.int .i64 (L.i + (m : Int)), .int .i64 t, .slice s.A0 s.n0 s.c0, .slice s.A1 s.n1 s.c1, .slice s.A2 s.n2 s.c2, .slice s.A3 s.n3 s.c3] 27) = w0 at *
  obtain ⟨z, hz⟩ : ∃ z, w.heap.size = z := ⟨_, rfl⟩
  have HZ := Lib.hid hz
  rw [hz] at HA HQ ⊢
  clear hz
  have c6 : w0.cell? ⟨p, 6, none⟩ = some (.slice L.AE L.es.length L.cE) := by rw [← HP.out]; exact HO.out.cell HL.out.log.box.c6
  have c0 : w0.cell? ⟨p, 0, none⟩ = some (.int .i64 L.i) := by rw [← HP.out]; exact HO.out.cell HL.out.log.box.c0
  have cz := HA.out.c0
  refine Until.begin (S := fun V => V.cell? ⟨p, 6, none⟩ = some (.slice L.AE L.es.length L.cE) ∧ V.cell? ⟨p, 0, none⟩ = some (.int .i64 L.i) ∧ V.cell? ⟨z, 0, none⟩ = some (.int .i64 (L.i + (m : Int)))) (j := 17) (by kernel_rfl) ?_ ?_
  · exact ⟨(Ok.refl w0).drew.cell c6, (Ok.refl w0).drew.cell c0, (Ok.refl w0).drew.cell cz⟩
  intro hS
  have HD : Hid (Ok w0 w0.drew) := Lib.hid ((Ok.refl w0).drew)
  generalize w0.drew = V0 at *
  clear c6 c0 cz
  refine Until.take0 (i := 0) (v := ?v0) rfl (by kernel_rfl) (by kernel_rfl) (by kernel_rfl) (by kernel_rfl) (fun _ _ _ h => h) (Or.inl ⟨by rfl, ?hy0⟩) (fun _ => hS) ?rest0
  case hy0 => ((intro w hSw); clear hSw; go_simp; (try with_reducible rfl))
  try go_frame
  refine Until.take0 (i := 1) (v := ?v1) rfl (by kernel_rfl) (by kernel_rfl) (by kernel_rfl) (by kernel_rfl) (fun _ _ _ h => h) (Or.inl ⟨by rfl, ?hy1⟩) (fun _ => hS) ?rest1
  case hy1 => ((intro w hSw); clear hSw; go_simp; (try with_reducible rfl))
  try go_frame
  refine Until.take0 (i := 2) (v := ?v2) rfl (by kernel_rfl) (by kernel_rfl) (by kernel_rfl) (by kernel_rfl) (fun _ _ _ h => h) (Or.inl ⟨by rfl, ?hy2⟩) (fun _ => hS) ?rest2
  case hy2 => ((intro w hSw); clear hSw; go_simp; (try with_reducible rfl))
  try go_frame
  refine Until.take0 (i := 3) (v := ?v3) rfl (by kernel_rfl) (by kernel_rfl) (by kernel_rfl) (by kernel_rfl) (fun _ _ _ h => h) (Or.inl ⟨by rfl, ?hy3⟩) (fun _ => hS) ?rest3
  case hy3 => ((intro w hSw); clear hSw; go_simp; (try with_reducible rfl))
  try go_frame
  refine Until.take (i := 4) (v := ?v4) rfl (by kernel_rfl) (by kernel_rfl) (by kernel_rfl) (by kernel_rfl) (fun _ _ _ h => h) (Or.inl ⟨by rfl, ?hy4⟩) hS ?rest4
  case hy4 => ((intro w hSw; (try dsimp only at hSw)); obtain ⟨s0, s1, s2⟩ := hSw; go_simp; (try with_reducible rfl))
  try go_frame
  refine Until.take0 (i := 5) (v := ?v5) rfl (by kernel_rfl) (by kernel_rfl) (by kernel_rfl) (by kernel_rfl) (fun _ _ _ h => h) (Or.inl ⟨by rfl, ?hy5⟩) (fun _ => hS) ?rest5
  case hy5 => ((intro w hSw); clear hSw; go_simp; (try with_reducible rfl))
  try go_frame
  refine Until.take (i := 6) (v := ?v6) rfl (by kernel_rfl) (by kernel_rfl) (by kernel_rfl) (by kernel_rfl) (fun _ _ _ h => h) (Or.inl ⟨by rfl, ?hy6⟩) hS ?rest6
  case hy6 => ((intro w hSw; (try dsimp only at hSw)); obtain ⟨s0, s1, s2⟩ := hSw; go_simp; (try with_reducible rfl))
  try go_frame
  refine Until.take0 (i := 7) (v := ?v7) rfl (by kernel_rfl) (by kernel_rfl) (by kernel_rfl) (by kernel_rfl) (fun _ _ _ h => h) (Or.inl ⟨by rfl, ?hy7⟩) (fun _ => hS) ?rest7
  case hy7 => ((intro w hSw); clear hSw; go_simp; (try with_reducible rfl))
  try go_frame
  refine Until.take0 (i := 8) (v := ?v8) rfl (by kernel_rfl) (by kernel_rfl) (by kernel_rfl) (by kernel_rfl) (fun _ _ _ h => h) (Or.inl ⟨by rfl, ?hy8⟩) (fun _ => hS) ?rest8
  case hy8 => ((intro w hSw); clear hSw; go_simp; (try with_reducible rfl))
  try go_frame
  refine Until.take0 (i := 9) (v := ?v9) rfl (by kernel_rfl) (by kernel_rfl) (by kernel_rfl) (by kernel_rfl) (fun _ _ _ h => h) (Or.inl ⟨by rfl, ?hy9⟩) (fun _ => hS) ?rest9
  case hy9 => ((intro w hSw); clear hSw; go_simp; (try with_reducible rfl))
  try go_frame
  refine Until.take0 (i := 10) (v := ?v10) rfl (by kernel_rfl) (by kernel_rfl) (by kernel_rfl) (by kernel_rfl) (fun _ _ _ h => h) (Or.inl ⟨by rfl, ?hy10⟩) (fun _ => hS) ?rest10
  case hy10 => ((intro w hSw); clear hSw; go_simp; (try with_reducible rfl))
  try go_frame
  refine Until.take (i := 11) (v := ?v11) rfl (by kernel_rfl) (by kernel_rfl) (by kernel_rfl) (by kernel_rfl) (fun _ _ _ h => h) (Or.inl ⟨by rfl, ?hy11⟩) hS ?rest11
  case hy11 => ((intro w hSw; (try dsimp only at hSw)); obtain ⟨s0, s1, s2⟩ := hSw; go_simp; (try with_reducible rfl))
  try go_frame
  refine Until.take0 (i := 12) (v := ?v12) rfl (by kernel_rfl) (by kernel_rfl) (by kernel_rfl) (by kernel_rfl) (fun _ _ _ h => h) (Or.inl ⟨by rfl, ?hy12⟩) (fun _ => hS) ?rest12
  case hy12 => ((intro w hSw); clear hSw; go_simp; (try with_reducible rfl))
  try go_frame
  refine Until.take0 (i := 13) (v := ?v13) rfl (by kernel_rfl) (by kernel_rfl) (by kernel_rfl) (by kernel_rfl) (fun _ _ _ h => h) (Or.inl ⟨by rfl, ?hy13⟩) (fun _ => hS) ?rest13
  case hy13 => ((intro w hSw); clear hSw; go_simp; (try with_reducible rfl))
  try go_frame
  refine Until.one (i := 14) (by kernel_rfl) rfl (fun K hK => ?_)
  have HK := Lib.hid hK
  clear hK
  go_simp
  refine (cloneE_f A1 n1 c1 rs V0 HRL.out HN1.out HA0.out (fun j hj => by obtain ⟨b, off, e, hc⟩ := HIN.out j hj; exact ⟨b, off, e, fun k hk => by have hl : k < (erA rs j).cells.length := hk; have := hc k hk; rw [List.getElem?_eq_getElem hl] at this ⊢; exact (HO.out.trans HD.out).cell this⟩) HSP.out).mono ?_
  rintro _ V1 ⟨A2, c2, rfl, hrow, ok⟩
  have HROW := Lib.hid hrow
  have HV1 : Hid (Ok V0 V1) := Lib.hid ok
  have HS1 : Hid (_ ∧ _ ∧ _) := Lib.hid ⟨ok.cell hS.1, ok.cell hS.2.1, ok.cell hS.2.2⟩
  clear hrow ok
  refine HK.out.out _ _ (fun _ => HS1.out) (fun _ => ?_)
  clear hS
  have hS := HS1.out
  clear HK K
  try go_frame
  refine Until.take0 (i := 15) (v := ?v15) rfl (by kernel_rfl) (by kernel_rfl) (by kernel_rfl) (by kernel_rfl) (fun _ _ _ h => h) (Or.inl ⟨by rfl, ?hy15⟩) (fun _ => hS) ?rest15
  case hy15 => ((intro w hSw); clear hSw; go_simp; (try with_reducible rfl))
  try go_frame
  refine Until.take0 (i := 16) (v := ?v16) rfl (by kernel_rfl) (by kernel_rfl) (by kernel_rfl) (by kernel_rfl) (fun _ _ _ h => h) (Or.inl ⟨by rfl, ?hy16⟩) (fun _ => hS) ?rest16
  case hy16 => ((intro w hSw); clear hSw; go_simp; (try with_reducible rfl))
  try go_frame
  have d6 := HS1.out.1
  have HF1 : Hid (Ok w V1) := Lib.hid ((HO.out.trans HD.out).trans HV1.out)
  have f6 : V1.frozen? ⟨p, 6, none⟩ = false := by have := (HL.out.log.ok HF1.out).box.f 6; rwa [HP.out] at this
  clear hS
  refine Until.one (i := 17) (by kernel_rfl) rfl (fun K hK => ?_)
  have HK := Lib.hid hK
  clear hK
  go_simp
  refine HK.out.out _ _ (fun h => absurd (h.symm.trans (by kernel_rfl : _ = true)) Bool.false_ne_true) (fun _ => ?_)
  clear HK K
  try go_frame
  clear d6 f6
  refine Until.done (by kernel_rfl) ?_ _
  refine HK0.out _ _ ?_
  clear HK0
  have HSE := Lib.hid (setE_at HL.out.log HF1.out A2 c2 (L.es.drop m) rs (by rw [HNL.out]; exact ownsRow_lower HROW.out (HO.out.trans HD.out).size) (by rw [HNL.out]; exact HRL.out) HEN.out HE.out (by rw [HNL.out]; exact HN1.out))
  rw [HNL.out, HP.out] at HSE
  have HA2 : Hid (Six z (.int .i64 (L.i + (m : Int))) (.int .i64 t) (.slice s.A0 s.n0 s.c0) (.slice s.A1 s.n1 s.c1) (.slice s.A2 s.n2 s.c2) (.slice s.A3 s.n3 s.c3) (V1.setCell ⟨p, 6, none⟩ (.slice A2 n1 c2))) := Lib.hid ((HA.out.ok (HD.out.trans HV1.out)).far (HQ.out p (.inl HP.out.symm)) 6 _)
  have HK1 : Hid (Ok w V1) := Lib.hid HF1.out
  have HV2C : Hid (Kp (fun b => b = p) w (V1.setCell ⟨p, 6, none⟩ (.slice A2 n1 c2))) := Lib.hid HSE.out.2.1
  clear HF1 HS1 HROW HA HO HD HV1 HIN HEN hsl HA0 HSP HRL e1
  generalize V1.setCell ⟨p, 6, none⟩ (.slice A2 n1 c2) = V2 at *
  have c7 : V2.cell? ⟨p, 7, none⟩ = some (.slice L.AC L.xs.length L.cC) := by rw [← HP.out]; exact HSE.out.1.box.c7
  have hdel := del_f 108 z (fun x => decide (x ≤ L.i + (m : Int))) L.AC L.xs.length L.cC L.xs rfl (by have := HL.out.log.lx; exact Nat.le_trans this (by decide)) V2 HSE.out.1.cfgs call108 (fun x w' k => standFn_f z x _ w' (k.cell HA2.out.c0 (fun ⟨a, ha, e⟩ => HQ.out z (.inr (.inr ⟨a, ha, e⟩)) rfl)))
  go_wp2_with fail
  refine hdel.mono ?_
  clear hdel
  rintro _ w3 ⟨rfl, hz3, hk3⟩
  have HZS : Hid (L.xs.filter (fun x => !decide (x ≤ L.i + (m : Int))) = mk (L.i + (m : Int) + 1) (L.es.drop m)) := Lib.hid (by
    have := mk_filter L.es (L.i + 1) m HM.out
    rw [HL.out.xs]
    rw [show L.i + 1 + (m : Int) - 1 = L.i + (m : Int) from by omega, show L.i + 1 + (m : Int) = L.i + (m : Int) + 1 from by omega] at this
    exact this)
  have HZL : Hid ((L.xs.filter (fun x => !decide (x ≤ L.i + (m : Int)))).length ≤ L.xs.length) := Lib.hid (List.length_filter_le _ _)
  generalize (L.xs.filter (fun x => !decide (x ≤ L.i + (m : Int)))) = zs at *
  have HX := Lib.hid (cutX_at HSE.out.1 zs HZL.out hz3 hk3)
  rw [show (L.stE A2 c2 (L.es.drop m)).p = p from HP.out, show (L.stE A2 c2 (L.es.drop m)).AC = L.AC from rfl, show (L.stE A2 c2 (L.es.drop m)).cC = L.cC from rfl, show (L.stE A2 c2 (L.es.drop m)).AE = A2 from rfl] at HX
  have hnz : ¬ ∃ a, L.AC = some a ∧ a.block = z := fun ⟨a, ha, e⟩ => HQ.out z (.inr (.inr ⟨a, ha, e⟩)) rfl
  have hnp : ¬ ∃ a, L.AC = some a ∧ a.block = p := fun ⟨a, ha, e⟩ => HL.out.log.neC a ha (by rw [HP.out]; exact e)
  have HA3 : Hid (Fq6 z (.int .i64 (L.i + (m : Int))) (.int .i64 t) (.slice s.A0 s.n0 s.c0) (.slice s.A1 s.n1 s.c1) (.slice s.A2 s.n2 s.c2) (.slice s.A3 s.n3 s.c3) (w3.setCell ⟨p, 7, none⟩ (.slice L.AC zs.length L.cC))) := Lib.hid (by
    have hpz := HQ.out p (.inl HP.out.symm)
    have e : ∀ j, (w3.setCell ⟨p, 7, none⟩ (.slice L.AC zs.length L.cC)).cell? ⟨z, j, none⟩ = w3.cell? ⟨z, j, none⟩ := fun j => World.cell?_setCell_far _ _ _ _ hpz
    exact ⟨(e 0).trans (hk3.cell HA2.out.c0 hnz), (e 1).trans (hk3.cell HA2.out.c1 hnz), (e 2).trans (hk3.cell HA2.out.c2 hnz), (e 3).trans (hk3.cell HA2.out.c3 hnz), (e 4).trans (hk3.cell HA2.out.c4 hnz), (e 5).trans (hk3.cell HA2.out.c5 hnz)⟩)
  have d7 : w3.cell? ⟨p, 7, none⟩ = some (.slice L.AC L.xs.length L.cC) := hk3.cell c7 hnp
  have f7 : w3.frozen? ⟨p, 7, none⟩ = false := by
    rw [World.frozen?_of_block (w := V2) (hk3.block p (World.block_lt_of_cell? _ _ c7) hnp)]
    have := HSE.out.1.box.f 7
    rwa [show (L.stE A2 c2 (L.es.drop m)).p = p from HP.out] at this
  clear c7 hz3 hk3 hnz hnp HA2
  go_upto_region 3 with fail
  clear d7 f7
  generalize w3.setCell ⟨p, 7, none⟩ (.slice L.AC zs.length L.cC) = w4 at *
  have a0 := HA3.out.c0
  have a1 := HA3.out.c1
  have a2 := HA3.out.c2
  have a3 := HA3.out.c3
  have a4 := HA3.out.c4
  have a5 := HA3.out.c5
  have HB4 : Hid (Bx ((L.stE A2 c2 (L.es.drop m)).cutX zs) w4) := Lib.hid HX.out.1.box
  have b0 : w4.cell? ⟨p, 0, none⟩ = some (.int .i64 L.i) := by rw [← HP.out]; exact HB4.out.c0
  have b1 : w4.cell? ⟨p, 1, none⟩ = some (.int .i64 L.t) := by rw [← HP.out]; exact HB4.out.c1
  have b2 : w4.cell? ⟨p, 2, none⟩ = some (.slice L.s.A0 L.s.n0 L.s.c0) := by rw [← HP.out]; exact HB4.out.c2
  have b3 : w4.cell? ⟨p, 3, none⟩ = some (.slice L.s.A1 L.s.n1 L.s.c1) := by rw [← HP.out]; exact HB4.out.c3
  have b4 : w4.cell? ⟨p, 4, none⟩ = some (.slice L.s.A2 L.s.n2 L.s.c2) := by rw [← HP.out]; exact HB4.out.c4
  have b5 : w4.cell? ⟨p, 5, none⟩ = some (.slice L.s.A3 L.s.n3 L.s.c3) := by rw [← HP.out]; exact HB4.out.c5
  have f0 : w4.frozen? ⟨p, 0, none⟩ = false := by rw [← HP.out]; exact HB4.out.f 0
  have f1 : w4.frozen? ⟨p, 1, none⟩ = false := by rw [← HP.out]; exact HB4.out.f 1
  have f2 : w4.frozen? ⟨p, 2, none⟩ = false := by rw [← HP.out]; exact HB4.out.f 2
  have f3 : w4.frozen? ⟨p, 3, none⟩ = false := by rw [← HP.out]; exact HB4.out.f 3
  have f4 : w4.frozen? ⟨p, 4, none⟩ = false := by rw [← HP.out]; exact HB4.out.f 4
  have f5 : w4.frozen? ⟨p, 5, none⟩ = false := by rw [← HP.out]; exact HB4.out.f 5
  go_wp2_with fail
  refine bodyPost_ret (v := .tuple #[]) (by simp [results, Try.results66, go_sem]; try rfl) rfl ?_
  clear a0 a1 a2 a3 a4 a5 b0 b1 b2 b3 b4 b5 f0 f1 f2 f3 f4 f5
  have HW5 : Hid (∃ w5, w5 = six w4 p (L.i + (m : Int)) t s) := Lib.hid ⟨_, rfl⟩
  show StandP S L m t cf w (.returned (.tuple #[])) (six w4 p (L.i + (m : Int)) t s)
  have hkk : Kp (Ow L.p L.AE L.AC) w (six w4 p (L.i + (m : Int)) t s) := by
    have k1 : Kp (Ow L.p L.AE L.AC) w V2 := (Kp.refl _ w).then HV2C.out fun j _ e => .inl (by rw [HP.out]; exact e)
    have k2 : Kp (Ow L.p L.AE L.AC) w w4 := k1.then HX.out.2 fun j hj e => by
      rcases HSE.out.2.2 j e with q | q
      · rw [HP.out]; exact q
      · omega
    exact k2.then (six_kp w4 p _ t s) fun j _ e => .inl (by rw [HP.out]; exact e)
  have hcf : CfgAt (six w4 p (L.i + (m : Int)) t s) s cf := HC.out.kp hkk (HOF.out.sub fun b hb => .inr hb)
  have hnew : ∀ b, Ow L.p A2 L.AC b → Ow L.p L.AE L.AC b ∨ w.heap.size ≤ b := fun b hb => by rw [HP.out] at hb ⊢; exact HSE.out.2.2 b hb
  refine ⟨rfl, ((L.stE A2 c2 (L.es.drop m)).cutX zs).stB (L.i + (m : Int)) t s, ?_, hcf, rfl, rfl, rfl, rfl, fun hb => ?_, hkk, hnew⟩
  · have := HB4.out.setB (L.i + (m : Int)) t s
    rwa [show ((L.stE A2 c2 (L.es.drop m)).cutX zs).p = p from HP.out] at this
  · have hlog := setB_at HX.out.1 (L.i + (m : Int)) t s (by omega) hb
    rw [show ((L.stE A2 c2 (L.es.drop m)).cutX zs).p = p from HP.out] at hlog
    refine ⟨hlog, hcf, ?_, HZS.out, hle⟩
    refine HOF.out.or HC.out.later fun b hb => ?_
    rcases hb with q | q
    · exact .inl (.inl q)
    · exact (hnew b q).imp .inr id
end Go.Proofs.Ytebhcadolnjplaa
