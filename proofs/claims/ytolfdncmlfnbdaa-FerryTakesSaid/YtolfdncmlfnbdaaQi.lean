/- Contracts: how a change begins; whether two configurations are the same. -/
import Derived.Test.YtolfdncmlfnbdaaQh
namespace Go.Proofs.Ytolfdncmlfnbdaa
open Go.RowKit

def BeginPost (W : World) (c : Cfg) (want : List Int) (e : Ending) (w' : World) : Prop :=
  ∃ v, e = .returned (.tuple #[v, .int .i64 (beginE c want)]) ∧ CfgIn w' v (beginC c want) ∧ Ok W w'

def BeginPostO (W : World) (c : Cfg) (want : List Int) (e : Ending) (w' : World) : Prop :=
  ∃ v, e = .returned (.tuple #[v, .int .i64 (beginE c want)]) ∧ CfgO w' W.heap.size v (beginC c want) ∧ Ok W w'

set_option maxRecDepth 100000 in
set_option maxHeartbeats 4000000 in
theorem begin_o (v vw : Value) (c : Cfg) (want : List Int) (W : World) (h : CfgIn W v c) (hwant : InI W vw want) :
    Calls Try.prog 42 #[v, vw] W (BeginPostO W c want) := by
  obtain ⟨A0, c0, A1, c1, A2, c2, A3, c3, rfl, h1, h2, h3, h4⟩ := h.forms
  obtain ⟨A4, c4, rfl, _⟩ := hwant.form
  have HC := Lib.hid h
  have H1 := Lib.hid h1
  have HW := Lib.hid hwant
  clear h h1 h2 h3 h4 hwant
  have HD : Hid (beginE c want = if !rightB c || noB c.vs || noB want || !rowB want then 2 else if !noB c.ws then 25 else if sameB want c.vs then 7 else 0) := Lib.hid rfl
  have HDC : Hid (beginE c want ≠ 0 → beginC c want = ⟨[], [], [], []⟩) := Lib.hid (fun h => if_neg h)
  have HDO : Hid (beginE c want = 0 → beginC c want = ⟨c.vs, [], newsL c.vs want, want⟩) := Lib.hid (fun h => if_pos h)
  have hz0 := noB_int c.vs _ rfl
  have hz4 := noB_int want _ rfl
  have hp3 := noB_nat c.ws _ rfl
  have HR := Lib.hid (@right_rows c)
  have HAT0 := Lib.hid (N3.at W (.slice A0 c.vs.length c0) (.slice A1 c.os.length c1) (.slice A2 c.ls.length c2) (.slice A3 c.ws.length c3))
  have HFR0 := Lib.hid (N3.free W #[(.slice A0 c.vs.length c0), (.slice A1 c.os.length c1), (.slice A2 c.ls.length c2), (.slice A3 c.ws.length c3)])
  have HOK0 := Lib.hid (N3.ok W #[(.slice A0 c.vs.length c0), (.slice A1 c.os.length c1), (.slice A2 c.ls.length c2), (.slice A3 c.ws.length c3)])
  generalize hn0 : c.vs.length = n0 at *
  generalize hn1 : c.os.length = n1 at *
  generalize hn2 : c.ls.length = n2 at *
  generalize hn3 : c.ws.length = n3 at *
  generalize hn4 : want.length = n4 at *
  have HN0 := Lib.hid hn0
  have HN4 := Lib.hid hn4
  clear hn0 hn1 hn2 hn3 hn4
  go_enter Try.func42, Try.ntmps42
  go_wp2_with fail
  change Calls _ _ _ (N3 W #[.slice A0 n0 c0, .slice A1 n1 c1, .slice A2 n2 c2, .slice A3 n3 c3]) _
  generalize hW1 : N3 W #[.slice A0 n0 c0, .slice A1 n1 c1, .slice A2 n2 c2, .slice A3 n3 c3] = W1 at *
  clear hW1
  refine (right_q _ c _ (HOK0.out.cfg HC.out)).mono ?_
  rintro e w1 ⟨rfl, hok1⟩
  have HO1 : Hid (Ok W w1) := Lib.hid (HOK0.out.trans hok1)
  have hat := HAT0.out.ok hok1
  have HAT := Lib.hid hat
  obtain ⟨hc0, hc1, hc2, hc3⟩ := hat
  have hfr := HFR0.out.ok hok1
  have HFR := Lib.hid hfr
  obtain ⟨⟨hr0, hr1, hr2, hr3⟩, hf0, hf1, hf2, hf3⟩ := hfr
  clear hok1 HAT0 HFR0 HOK0
  have HG : Hid (W.heap.size ≤ W.heap.size + 1) := Lib.hid (Nat.le_succ _)
  cases hr : rightB c with
  | false =>
    rw [hr] at HD
    go_wp2_with fail
    refine bodyPost_ret (ret4 rfl _ _ (W.heap.size + 1) _ _ _ _ _ HFR.out.room rfl rfl) rfl ?_
    exact ⟨_, by rw [HD.out]; rfl, by rw [HDC.out (by rw [HD.out]; simp)]; exact cfgO_none _ _, set4.ok HO1.out HG.out _ _ _ _⟩
  | true =>
  rw [hr] at HD
  have HL0 : Hid (c.vs.length ≤ 1000) := Lib.hid (Nat.le_trans (rowB_len _ (HR.out hr).1) (by decide))
  clear hr HR
  cases he0 : noB c.vs with
  | true =>
    rw [he0] at HD hz0
    go_wp2_with fail
    refine bodyPost_ret (ret4 rfl _ _ (W.heap.size + 1) _ _ _ _ _ HFR.out.room rfl rfl) rfl ?_
    exact ⟨_, by rw [HD.out]; rfl, by rw [HDC.out (by rw [HD.out]; simp)]; exact cfgO_none _ _, set4.ok HO1.out HG.out _ _ _ _⟩
  | false =>
  rw [he0] at HD hz0
  cases he4 : noB want with
  | true =>
    rw [he4] at HD hz4
    go_wp2_with fail
    refine bodyPost_ret (ret4 rfl _ _ (W.heap.size + 1) _ _ _ _ _ HFR.out.room rfl rfl) rfl ?_
    exact ⟨_, by rw [HD.out]; rfl, by rw [HDC.out (by rw [HD.out]; simp)]; exact cfgO_none _ _, set4.ok HO1.out HG.out _ _ _ _⟩
  | false =>
  rw [he4] at HD hz4
  go_wp2_with fail
  refine (row_q _ want w1 (HO1.out.ints HW.out)).mono ?_
  rintro e w2 ⟨rfl, rfl⟩
  cases hrw : rowB want with
  | false =>
    rw [hrw] at HD
    go_wp2_with fail
    refine bodyPost_ret (ret4 rfl _ _ (W.heap.size + 1) _ _ _ _ _ HFR.out.room rfl rfl) rfl ?_
    exact ⟨_, by rw [HD.out]; rfl, by rw [HDC.out (by rw [HD.out]; simp)]; exact cfgO_none _ _, set4.ok HO1.out HG.out _ _ _ _⟩
  | true =>
  have HL4 : Hid (want.length ≤ 1000) := Lib.hid (Nat.le_trans (rowB_len _ hrw) (by decide))
  rw [hrw] at HD
  clear hrw
  cases he3 : noB c.ws with
  | false =>
    rw [he3] at HD hp3
    have hp3n : decide (0 < n3) = true := hp3
    have hp3i : decide ((0 : Int) < (n3 : Int)) = true := (decide_eq_decide.2 (by omega)).trans hp3n
    clear hp3
    go_wp2_with fail
    refine bodyPost_ret (ret4 rfl _ _ (W.heap.size + 1) _ _ _ _ _ HFR.out.room rfl rfl) rfl ?_
    exact ⟨_, by rw [HD.out]; rfl, by rw [HDC.out (by rw [HD.out]; simp)]; exact cfgO_none _ _, set4.ok HO1.out HG.out _ _ _ _⟩
  | true =>
  rw [he3] at HD hp3
  have hp3n : decide (0 < n3) = false := hp3
  have hp3i : decide ((0 : Int) < (n3 : Int)) = false := (decide_eq_decide.2 (by omega)).trans hp3n
  clear hp3
  go_wp2_with fail
  refine (equal_q _ _ want c.vs _ (HO1.out.ints HW.out) (HO1.out.ints H1.out)).mono ?_
  rintro e w2 ⟨rfl, hok2⟩
  have HO2 : Hid (Ok W w2) := Lib.hid (HO1.out.trans hok2)
  have hat := HAT.out.ok hok2
  have HAT2 := Lib.hid hat
  obtain ⟨hd0, hd1, hd2, hd3⟩ := hat
  have hfr := HFR.out.ok hok2
  have HFR2 := Lib.hid hfr
  obtain ⟨⟨hs0, hs1, hs2, hs3⟩, hg0, hg1, hg2, hg3⟩ := hfr
  have HSZ2 : Hid (W.heap.size + 1 < w2.heap.size) := Lib.hid (World.block_lt_of_cell? _ _ hs0)
  clear hok2 hc0 hc1 hc2 hc3 hr0 hr1 hr2 hr3 hf0 hf1 hf2 hf3 HAT HFR
  cases hs : sameB want c.vs with
  | true =>
    rw [hs] at HD
    go_wp2_with fail
    refine bodyPost_ret (ret4 rfl _ _ (W.heap.size + 1) _ _ _ _ _ HFR2.out.room rfl rfl) rfl ?_
    exact ⟨_, by rw [HD.out]; rfl, by rw [HDC.out (by rw [HD.out]; simp)]; exact cfgO_none _ _, set4.ok HO2.out HG.out _ _ _ _⟩
  | false =>
    rw [hs] at HD
    have HDO2 := Lib.hid (HDO.out (by rw [HD.out]; rfl))
    clear hs HDC HDO
    have HCV : Hid (∀ w, Ok w2 w → Calls Try.prog 104 #[.slice A0 n0 c0] w fun e w' => (∃ A cc, e = .returned (.slice A n0 cc) ∧ OwnZ w' w2.heap.size (.slice A n0 cc) c.vs) ∧ Ok w w') := Lib.hid fun w hw => by
      have := clone_q _ c.vs w ((HO2.out.trans hw).ints H1.out) HL0.out
      rw [HN0.out] at this
      exact this.mono fun _ _ ⟨⟨A, cc, he, ho⟩, hk⟩ => ⟨⟨A, cc, he, World.ownsRow.mono ho hw.size⟩, hk⟩
    have HCW : Hid (∀ w, Ok w2 w → Calls Try.prog 104 #[.slice A4 n4 c4] w fun e w' => (∃ A cc, e = .returned (.slice A n4 cc) ∧ OwnZ w' w2.heap.size (.slice A n4 cc) want) ∧ Ok w w') := Lib.hid fun w hw => by
      have := clone_q _ want w ((HO2.out.trans hw).ints HW.out) HL4.out
      rw [HN4.out] at this
      exact this.mono fun _ _ ⟨⟨A, cc, he, ho⟩, hk⟩ => ⟨⟨A, cc, he, World.ownsRow.mono ho hw.size⟩, hk⟩
    have HCN : Hid (∀ w, Ok w2 w → Calls Try.prog 105 #[.agg #[.slice A0 n0 c0, .slice A1 n1 c1, .slice A2 n2 c2, .slice A3 n3 c3], .slice A4 n4 c4] w fun e w' =>
        (∃ A cc, e = .returned (.slice A (newsL c.vs want).length cc) ∧ OwnZ w' w2.heap.size (.slice A (newsL c.vs want).length cc) (newsL c.vs want)) ∧ Ok w w') := Lib.hid fun w hw =>
      (news_q _ _ c want w ((HO2.out.trans hw).cfg HC.out) ((HO2.out.trans hw).ints HW.out) HL4.out).mono fun _ _ ⟨⟨A, cc, he, ho⟩, hk⟩ => ⟨⟨A, cc, he, World.ownsRow.mono ho hw.size⟩, hk⟩
    have HLN : Hid ((newsL c.vs want).length ≤ 1000) := Lib.hid (Nat.le_trans (newsL_len _ _) HL4.out)
    generalize hM : (newsL c.vs want).length = M at *
    generalize newsL c.vs want = nl at *
    have HM := Lib.hid hM
    clear hM
    clear hs0 hs1 hs2 hs3 hg0 hg1 hg2 hg3 hd0 hd1 hd2 hd3 H1 HC HO1 HW hz0 hz4 hp3n hp3i he0 he3 he4
    go_wp2_with fail
    go_region_held3 (fun w' => w'.cell? ⟨W.heap.size + 1 + 1, 0, none⟩ = some (.slice A0 n0 c0) ∧ w'.cell? ⟨W.heap.size + 1 + 1, 1, none⟩ = some (.slice A1 n1 c1) ∧ w'.cell? ⟨W.heap.size + 1 + 1, 2, none⟩ = some (.slice A2 n2 c2) ∧ w'.cell? ⟨W.heap.size + 1 + 1, 3, none⟩ = some (.slice A3 n3 c3) ∧ OkS W w' ∧ w'.cell? ⟨W.heap.size + 1, 0, none⟩ = some (cellOf w' (W.heap.size + 1) 0) ∧ w'.cell? ⟨W.heap.size + 1, 1, none⟩ = some (cellOf w' (W.heap.size + 1) 1) ∧ w'.cell? ⟨W.heap.size + 1, 2, none⟩ = some (cellOf w' (W.heap.size + 1) 2) ∧ w'.cell? ⟨W.heap.size + 1, 3, none⟩ = some (cellOf w' (W.heap.size + 1) 3) ∧ w'.frozen? ⟨W.heap.size + 1, 0, none⟩ = false ∧ w'.frozen? ⟨W.heap.size + 1, 1, none⟩ = false ∧ w'.frozen? ⟨W.heap.size + 1, 2, none⟩ = false ∧ w'.frozen? ⟨W.heap.size + 1, 3, none⟩ = false)
      ((first
        | (refine S7 HO2.out HAT2.out HFR2.out ?_; (repeat (first | (with_reducible exact Ok.refl _) | (with_reducible refine Ok.drew ?_) | (with_reducible refine Ok.trans ?_ (by assumption)))); done)
        | (exact S7set HG.out (by assumption) _ _ _ _)))
      ((first
        | (go_at_call 104; (with_reducible refine (HCV.out _ ?_).mono ?_); (repeat (first | (with_reducible exact Ok.refl _) | (with_reducible refine Ok.drew ?_) | (with_reducible refine Ok.trans ?_ (by assumption)))); rintro e wc ⟨⟨A, cc, rfl, hown⟩, hbc⟩)
        | (go_at_call 104; (with_reducible refine (HCW.out _ ?_).mono ?_); (repeat (first | (with_reducible exact Ok.refl _) | (with_reducible refine Ok.drew ?_) | (with_reducible refine Ok.trans ?_ (by assumption)))); rintro e wc ⟨⟨A, cc, rfl, hown⟩, hbc⟩)
        | (go_at_call 105; (with_reducible refine (HCN.out _ ?_).mono ?_); (repeat (first | (with_reducible exact Ok.refl _) | (with_reducible refine Ok.drew ?_) | (with_reducible refine Ok.trans ?_ (by assumption)))); rintro e wc ⟨⟨A, cc, rfl, hown⟩, hbc⟩)))
    all_goals go_wp2_with fail
    all_goals refine bodyPost_ret (ret4 rfl _ _ (W.heap.size + 1) _ _ _ _ _ (Free.room (HFR2.out.ok ?_)) rfl rfl) rfl ?_
    all_goals (first | ((repeat (first | (with_reducible exact Ok.refl _) | (with_reducible refine Ok.drew ?_) | (with_reducible refine Ok.trans ?_ (by assumption)))); done) | skip)
    all_goals refine ⟨_, by rw [HD.out]; rfl, by rw [HDO2.out]; exact CfgO.of (lateO (by assumption) (by (repeat (first | (with_reducible exact Ok.refl _) | (with_reducible refine Ok.drew ?_) | (with_reducible refine Ok.trans ?_ (by assumption))))) HSZ2.out HL0.out _ _ _ _) (OwnL.nil _ _) (lateO (by assumption) (by (repeat (first | (with_reducible exact Ok.refl _) | (with_reducible refine Ok.drew ?_) | (with_reducible refine Ok.trans ?_ (by assumption))))) HSZ2.out (by rw [HM.out]; exact HLN.out) _ _ _ _) (lateO (by assumption) (by (repeat (first | (with_reducible exact Ok.refl _) | (with_reducible refine Ok.drew ?_) | (with_reducible refine Ok.trans ?_ (by assumption))))) HSZ2.out HL4.out _ _ _ _), set4.ok (Ok.trans HO2.out ?_) HG.out _ _ _ _⟩
    all_goals (repeat (first | (with_reducible exact Ok.refl _) | (with_reducible refine Ok.drew ?_) | (with_reducible refine Ok.trans ?_ (by assumption))))

theorem begin_q (v vw : Value) (c : Cfg) (want : List Int) (W : World) (h : CfgIn W v c) (hwant : InI W vw want) : Calls Try.prog 42 #[v, vw] W (BeginPost W c want) :=
  (begin_o v vw c want W h hwant).mono fun _ _ ⟨v, he, hc, hk⟩ => ⟨v, he, hc.cfg, hk⟩

set_option maxRecDepth 100000 in
set_option maxHeartbeats 4000000 in
theorem sameConfig_q (va vb : Value) (a b : Cfg) (W : World) (ha : CfgIn W va a) (hb : CfgIn W vb b) :
    Calls Try.prog 110 #[va, vb] W fun e w' => e = .returned (.bool (sameC a b)) ∧ Ok W w' := by
  obtain ⟨A0, c0, A1, c1, A2, c2, A3, c3, rfl, h1, h2, h3, h4⟩ := ha.forms
  obtain ⟨B0, d0, B1, d1, B2, d2, B3, d3, rfl, k1, k2, k3, k4⟩ := hb.forms
  have H1 := Lib.hid h1
  have H2 := Lib.hid h2
  have H3 := Lib.hid h3
  have H4 := Lib.hid h4
  have K1 := Lib.hid k1
  have K2 := Lib.hid k2
  have K3 := Lib.hid k3
  have K4 := Lib.hid k4
  clear ha hb h1 h2 h3 h4 k1 k2 k3 k4
  have HD : Hid (sameC a b = (sameB a.vs b.vs && sameB a.os b.os && sameB a.ls b.ls && sameB a.ws b.ws)) := Lib.hid rfl
  have HAT0 := Lib.hid (At.one W (.cells #[.slice B0 b.vs.length d0, .slice B1 b.os.length d1, .slice B2 b.ls.length d2, .slice B3 b.ws.length d3] 71) (.slice A0 a.vs.length c0) (.slice A1 a.os.length c1) (.slice A2 a.ls.length c2) (.slice A3 a.ws.length c3) 71)
  have HBT0 := Lib.hid (At.two W #[.slice A0 a.vs.length c0, .slice A1 a.os.length c1, .slice A2 a.ls.length c2, .slice A3 a.ws.length c3] (.slice B0 b.vs.length d0) (.slice B1 b.os.length d1) (.slice B2 b.ls.length d2) (.slice B3 b.ws.length d3) 71 71)
  have HOK0 : Hid (Ok W ((W.alloc (.cells #[.slice A0 a.vs.length c0, .slice A1 a.os.length c1, .slice A2 a.ls.length c2, .slice A3 a.ws.length c3] 71)).alloc (.cells #[.slice B0 b.vs.length d0, .slice B1 b.os.length d1, .slice B2 b.ls.length d2, .slice B3 b.ws.length d3] 71))) := Lib.hid (((Ok.refl W).alloc _).alloc _)
  generalize a.vs.length = n0 at *
  generalize a.os.length = n1 at *
  generalize a.ls.length = n2 at *
  generalize a.ws.length = n3 at *
  generalize b.vs.length = m0 at *
  generalize b.os.length = m1 at *
  generalize b.ls.length = m2 at *
  generalize b.ws.length = m3 at *
  go_enter Try.func110, Try.ntmps110
  go_wp2_with fail
  generalize ((W.alloc (.cells #[.slice A0 n0 c0, .slice A1 n1 c1, .slice A2 n2 c2, .slice A3 n3 c3] 71)).alloc (.cells #[.slice B0 m0 d0, .slice B1 m1 d1, .slice B2 m2 d2, .slice B3 m3 d3] 71)) = W1 at *
  refine (sameInts_q _ _ a.vs b.vs W1 (HOK0.out.ints H1.out) (HOK0.out.ints K1.out)).mono ?_
  rintro e w1 ⟨rfl, hok⟩
  have HO1 : Hid (Ok W1 w1) := Lib.hid hok
  clear hok
  obtain ⟨_, hc1, _, _⟩ := HAT0.out.ok HO1.out
  obtain ⟨_, hd1, _, _⟩ := HBT0.out.ok HO1.out
  cases hs : sameB a.vs b.vs with
  | false =>
    rw [hs] at HD
    go_wp2_with fail
    go_ret
    exact ⟨by rw [HD.out]; rfl, HOK0.out.trans HO1.out⟩
  | true =>
  rw [hs] at HD
  clear hs
  go_wp2_with fail
  clear hc1 hd1
  refine (sameInts_q _ _ a.os b.os w1 ((HOK0.out.trans HO1.out).ints H2.out) ((HOK0.out.trans HO1.out).ints K2.out)).mono ?_
  rintro e w2 ⟨rfl, hok⟩
  have HO2 : Hid (Ok W1 w2) := Lib.hid (HO1.out.trans hok)
  clear hok
  obtain ⟨_, _, hc1, _⟩ := HAT0.out.ok HO2.out
  obtain ⟨_, _, hd1, _⟩ := HBT0.out.ok HO2.out
  cases hs : sameB a.os b.os with
  | false =>
    rw [hs] at HD
    go_wp2_with fail
    go_ret
    exact ⟨by rw [HD.out]; rfl, HOK0.out.trans HO2.out⟩
  | true =>
  rw [hs] at HD
  clear hs
  go_wp2_with fail
  clear hc1 hd1
  refine (sameInts_q _ _ a.ls b.ls w2 ((HOK0.out.trans HO2.out).ints H3.out) ((HOK0.out.trans HO2.out).ints K3.out)).mono ?_
  rintro e w3 ⟨rfl, hok⟩
  have HO3 : Hid (Ok W1 w3) := Lib.hid (HO2.out.trans hok)
  clear hok
  obtain ⟨_, _, _, hc1⟩ := HAT0.out.ok HO3.out
  obtain ⟨_, _, _, hd1⟩ := HBT0.out.ok HO3.out
  cases hs : sameB a.ls b.ls with
  | false =>
    rw [hs] at HD
    go_wp2_with fail
    go_ret
    exact ⟨by rw [HD.out]; rfl, HOK0.out.trans HO3.out⟩
  | true =>
  rw [hs] at HD
  clear hs
  go_wp2_with fail
  clear hc1 hd1
  refine (sameInts_q _ _ a.ws b.ws w3 ((HOK0.out.trans HO3.out).ints H4.out) ((HOK0.out.trans HO3.out).ints K4.out)).mono ?_
  rintro e w4 ⟨rfl, hok⟩
  have HO4 : Hid (Ok W1 w4) := Lib.hid (HO3.out.trans hok)
  clear hok
  go_wp2_with fail
  go_ret
  exact ⟨by rw [HD.out]; rfl, HOK0.out.trans HO4.out⟩
end Go.Proofs.Ytolfdncmlfnbdaa
