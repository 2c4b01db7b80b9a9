/- The document's Begin and Next. -/
import Derived.Test.YtolfdncmlfnbdaaUf
namespace Go.Proofs.Ytolfdncmlfnbdaa
open Go.RowKit

/-- The two blocks that a call lays at its beginning: its argument, its result. -/
def N2 (W : World) (cs : Array Value) : World := (W.alloc (.cells cs 71)).alloc (.cells #[.slice none 0 0, .slice none 0 0, .slice none 0 0, .slice none 0 0] 71)
theorem N2.ok (W : World) (cs : Array Value) : Ok W (N2 W cs) := ((Ok.refl W).alloc _).alloc _
theorem N2.at (W : World) (v0 v1 v2 v3 : Value) : At (N2 W #[v0, v1, v2, v3]) W.heap.size v0 v1 v2 v3 := At.one W _ v0 v1 v2 v3 _
theorem N2.free (W : World) (cs : Array Value) : Free (N2 W cs) (W.heap.size + 1) := by
  have := Free.new (W.alloc (.cells cs 71)) 71
  rwa [World.size_alloc] at this
theorem T7 {W w1 w' : World} {g : Nat} {v0 v1 v2 v3 : Value} (hO : Ok W w1) (h : At w1 g v0 v1 v2 v3) (f : Free w1 (g + 1)) (k : Ok w1 w') :
    w'.cell? ⟨g, 0, none⟩ = some v0 ∧ w'.cell? ⟨g, 1, none⟩ = some v1 ∧ w'.cell? ⟨g, 2, none⟩ = some v2 ∧ w'.cell? ⟨g, 3, none⟩ = some v3 ∧ OkS W w' ∧ Room w' (g + 1) :=
  ⟨k.cell h.1, k.cell h.2.1, k.cell h.2.2.1, k.cell h.2.2.2, ⟨hO.trans k⟩, (f.ok k).room⟩
theorem T7set {W w : World} {g : Nat} {v0 v1 v2 v3 : Value} (hg : W.heap.size ≤ g + 1) (h : w.cell? ⟨g, 0, none⟩ = some v0 ∧ w.cell? ⟨g, 1, none⟩ = some v1 ∧ w.cell? ⟨g, 2, none⟩ = some v2 ∧ w.cell? ⟨g, 3, none⟩ = some v3 ∧ OkS W w ∧ Room w (g + 1)) (x0 x1 x2 x3 : Value) :
    (set4 w (g + 1) x0 x1 x2 x3).cell? ⟨g, 0, none⟩ = some v0 ∧ (set4 w (g + 1) x0 x1 x2 x3).cell? ⟨g, 1, none⟩ = some v1 ∧ (set4 w (g + 1) x0 x1 x2 x3).cell? ⟨g, 2, none⟩ = some v2 ∧ (set4 w (g + 1) x0 x1 x2 x3).cell? ⟨g, 3, none⟩ = some v3 ∧ OkS W (set4 w (g + 1) x0 x1 x2 x3) ∧ Room (set4 w (g + 1) x0 x1 x2 x3) (g + 1) := by
  obtain ⟨h0, h1, h2, h3, hk, hr⟩ := h
  have hne : g ≠ g + 1 := by omega
  exact ⟨cell_set hne (cell_set hne (cell_set hne (cell_set hne h0))), cell_set hne (cell_set hne (cell_set hne (cell_set hne h1))), cell_set hne (cell_set hne (cell_set hne (cell_set hne h2))), cell_set hne (cell_set hne (cell_set hne (cell_set hne h3))), ⟨set4.ok hk.out hg _ _ _ _⟩, room_set (room_set (room_set (room_set hr)))⟩

set_option maxRecDepth 100000 in
set_option maxHeartbeats 4000000 in
theorem begin06_w (v vw : Value) (c : Cfg) (want : List Int) (W : World) (h : CfgIn W v c) (hwant : InI W vw want) :
    Calls Try.prog 43 #[v, vw] W (BeginPost W c want) := by
  obtain ⟨A0, c0, A1, c1, A2, c2, A3, c3, rfl, h1, h2, h3, h4⟩ := h.forms
  obtain ⟨A4, c4, rfl, _⟩ := hwant.form
  have HC := Lib.hid h
  have H1 := Lib.hid h1
  have HW := Lib.hid hwant
  clear h h1 h2 h3 h4 hwant
  have HD : Hid (beginE c want = if !rightB c || noB c.vs || noB want || !rowB want then 2 else if !noB c.ws then 25 else if sameB want c.vs then 7 else 0) := Lib.hid rfl
  have HDC : Hid (beginE c want ≠ 0 → beginC c want = ⟨[], [], [], []⟩) := Lib.hid (fun h => if_neg h)
  have HDO : Hid (beginE c want = 0 → beginC c want = ⟨c.vs, [], newsL c.vs want, want⟩) := Lib.hid (fun h => if_pos h)
  have hz0 := noB_int c.vs _ rfl
  have hz4 := noB_int want _ rfl
  have hp3 := noB_nat c.ws _ rfl
  have HR := Lib.hid (@right_rows c)
  have HAT0 := Lib.hid (N2.at W (.slice A0 c.vs.length c0) (.slice A1 c.os.length c1) (.slice A2 c.ls.length c2) (.slice A3 c.ws.length c3))
  have HFR0 := Lib.hid (N2.free W #[(.slice A0 c.vs.length c0), (.slice A1 c.os.length c1), (.slice A2 c.ls.length c2), (.slice A3 c.ws.length c3)])
  have HOK0 := Lib.hid (N2.ok W #[(.slice A0 c.vs.length c0), (.slice A1 c.os.length c1), (.slice A2 c.ls.length c2), (.slice A3 c.ws.length c3)])
  generalize hn0 : c.vs.length = n0 at *
  generalize hn1 : c.os.length = n1 at *
  generalize hn2 : c.ls.length = n2 at *
  generalize hn3 : c.ws.length = n3 at *
  generalize hn4 : want.length = n4 at *
  have HN0 := Lib.hid hn0
  have HN4 := Lib.hid hn4
  clear hn0 hn1 hn2 hn3 hn4
  have HG : Hid (W.heap.size ≤ W.heap.size + 1) := Lib.hid (Nat.le_succ _)
  go_enter Try.func43, Try.ntmps43
  obtain ⟨hc0, hc1, hc2, hc3⟩ := HAT0.out
  go_wp2_with fail
  change Calls _ _ _ (N2 W #[.slice A0 n0 c0, .slice A1 n1 c1, .slice A2 n2 c2, .slice A3 n3 c3]) _
  clear hc0 hc1 hc2 hc3
  generalize hW1 : N2 W #[.slice A0 n0 c0, .slice A1 n1 c1, .slice A2 n2 c2, .slice A3 n3 c3] = W1 at *
  clear hW1
  refine (right06_w _ c _ (HOK0.out.cfg HC.out)).mono ?_
  rintro e w1 ⟨rfl, hok1⟩
  have HO1 : Hid (Ok W w1) := Lib.hid (HOK0.out.trans hok1)
  have hat := HAT0.out.ok hok1
  have HAT := Lib.hid hat
  obtain ⟨hc0, hc1, hc2, hc3⟩ := hat
  have hfr := HFR0.out.ok hok1
  have HFR := Lib.hid hfr
  obtain ⟨⟨hr0, hr1, hr2, hr3⟩, hf0, hf1, hf2, hf3⟩ := hfr
  clear hok1 HAT0 HFR0 HOK0
  cases hr : rightB c with
  | false =>
    rw [hr] at HD
    go_wp2_with fail
    refine bodyPost_ret (ret4 rfl _ _ (W.heap.size + 1) _ _ _ _ _ HFR.out.room rfl rfl) rfl ?_
    exact ⟨_, by rw [HD.out]; rfl, by rw [HDC.out (by rw [HD.out]; simp)]; exact cfg_none _, set4.ok HO1.out HG.out _ _ _ _⟩
  | true =>
  rw [hr] at HD
  have HL0 : Hid (c.vs.length ≤ 1000) := Lib.hid (Nat.le_trans (rowB_len _ (HR.out hr).1) (by decide))
  clear hr HR
  cases he0 : noB c.vs with
  | true =>
    rw [he0] at HD hz0
    go_wp2_with fail
    refine bodyPost_ret (ret4 rfl _ _ (W.heap.size + 1) _ _ _ _ _ HFR.out.room rfl rfl) rfl ?_
    exact ⟨_, by rw [HD.out]; rfl, by rw [HDC.out (by rw [HD.out]; simp)]; exact cfg_none _, set4.ok HO1.out HG.out _ _ _ _⟩
  | false =>
  rw [he0] at HD hz0
  go_wp2_with fail
  refine (row06_w _ want w1 (HO1.out.ints HW.out)).mono ?_
  rintro e w2 ⟨rfl, hok2⟩
  have HO2 : Hid (Ok W w2) := Lib.hid (HO1.out.trans hok2)
  have hat := HAT.out.ok hok2
  have HAT2 := Lib.hid hat
  have hfr := HFR.out.ok hok2
  have HFR2 := Lib.hid hfr
  clear hok2 hc0 hc1 hc2 hc3 hr0 hr1 hr2 hr3 hf0 hf1 hf2 hf3 HAT HFR HO1
  obtain ⟨hc0, hc1, hc2, hc3⟩ := hat
  obtain ⟨⟨hr0, hr1, hr2, hr3⟩, hf0, hf1, hf2, hf3⟩ := hfr
  cases hrw : rowB want with
  | false =>
    rw [hrw] at HD
    have HD2 : Hid (beginE c want = 2) := Lib.hid (by rw [HD.out]; simp)
    go_wp2_with fail
    refine bodyPost_ret (ret4 rfl _ _ (W.heap.size + 1) _ _ _ _ _ HFR2.out.room rfl rfl) rfl ?_
    exact ⟨_, by rw [HD2.out]; rfl, by rw [HDC.out (by rw [HD2.out]; simp)]; exact cfg_none _, set4.ok HO2.out HG.out _ _ _ _⟩
  | true =>
  have HL4 : Hid (want.length ≤ 1000) := Lib.hid (Nat.le_trans (rowB_len _ hrw) (by decide))
  rw [hrw] at HD
  clear hrw
  cases he4 : noB want with
  | true =>
    rw [he4] at HD hz4
    go_wp2_with fail
    refine bodyPost_ret (ret4 rfl _ _ (W.heap.size + 1) _ _ _ _ _ HFR2.out.room rfl rfl) rfl ?_
    exact ⟨_, by rw [HD.out]; rfl, by rw [HDC.out (by rw [HD.out]; simp)]; exact cfg_none _, set4.ok HO2.out HG.out _ _ _ _⟩
  | false =>
  rw [he4] at HD hz4
  cases he3 : noB c.ws with
  | false =>
    rw [he3] at HD hp3
    have hp3n : decide (0 < n3) = true := hp3
    have hp3i : decide ((0 : Int) < (n3 : Int)) = true := (decide_eq_decide.2 (by omega)).trans hp3n
    clear hp3
    go_wp2_with fail
    refine bodyPost_ret (ret4 rfl _ _ (W.heap.size + 1) _ _ _ _ _ HFR2.out.room rfl rfl) rfl ?_
    exact ⟨_, by rw [HD.out]; rfl, by rw [HDC.out (by rw [HD.out]; simp)]; exact cfg_none _, set4.ok HO2.out HG.out _ _ _ _⟩
  | true =>
  rw [he3] at HD hp3
  have hp3n : decide (0 < n3) = false := hp3
  have hp3i : decide ((0 : Int) < (n3 : Int)) = false := (decide_eq_decide.2 (by omega)).trans hp3n
  clear hp3
  go_wp2_with fail
  refine (sameInts_q _ _ want c.vs _ (HO2.out.ints HW.out) (HO2.out.ints H1.out)).mono ?_
  rintro e w3 ⟨rfl, hok2⟩
  have HO3 : Hid (Ok W w3) := Lib.hid (HO2.out.trans hok2)
  have hat := HAT2.out.ok hok2
  have HAT3 := Lib.hid hat
  have hfr := HFR2.out.ok hok2
  have HFR3 := Lib.hid hfr
  clear hok2 hc0 hc1 hc2 hc3 hr0 hr1 hr2 hr3 hf0 hf1 hf2 hf3 HAT2 HFR2 HO2
  obtain ⟨hd0, hd1, hd2, hd3⟩ := hat
  obtain ⟨⟨hs0, hs1, hs2, hs3⟩, hg0, hg1, hg2, hg3⟩ := hfr
  have HSZ2 : Hid (W.heap.size + 1 < w3.heap.size) := Lib.hid (World.block_lt_of_cell? _ _ hs0)
  cases hs : sameB want c.vs with
  | true =>
    rw [hs] at HD
    go_wp2_with fail
    refine bodyPost_ret (ret4 rfl _ _ (W.heap.size + 1) _ _ _ _ _ HFR3.out.room rfl rfl) rfl ?_
    exact ⟨_, by rw [HD.out]; rfl, by rw [HDC.out (by rw [HD.out]; simp)]; exact cfg_none _, set4.ok HO3.out HG.out _ _ _ _⟩
  | false =>
    rw [hs] at HD
    have HDO2 := Lib.hid (HDO.out (by rw [HD.out]; rfl))
    clear hs HDC HDO
    have HCV : Hid (∀ w, Ok w3 w → Calls Try.prog 107 #[.slice A0 n0 c0] w fun e w' => (∃ A cc, e = .returned (.slice A n0 cc) ∧ OwnZ w' w3.heap.size (.slice A n0 cc) c.vs) ∧ Ok w w') := Lib.hid fun w hw => by
      have := copyInts_w _ c.vs w ((HO3.out.trans hw).ints H1.out) HL0.out
      unfold CopyP at this
      rw [HN0.out] at this
      exact this.mono fun _ _ ⟨A, cc, he, ho, hk⟩ => ⟨⟨A, cc, he, World.ownsRow.mono ho.1 hw.size⟩, hk⟩
    have HCW : Hid (∀ w, Ok w3 w → Calls Try.prog 107 #[.slice A4 n4 c4] w fun e w' => (∃ A cc, e = .returned (.slice A n4 cc) ∧ OwnZ w' w3.heap.size (.slice A n4 cc) want) ∧ Ok w w') := Lib.hid fun w hw => by
      have := copyInts_w _ want w ((HO3.out.trans hw).ints HW.out) HL4.out
      unfold CopyP at this
      rw [HN4.out] at this
      exact this.mono fun _ _ ⟨A, cc, he, ho, hk⟩ => ⟨⟨A, cc, he, World.ownsRow.mono ho.1 hw.size⟩, hk⟩
    have HCN : Hid (∀ w, Ok w3 w → Calls Try.prog 108 #[.slice A4 n4 c4, .slice A0 n0 c0] w fun e w' =>
        (∃ A cc, e = .returned (.slice A (newsL c.vs want).length cc) ∧ OwnZ w' w3.heap.size (.slice A (newsL c.vs want).length cc) (newsL c.vs want)) ∧ Ok w w') := Lib.hid fun w hw =>
      (less06_w _ _ want c.vs w ((HO3.out.trans hw).ints HW.out) ((HO3.out.trans hw).ints H1.out) HL4.out).mono fun _ _ ⟨⟨A, cc, he, ho⟩, hk⟩ => ⟨⟨A, cc, he, World.ownsRow.mono ho hw.size⟩, hk⟩
    have HLN : Hid ((newsL c.vs want).length ≤ 1000) := Lib.hid (Nat.le_trans (newsL_len _ _) HL4.out)
    generalize hM : (newsL c.vs want).length = M at *
    generalize newsL c.vs want = nl at *
    have HM := Lib.hid hM
    clear hM
    clear hs0 hs1 hs2 hs3 hg0 hg1 hg2 hg3 hd0 hd1 hd2 hd3 H1 HC HW hz0 hz4 hp3n hp3i he0 he3 he4
    go_wp2_with fail
    go_region_held3 (fun w' => w'.cell? ⟨W.heap.size, 0, none⟩ = some (.slice A0 n0 c0) ∧ w'.cell? ⟨W.heap.size, 1, none⟩ = some (.slice A1 n1 c1) ∧ w'.cell? ⟨W.heap.size, 2, none⟩ = some (.slice A2 n2 c2) ∧ w'.cell? ⟨W.heap.size, 3, none⟩ = some (.slice A3 n3 c3) ∧ OkS W w' ∧ w'.cell? ⟨W.heap.size + 1, 0, none⟩ = some (cellOf w' (W.heap.size + 1) 0) ∧ w'.cell? ⟨W.heap.size + 1, 1, none⟩ = some (cellOf w' (W.heap.size + 1) 1) ∧ w'.cell? ⟨W.heap.size + 1, 2, none⟩ = some (cellOf w' (W.heap.size + 1) 2) ∧ w'.cell? ⟨W.heap.size + 1, 3, none⟩ = some (cellOf w' (W.heap.size + 1) 3) ∧ w'.frozen? ⟨W.heap.size + 1, 0, none⟩ = false ∧ w'.frozen? ⟨W.heap.size + 1, 1, none⟩ = false ∧ w'.frozen? ⟨W.heap.size + 1, 2, none⟩ = false ∧ w'.frozen? ⟨W.heap.size + 1, 3, none⟩ = false)
      ((first
        | (refine T7 HO3.out HAT3.out HFR3.out ?_; (repeat (first | (with_reducible exact Ok.refl _) | (with_reducible refine Ok.drew ?_) | (with_reducible refine Ok.trans ?_ (by assumption)))); done)
        | (exact T7set HG.out (by assumption) _ _ _ _)))
      ((first
        | (go_at_call 107; (with_reducible refine (HCV.out _ ?_).mono ?_); (repeat (first | (with_reducible exact Ok.refl _) | (with_reducible refine Ok.drew ?_) | (with_reducible refine Ok.trans ?_ (by assumption)))); rintro e wc ⟨⟨A, cc, rfl, hown⟩, hbc⟩)
        | (go_at_call 107; (with_reducible refine (HCW.out _ ?_).mono ?_); (repeat (first | (with_reducible exact Ok.refl _) | (with_reducible refine Ok.drew ?_) | (with_reducible refine Ok.trans ?_ (by assumption)))); rintro e wc ⟨⟨A, cc, rfl, hown⟩, hbc⟩)
        | (go_at_call 108; (with_reducible refine (HCN.out _ ?_).mono ?_); (repeat (first | (with_reducible exact Ok.refl _) | (with_reducible refine Ok.drew ?_) | (with_reducible refine Ok.trans ?_ (by assumption)))); rintro e wc ⟨⟨A, cc, rfl, hown⟩, hbc⟩)))
    all_goals go_wp2_with fail
    all_goals refine bodyPost_ret (ret4 rfl _ _ (W.heap.size + 1) _ _ _ _ _ (Free.room (HFR3.out.ok ?_)) rfl rfl) rfl ?_
    all_goals (first | ((repeat (first | (with_reducible exact Ok.refl _) | (with_reducible refine Ok.drew ?_) | (with_reducible refine Ok.trans ?_ (by assumption)))); done) | skip)
    all_goals refine ⟨_, by rw [HD.out]; rfl, by rw [HDO2.out]; exact CfgIn.of (late (by assumption) (by (repeat (first | (with_reducible exact Ok.refl _) | (with_reducible refine Ok.drew ?_) | (with_reducible refine Ok.trans ?_ (by assumption))))) HSZ2.out HL0.out _ _ _ _) (InI.nil _) (late (by assumption) (by (repeat (first | (with_reducible exact Ok.refl _) | (with_reducible refine Ok.drew ?_) | (with_reducible refine Ok.trans ?_ (by assumption))))) HSZ2.out (by rw [HM.out]; exact HLN.out) _ _ _ _) (late (by assumption) (by (repeat (first | (with_reducible exact Ok.refl _) | (with_reducible refine Ok.drew ?_) | (with_reducible refine Ok.trans ?_ (by assumption))))) HSZ2.out HL4.out _ _ _ _), set4.ok (Ok.trans HO3.out ?_) HG.out _ _ _ _⟩
    all_goals (repeat (first | (with_reducible exact Ok.refl _) | (with_reducible refine Ok.drew ?_) | (with_reducible refine Ok.trans ?_ (by assumption))))

set_option maxRecDepth 100000 in
set_option maxHeartbeats 4000000 in
theorem next06_w (v : Value) (c : Cfg) (W : World) (h : CfgIn W v c) :
    Calls Try.prog 45 #[v] W (NextPost W (nextC c)) := by
  obtain ⟨A0, c0, A1, c1, A2, c2, A3, c3, rfl, h1, h2, h3, h4⟩ := h.forms
  have HC := Lib.hid h
  have H1 := Lib.hid h1
  have H4 := Lib.hid h4
  clear h h1 h2 h3 h4
  have HD : Hid (nextC c = if rightB c && !noB c.ws then (if noB c.os then some ⟨c.ws, c.vs, [], c.ws⟩ else some ⟨c.vs, [], [], []⟩) else none) := Lib.hid rfl
  have hz3 := noB_int c.ws _ rfl
  have hp1 := noB_nat c.os _ rfl
  have HR := Lib.hid (@right_rows c)
  have HAT0 := Lib.hid (N2.at W (.slice A0 c.vs.length c0) (.slice A1 c.os.length c1) (.slice A2 c.ls.length c2) (.slice A3 c.ws.length c3))
  have HFR0 := Lib.hid (N2.free W #[(.slice A0 c.vs.length c0), (.slice A1 c.os.length c1), (.slice A2 c.ls.length c2), (.slice A3 c.ws.length c3)])
  have HOK0 := Lib.hid (N2.ok W #[(.slice A0 c.vs.length c0), (.slice A1 c.os.length c1), (.slice A2 c.ls.length c2), (.slice A3 c.ws.length c3)])
  generalize hn0 : c.vs.length = n0 at *
  generalize hn1 : c.os.length = n1 at *
  generalize hn2 : c.ls.length = n2 at *
  generalize hn3 : c.ws.length = n3 at *
  have HN0 := Lib.hid hn0
  have HN3 := Lib.hid hn3
  clear hn0 hn1 hn2 hn3
  have HG : Hid (W.heap.size ≤ W.heap.size + 1) := Lib.hid (Nat.le_succ _)
  go_enter Try.func45, Try.ntmps45
  obtain ⟨hc0, hc1, hc2, hc3⟩ := HAT0.out
  go_wp2_with fail
  change Calls _ _ _ (N2 W #[.slice A0 n0 c0, .slice A1 n1 c1, .slice A2 n2 c2, .slice A3 n3 c3]) _
  clear hc0 hc1 hc2 hc3
  generalize hW1 : N2 W #[.slice A0 n0 c0, .slice A1 n1 c1, .slice A2 n2 c2, .slice A3 n3 c3] = W1 at *
  clear hW1
  refine (right06_w _ c _ (HOK0.out.cfg HC.out)).mono ?_
  rintro e w1 ⟨rfl, hok1⟩
  have HO1 : Hid (Ok W w1) := Lib.hid (HOK0.out.trans hok1)
  have hat := HAT0.out.ok hok1
  have HAT := Lib.hid hat
  obtain ⟨hc0, hc1, hc2, hc3⟩ := hat
  have hfr := HFR0.out.ok hok1
  have HFR := Lib.hid hfr
  obtain ⟨⟨hr0, hr1, hr2, hr3⟩, hf0, hf1, hf2, hf3⟩ := hfr
  clear hok1 HAT0 HFR0 HOK0
  have HSZ : Hid (W.heap.size + 1 < w1.heap.size) := Lib.hid (World.block_lt_of_cell? _ _ hr0)
  cases hr : rightB c with
  | false =>
    rw [hr] at HD
    go_wp2_with fail
    refine bodyPost_ret (ret4 rfl _ _ (W.heap.size + 1) _ _ _ _ _ HFR.out.room rfl rfl) rfl ?_
    rw [HD.out]
    exact ⟨_, rfl, cfg_none _, set4.ok HO1.out HG.out _ _ _ _⟩
  | true =>
  rw [hr] at HD
  have HL0 : Hid (c.vs.length ≤ 1000) := Lib.hid (Nat.le_trans (rowB_len _ (HR.out hr).1) (by decide))
  have HL3 : Hid (c.ws.length ≤ 1000) := Lib.hid (Nat.le_trans (rowB_len _ (HR.out hr).2.2.2) (by decide))
  clear hr HR
  cases hw : noB c.ws with
  | true =>
    rw [hw] at HD hz3
    go_wp2_with fail
    refine bodyPost_ret (ret4 rfl _ _ (W.heap.size + 1) _ _ _ _ _ HFR.out.room rfl rfl) rfl ?_
    rw [HD.out]
    exact ⟨_, rfl, cfg_none _, set4.ok HO1.out HG.out _ _ _ _⟩
  | false =>
  rw [hw] at HD hz3
  clear hw
  cases ho : noB c.os with
  | false =>
    rw [ho] at HD hp1
    have hp1n : decide (0 < n1) = true := hp1
    have hp1i : decide ((0 : Int) < (n1 : Int)) = true := (decide_eq_decide.2 (by omega)).trans hp1n
    clear hp1 ho
    go_wp2_with fail
    refine (copyInts_w _ c.vs _ (HO1.out.ints H1.out) HL0.out).mono ?_
    unfold CopyP
    rw [HN0.out]
    rintro e w3 ⟨A, cc, rfl, how, hok3⟩
    have HOW := Lib.hid how.1
    have HO3 : Hid (Ok W w3) := Lib.hid (HO1.out.trans hok3)
    have HFR3 := Lib.hid (HFR.out.ok hok3)
    clear how hok3 hr0 hr1 hr2 hr3 hf0 hf1 hf2 hf3 hc0 hc1 hc2 hc3
    obtain ⟨⟨hr0, hr1, hr2, hr3⟩, hf0, hf1, hf2, hf3⟩ := HFR3.out
    go_wp2_with fail
    refine bodyPost_ret (ret4 rfl _ _ (W.heap.size + 1) _ _ _ _ _ HFR3.out.room rfl rfl) rfl ?_
    rw [HD.out]
    exact ⟨_, rfl, CfgIn.of (late HOW.out (Ok.refl _) HSZ.out HL0.out _ _ _ _) (InI.nil _) (InI.nil _) (InI.nil _), set4.ok HO3.out HG.out _ _ _ _⟩
  | true =>
    rw [ho] at HD hp1
    have hp1n : decide (0 < n1) = false := hp1
    have hp1i : decide ((0 : Int) < (n1 : Int)) = false := (decide_eq_decide.2 (by omega)).trans hp1n
    clear hp1 ho
    have HCV : Hid (∀ w, Ok w1 w → Calls Try.prog 107 #[.slice A0 n0 c0] w fun e w' => (∃ A cc, e = .returned (.slice A n0 cc) ∧ OwnZ w' w1.heap.size (.slice A n0 cc) c.vs) ∧ Ok w w') := Lib.hid fun w hw => by
      have := copyInts_w _ c.vs w ((HO1.out.trans hw).ints H1.out) HL0.out
      unfold CopyP at this
      rw [HN0.out] at this
      exact this.mono fun _ _ ⟨A, cc, he, ho, hk⟩ => ⟨⟨A, cc, he, World.ownsRow.mono ho.1 hw.size⟩, hk⟩
    have HCW : Hid (∀ w, Ok w1 w → Calls Try.prog 107 #[.slice A3 n3 c3] w fun e w' => (∃ A cc, e = .returned (.slice A n3 cc) ∧ OwnZ w' w1.heap.size (.slice A n3 cc) c.ws) ∧ Ok w w') := Lib.hid fun w hw => by
      have := copyInts_w _ c.ws w ((HO1.out.trans hw).ints H4.out) HL3.out
      unfold CopyP at this
      rw [HN3.out] at this
      exact this.mono fun _ _ ⟨A, cc, he, ho, hk⟩ => ⟨⟨A, cc, he, World.ownsRow.mono ho.1 hw.size⟩, hk⟩
    clear hr0 hr1 hr2 hr3 hf0 hf1 hf2 hf3 H1 H4 HC
    go_wp2_with fail
    clear hc0 hc1 hc2 hc3 hz3 hp1n hp1i
    go_region_held3 (fun w' => w'.cell? ⟨W.heap.size, 0, none⟩ = some (.slice A0 n0 c0) ∧ w'.cell? ⟨W.heap.size, 1, none⟩ = some (.slice A1 n1 c1) ∧ w'.cell? ⟨W.heap.size, 2, none⟩ = some (.slice A2 n2 c2) ∧ w'.cell? ⟨W.heap.size, 3, none⟩ = some (.slice A3 n3 c3) ∧ OkS W w' ∧ w'.cell? ⟨W.heap.size + 1, 0, none⟩ = some (cellOf w' (W.heap.size + 1) 0) ∧ w'.cell? ⟨W.heap.size + 1, 1, none⟩ = some (cellOf w' (W.heap.size + 1) 1) ∧ w'.cell? ⟨W.heap.size + 1, 2, none⟩ = some (cellOf w' (W.heap.size + 1) 2) ∧ w'.cell? ⟨W.heap.size + 1, 3, none⟩ = some (cellOf w' (W.heap.size + 1) 3) ∧ w'.frozen? ⟨W.heap.size + 1, 0, none⟩ = false ∧ w'.frozen? ⟨W.heap.size + 1, 1, none⟩ = false ∧ w'.frozen? ⟨W.heap.size + 1, 2, none⟩ = false ∧ w'.frozen? ⟨W.heap.size + 1, 3, none⟩ = false)
      ((first
        | (refine T7 HO1.out HAT.out HFR.out ?_; (repeat (first | (with_reducible exact Ok.refl _) | (with_reducible refine Ok.drew ?_) | (with_reducible refine Ok.trans ?_ (by assumption)))); done)
        | (exact T7set HG.out (by assumption) _ _ _ _)))
      ((first
        | (go_at_call 107; (with_reducible refine (HCW.out _ ?_).mono ?_); (repeat (first | (with_reducible exact Ok.refl _) | (with_reducible refine Ok.drew ?_) | (with_reducible refine Ok.trans ?_ (by assumption)))); rintro e wc ⟨⟨A, cc, rfl, hown⟩, hbc⟩)
        | (go_at_call 107; (with_reducible refine (HCV.out _ ?_).mono ?_); (repeat (first | (with_reducible exact Ok.refl _) | (with_reducible refine Ok.drew ?_) | (with_reducible refine Ok.trans ?_ (by assumption)))); rintro e wc ⟨⟨A, cc, rfl, hown⟩, hbc⟩)))
    all_goals go_wp2_with fail
    all_goals refine bodyPost_ret (ret4 rfl _ _ (W.heap.size + 1) _ _ _ _ _ (Free.room (HFR.out.ok ?_)) rfl rfl) rfl ?_
    all_goals (first | (rw [HD.out]; refine ⟨_, rfl, CfgIn.of (late (by assumption) ?_ HSZ.out HL3.out _ _ _ _) (late (by assumption) ?_ HSZ.out HL0.out _ _ _ _) (InI.nil _) (late (by assumption) ?_ HSZ.out HL3.out _ _ _ _), set4.ok (Ok.trans HO1.out ?_) HG.out _ _ _ _⟩) | skip)
    all_goals (repeat (first | (with_reducible exact Ok.refl _) | (with_reducible refine Ok.drew ?_) | (with_reducible refine Ok.trans ?_ (by assumption))))
end Go.Proofs.Ytolfdncmlfnbdaa
