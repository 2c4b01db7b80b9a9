/- The law QuorumMeet, walked: for any configuration and any two sets it returns true, and turns nothing that was there. -/
import Derived.Test.YtmbnknbbfipciaaQj
namespace Go.Proofs.Ytmbnknbbfipciaa
open Go.RowKit

theorem noB_of (c : Cfg) (h : noB c.os = true) : decide (0 < c.os.length) = false := by rw [noB_nat c.os _ rfl, h]; rfl

set_option maxRecDepth 100000 in
set_option maxHeartbeats 8000000 in
theorem quorumMeet_v (W : World) (v va vb : Value) (c : Cfg) (a b : List Int) (h : CfgIn W v c) (ha : InI W va a) (hb : InI W vb b) :
    Calls Try.prog 5 #[v, va, vb] W fun e w' => e = .returned (.bool true) ∧ Ok W w' := by
  obtain ⟨A0, c0, A1, c1, A2, c2, A3, c3, rfl, h1, h2, _, _⟩ := h.forms
  obtain ⟨A4, c4, rfl, _⟩ := ha.form
  obtain ⟨A5, c5, rfl, _⟩ := hb.form
  have HC := Lib.hid h
  have H1 := Lib.hid h1
  have H2 := Lib.hid h2
  have HA := Lib.hid ha
  have HB := Lib.hid hb
  clear h h1 h2 ha hb
  have hp1 := noB_nat c.os _ rfl
  have HAT0 : Hid (At (W.alloc (.cells #[.slice A0 c.vs.length c0, .slice A1 c.os.length c1, .slice A2 c.ls.length c2, .slice A3 c.ws.length c3] 48)) W.heap.size (.slice A0 c.vs.length c0) (.slice A1 c.os.length c1) (.slice A2 c.ls.length c2) (.slice A3 c.ws.length c3)) := Lib.hid (At.new _ _ _ _ _ _)
  have HOK0 : Hid (Ok W (W.alloc (.cells #[.slice A0 c.vs.length c0, .slice A1 c.os.length c1, .slice A2 c.ls.length c2, .slice A3 c.ws.length c3] 48))) := Lib.hid (ok1 _ _)
  generalize c.vs.length = n0 at *
  generalize c.os.length = n1 at *
  generalize c.ls.length = n2 at *
  generalize c.ws.length = n3 at *
  generalize a.length = n4 at *
  generalize b.length = n5 at *
  go_enter Try.func5, Try.ntmps5
  go_wp2_with fail
  generalize (W.alloc (.cells #[.slice A0 n0 c0, .slice A1 n1 c1, .slice A2 n2 c2, .slice A3 n3 c3] 48)) = W1 at *
  refine (awake_q W1).mono ?_
  rintro e w1 ⟨rfl, hok⟩
  have HK1 : Hid (Ok W1 w1) := Lib.hid hok
  obtain ⟨hc0, hc1, hc2, hc3⟩ := HAT0.out.ok HK1.out
  clear hok
  go_wp2_with fail
  refine (great_q _ _ c a w1 ((HOK0.out.trans HK1.out).cfg HC.out) ((HOK0.out.trans HK1.out).ints HA.out)).mono ?_
  rintro e w2 ⟨rfl, hok⟩
  have HK2 : Hid (Ok W1 w2) := Lib.hid (HK1.out.trans hok)
  clear hok hc0 hc1 hc2 hc3
  obtain ⟨hc0, hc1, hc2, hc3⟩ := HAT0.out.ok HK2.out
  cases greatB c a with
  | true =>
    go_wp2_with fail
    go_ret
    exact ⟨rfl, HOK0.out.trans HK2.out⟩
  | false =>
  go_wp2_with fail
  refine (great_q _ _ c b w2 ((HOK0.out.trans HK2.out).cfg HC.out) ((HOK0.out.trans HK2.out).ints HB.out)).mono ?_
  rintro e w3 ⟨rfl, hok⟩
  have HK3 : Hid (Ok W1 w3) := Lib.hid (HK2.out.trans hok)
  clear hok hc0 hc1 hc2 hc3
  obtain ⟨hc0, hc1, hc2, hc3⟩ := HAT0.out.ok HK3.out
  cases greatB c b with
  | true =>
    go_wp2_with fail
    go_ret
    exact ⟨rfl, HOK0.out.trans HK3.out⟩
  | false =>
  go_wp2_with fail
  refine (agrees_q _ _ c a w3 ((HOK0.out.trans HK3.out).cfg HC.out) ((HOK0.out.trans HK3.out).ints HA.out)).mono ?_
  rintro e w4 ⟨rfl, hok⟩
  have HK4 : Hid (Ok W1 w4) := Lib.hid (HK3.out.trans hok)
  clear hok hc0 hc1 hc2 hc3
  obtain ⟨hc0, hc1, hc2, hc3⟩ := HAT0.out.ok HK4.out
  cases hga : agreesB c a with
  | false =>
    go_wp2_with fail
    go_ret
    exact ⟨rfl, HOK0.out.trans HK4.out⟩
  | true =>
  have HGA := Lib.hid hga
  clear hga
  go_wp2_with fail
  refine (agrees_q _ _ c b w4 ((HOK0.out.trans HK4.out).cfg HC.out) ((HOK0.out.trans HK4.out).ints HB.out)).mono ?_
  rintro e w5 ⟨rfl, hok⟩
  have HK5 : Hid (Ok W1 w5) := Lib.hid (HK4.out.trans hok)
  clear hok hc0 hc1 hc2 hc3
  obtain ⟨hc0, hc1, hc2, hc3⟩ := HAT0.out.ok HK5.out
  have HREST : Hid (∀ d, nextC c = some d → agreesB d b = true → bothB c.vs a b = true) := Lib.hid (fun d hd hb => agrees_next HGA.out hd hb)
  cases hgb : agreesB c b with
  | false =>
    clear hgb hp1
    go_wp2_with fail
    refine (next_q _ c w5 ((HOK0.out.trans HK5.out).cfg HC.out)).mono ?_
    rintro e wn ⟨vn, rfl, hcd, hok⟩
    obtain ⟨B0, p0, d0, B1, p1, d1, B2, p2, d2, B3, p3, d3, rfl⟩ := hcd.form
    have HKN : Hid (Ok W1 wn) := Lib.hid (HK5.out.trans hok)
    clear hok hc0 hc1 hc2 hc3
    obtain ⟨hc0, hc1, hc2, hc3⟩ := HAT0.out.ok (HKN.out.trans (ok1 wn (.cells #[.slice B0 p0 d0, .slice B1 p1 d1, .slice B2 p2 d2, .slice B3 p3 d3] 48)))
    cases hnx : nextC c with
    | none =>
      rw [hnx] at hcd
      simp only [Option.isSome_none]
      clear hcd
      go_wp2_with fail
      go_ret
      exact ⟨rfl, HOK0.out.trans (HKN.out.trans (ok1 _ _))⟩
    | some d =>
      rw [hnx] at hcd
      simp only [Option.isSome_some, Option.getD_some] at hcd ⊢
      have HCD := Lib.hid ((ok1 wn (.cells #[.slice B0 p0 d0, .slice B1 p1 d1, .slice B2 p2 d2, .slice B3 p3 d3] 48)).cfg hcd)
      have HKM := Lib.hid (HKN.out.trans (ok1 wn (.cells #[.slice B0 p0 d0, .slice B1 p1 d1, .slice B2 p2 d2, .slice B3 p3 d3] 48)))
      have HR2 := Lib.hid (HREST.out d hnx)
      obtain ⟨he0, he1, he2, he3⟩ := At.new wn (.slice B0 p0 d0) (.slice B1 p1 d1) (.slice B2 p2 d2) (.slice B3 p3 d3) 48
      clear hcd hnx
      go_wp2_with fail
      clear he0 he1 he2 he3
      refine (agrees_q _ _ d b _ HCD.out ((HOK0.out.trans HKM.out).ints HB.out)).mono ?_
      rintro e wm ⟨rfl, hok⟩
      have HKL : Hid (Ok W1 wm) := Lib.hid (HKM.out.trans hok)
      clear hok hc0 hc1 hc2 hc3
      obtain ⟨hc0, hc1, hc2, hc3⟩ := HAT0.out.ok HKL.out
      cases hgd : agreesB d b with
      | false =>
        go_wp2_with fail
        go_ret
        exact ⟨rfl, HOK0.out.trans HKL.out⟩
      | true =>
        have HBT := Lib.hid (HR2.out hgd)
        clear hgd
        go_wp2_with fail
        refine (both_q _ _ _ c.vs a b wm ((HOK0.out.trans HKL.out).ints H1.out) ((HOK0.out.trans HKL.out).ints HA.out) ((HOK0.out.trans HKL.out).ints HB.out)).mono ?_
        rintro e wl ⟨rfl, hok⟩
        rw [HBT.out]
        go_wp2_with fail
        go_ret
        exact ⟨rfl, HOK0.out.trans (HKL.out.trans hok)⟩
  | true =>
    have HBB := Lib.hid (agrees_both HGA.out hgb)
    clear hgb
    go_wp2_with fail
    refine (both_q _ _ _ c.vs a b w5 ((HOK0.out.trans HK5.out).ints H1.out) ((HOK0.out.trans HK5.out).ints HA.out) ((HOK0.out.trans HK5.out).ints HB.out)).mono ?_
    rintro e w6 ⟨rfl, hok⟩
    rw [HBB.out.1]
    have HK6 : Hid (Ok W1 w6) := Lib.hid (HK5.out.trans hok)
    clear hok hc0 hc1 hc2 hc3
    obtain ⟨hc0, hc1, hc2, hc3⟩ := HAT0.out.ok HK6.out
    cases ho : noB c.os with
    | true =>
      rw [ho] at hp1
      have hp1n : decide (0 < n1) = false := hp1
      have hp1i : decide ((0 : Int) < (n1 : Int)) = false := (decide_eq_decide.2 (by omega)).trans hp1n
      clear hp1
      go_wp2_with fail
      clear hp1n hp1i
      refine (next_q _ c w6 ((HOK0.out.trans HK6.out).cfg HC.out)).mono ?_
      rintro e wn ⟨vn, rfl, hcd, hok⟩
      obtain ⟨B0, p0, d0, B1, p1, d1, B2, p2, d2, B3, p3, d3, rfl⟩ := hcd.form
      have HKN : Hid (Ok W1 wn) := Lib.hid (HK6.out.trans hok)
      clear hok hc0 hc1 hc2 hc3
      obtain ⟨hc0, hc1, hc2, hc3⟩ := HAT0.out.ok (HKN.out.trans (ok1 wn (.cells #[.slice B0 p0 d0, .slice B1 p1 d1, .slice B2 p2 d2, .slice B3 p3 d3] 48)))
      cases hnx : nextC c with
      | none =>
        rw [hnx] at hcd
        simp only [Option.isSome_none]
        clear hcd
        go_wp2_with fail
        go_ret
        exact ⟨rfl, HOK0.out.trans (HKN.out.trans (ok1 _ _))⟩
      | some d =>
        rw [hnx] at hcd
        simp only [Option.isSome_some, Option.getD_some] at hcd ⊢
        have HCD := Lib.hid ((ok1 wn (.cells #[.slice B0 p0 d0, .slice B1 p1 d1, .slice B2 p2 d2, .slice B3 p3 d3] 48)).cfg hcd)
        have HKM := Lib.hid (HKN.out.trans (ok1 wn (.cells #[.slice B0 p0 d0, .slice B1 p1 d1, .slice B2 p2 d2, .slice B3 p3 d3] 48)))
        have HR2 := Lib.hid (HREST.out d hnx)
        obtain ⟨he0, he1, he2, he3⟩ := At.new wn (.slice B0 p0 d0) (.slice B1 p1 d1) (.slice B2 p2 d2) (.slice B3 p3 d3) 48
        clear hcd hnx
        go_wp2_with fail
        clear he0 he1 he2 he3
        refine (agrees_q _ _ d b _ HCD.out ((HOK0.out.trans HKM.out).ints HB.out)).mono ?_
        rintro e wm ⟨rfl, hok⟩
        have HKL : Hid (Ok W1 wm) := Lib.hid (HKM.out.trans hok)
        clear hok hc0 hc1 hc2 hc3
        obtain ⟨hc0, hc1, hc2, hc3⟩ := HAT0.out.ok HKL.out
        cases hgd : agreesB d b with
        | false =>
          go_wp2_with fail
          go_ret
          exact ⟨rfl, HOK0.out.trans HKL.out⟩
        | true =>
          have HBT := Lib.hid (HR2.out hgd)
          clear hgd
          go_wp2_with fail
          refine (both_q _ _ _ c.vs a b wm ((HOK0.out.trans HKL.out).ints H1.out) ((HOK0.out.trans HKL.out).ints HA.out) ((HOK0.out.trans HKL.out).ints HB.out)).mono ?_
          rintro e wl ⟨rfl, hok⟩
          rw [HBT.out]
          go_wp2_with fail
          go_ret
          exact ⟨rfl, HOK0.out.trans (HKL.out.trans hok)⟩
    | false =>
      rw [ho] at hp1
      have hp1n : decide (0 < n1) = true := hp1
      have hp1i : decide ((0 : Int) < (n1 : Int)) = true := (decide_eq_decide.2 (by omega)).trans hp1n
      clear hp1
      go_wp2_with fail
      refine (both_q _ _ _ c.os a b w6 ((HOK0.out.trans HK6.out).ints H2.out) ((HOK0.out.trans HK6.out).ints HA.out) ((HOK0.out.trans HK6.out).ints HB.out)).mono ?_
      rintro e w7 ⟨rfl, hok⟩
      rw [HBB.out.2 ho]
      have HK7 : Hid (Ok W1 w7) := Lib.hid (HK6.out.trans hok)
      clear hok hc0 hc1 hc2 hc3
      obtain ⟨hc0, hc1, hc2, hc3⟩ := HAT0.out.ok HK7.out
      go_wp2_with fail
      clear hp1n hp1i
      refine (next_q _ c w7 ((HOK0.out.trans HK7.out).cfg HC.out)).mono ?_
      rintro e wn ⟨vn, rfl, hcd, hok⟩
      obtain ⟨B0, p0, d0, B1, p1, d1, B2, p2, d2, B3, p3, d3, rfl⟩ := hcd.form
      have HKN : Hid (Ok W1 wn) := Lib.hid (HK7.out.trans hok)
      clear hok hc0 hc1 hc2 hc3
      obtain ⟨hc0, hc1, hc2, hc3⟩ := HAT0.out.ok (HKN.out.trans (ok1 wn (.cells #[.slice B0 p0 d0, .slice B1 p1 d1, .slice B2 p2 d2, .slice B3 p3 d3] 48)))
      cases hnx : nextC c with
      | none =>
        rw [hnx] at hcd
        simp only [Option.isSome_none]
        clear hcd
        go_wp2_with fail
        go_ret
        exact ⟨rfl, HOK0.out.trans (HKN.out.trans (ok1 _ _))⟩
      | some d =>
        rw [hnx] at hcd
        simp only [Option.isSome_some, Option.getD_some] at hcd ⊢
        have HCD := Lib.hid ((ok1 wn (.cells #[.slice B0 p0 d0, .slice B1 p1 d1, .slice B2 p2 d2, .slice B3 p3 d3] 48)).cfg hcd)
        have HKM := Lib.hid (HKN.out.trans (ok1 wn (.cells #[.slice B0 p0 d0, .slice B1 p1 d1, .slice B2 p2 d2, .slice B3 p3 d3] 48)))
        have HR2 := Lib.hid (HREST.out d hnx)
        obtain ⟨he0, he1, he2, he3⟩ := At.new wn (.slice B0 p0 d0) (.slice B1 p1 d1) (.slice B2 p2 d2) (.slice B3 p3 d3) 48
        clear hcd hnx
        go_wp2_with fail
        clear he0 he1 he2 he3
        refine (agrees_q _ _ d b _ HCD.out ((HOK0.out.trans HKM.out).ints HB.out)).mono ?_
        rintro e wm ⟨rfl, hok⟩
        have HKL : Hid (Ok W1 wm) := Lib.hid (HKM.out.trans hok)
        clear hok hc0 hc1 hc2 hc3
        obtain ⟨hc0, hc1, hc2, hc3⟩ := HAT0.out.ok HKL.out
        cases hgd : agreesB d b with
        | false =>
          go_wp2_with fail
          go_ret
          exact ⟨rfl, HOK0.out.trans HKL.out⟩
        | true =>
          have HBT := Lib.hid (HR2.out hgd)
          clear hgd
          go_wp2_with fail
          refine (both_q _ _ _ c.vs a b wm ((HOK0.out.trans HKL.out).ints H1.out) ((HOK0.out.trans HKL.out).ints HA.out) ((HOK0.out.trans HKL.out).ints HB.out)).mono ?_
          rintro e wl ⟨rfl, hok⟩
          rw [HBT.out]
          go_wp2_with fail
          go_ret
          exact ⟨rfl, HOK0.out.trans (HKL.out.trans hok)⟩
end Go.Proofs.Ytmbnknbbfipciaa
