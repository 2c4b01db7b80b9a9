/- The document's answers on configurations: what is right, what agrees, who votes, who is there; the program's, too. -/
import Derived.Test.YtolfdncmlfnbdaaUc
namespace Go.Proofs.Ytolfdncmlfnbdaa
open Go.RowKit

theorem InI.len {w : World} {v : Value} {xs : List Int} (h : InI w v xs) : xs.length ≤ 17592186044416 := by
  obtain ⟨_, _, _, hm⟩ := h.form
  exact hm

set_option maxRecDepth 100000 in
set_option maxHeartbeats 8000000 in
theorem right06_w (v : Value) (c : Cfg) (W : World) (h : CfgIn W v c) :
    Calls Try.prog 48 #[v] W fun e w' => e = .returned (.bool (rightB c)) ∧ Ok W w' := by
  obtain ⟨A0, c0, A1, c1, A2, c2, A3, c3, rfl, h1, h2, h3, h4⟩ := h.forms
  have H1 := Lib.hid h1
  have H2 := Lib.hid h2
  have H3 := Lib.hid h3
  have H4 := Lib.hid h4
  have l1 := h2.len
  have l2 := h3.len
  have l3 := h4.len
  clear h h1 h2 h3 h4
  have HR4 := Lib.hid (right_rows4 c)
  have HRN := Lib.hid (right_none c)
  have HRS := Lib.hid (right_some c)
  have HRL : Hid (rowB c.ws = true → c.ws.length ≤ 1000) := Lib.hid (fun h => Nat.le_trans (rowB_len _ h) (by decide))
  have HAT0 := Lib.hid (At.new W (.slice A0 c.vs.length c0) (.slice A1 c.os.length c1) (.slice A2 c.ls.length c2) (.slice A3 c.ws.length c3) 71)
  have HOK0 : Hid (Ok W (W.alloc (.cells #[.slice A0 c.vs.length c0, .slice A1 c.os.length c1, .slice A2 c.ls.length c2, .slice A3 c.ws.length c3] 71))) := Lib.hid ((Ok.refl W).alloc _)
  have hz0 := noB_int c.vs _ rfl
  have hz2 := noB_int c.ls _ rfl
  have hz3 := noB_int c.ws _ rfl
  have hp1 := noB_nat c.os _ rfl
  have HSUM : Hid (∀ b : Bool, b = decide (c.os.length + c.ls.length + c.ws.length = 0) → b = (((c.os.length : Int) + (c.ls.length : Int) + (c.ws.length : Int)) == 0)) := Lib.hid fun b hb => by
    rw [hb]
    by_cases h : c.os.length + c.ls.length + c.ws.length = 0
    · rw [decide_eq_true h]; exact (beq_iff_eq.2 (by omega)).symm
    · rw [decide_eq_false h]; exact (beq_eq_false_iff_ne.2 (by omega)).symm
  generalize hn0 : c.vs.length = n0 at *
  generalize hn1 : c.os.length = n1 at *
  generalize hn2 : c.ls.length = n2 at *
  generalize hn3 : c.ws.length = n3 at *
  have HN0 := Lib.hid hn0
  have HN2 := Lib.hid hn2
  have HN3 := Lib.hid hn3
  clear hn0 hn1 hn2 hn3
  go_enter Try.func48, Try.ntmps48
  go_wp2_with fail
  generalize (W.alloc (.cells #[.slice A0 n0 c0, .slice A1 n1 c1, .slice A2 n2 c2, .slice A3 n3 c3] 71)) = W1 at *
  have hat := HAT0.out
  obtain ⟨hc0, hc1, hc2, hc3⟩ := hat
  refine (row06_w _ c.vs W1 (HOK0.out.ints H1.out)).mono ?_
  rintro e w1 ⟨rfl, hok⟩
  have HK1 : Hid (Ok W1 w1) := Lib.hid hok
  clear hok hc0 hc1 hc2 hc3
  obtain ⟨hc0, hc1, hc2, hc3⟩ := HAT0.out.ok HK1.out
  cases hv0 : rowB c.vs with
  | false =>
    have HE := Lib.hid (HR4.out (by rw [hv0]; rfl))
    go_wp2_with fail
    go_ret
    exact ⟨by rw [HE.out]; rfl, HOK0.out.trans HK1.out⟩
  | true =>
  have HV0 := Lib.hid hv0
  clear hv0
  go_wp2_with fail
  refine (row06_w _ c.os w1 ((HOK0.out.trans HK1.out).ints H2.out)).mono ?_
  rintro e w2 ⟨rfl, hok⟩
  have HK2 : Hid (Ok W1 w2) := Lib.hid (HK1.out.trans hok)
  clear hok hc0 hc1 hc2 hc3
  obtain ⟨hc0, hc1, hc2, hc3⟩ := HAT0.out.ok HK2.out
  cases hv1 : rowB c.os with
  | false =>
    have HE := Lib.hid (HR4.out (by rw [HV0.out, hv1]; rfl))
    go_wp2_with fail
    go_ret
    exact ⟨by rw [HE.out]; rfl, HOK0.out.trans HK2.out⟩
  | true =>
  have HV1 := Lib.hid hv1
  clear hv1
  go_wp2_with fail
  refine (row06_w _ c.ls w2 ((HOK0.out.trans HK2.out).ints H3.out)).mono ?_
  rintro e w3 ⟨rfl, hok⟩
  have HK3 : Hid (Ok W1 w3) := Lib.hid (HK2.out.trans hok)
  clear hok hc0 hc1 hc2 hc3
  obtain ⟨hc0, hc1, hc2, hc3⟩ := HAT0.out.ok HK3.out
  cases hv2 : rowB c.ls with
  | false =>
    have HE := Lib.hid (HR4.out (by rw [HV0.out, HV1.out, hv2]; rfl))
    go_wp2_with fail
    go_ret
    exact ⟨by rw [HE.out]; rfl, HOK0.out.trans HK3.out⟩
  | true =>
  have HV2 := Lib.hid hv2
  clear hv2
  go_wp2_with fail
  refine (row06_w _ c.ws w3 ((HOK0.out.trans HK3.out).ints H4.out)).mono ?_
  rintro e w4 ⟨rfl, hok⟩
  have HK4 : Hid (Ok W1 w4) := Lib.hid (HK3.out.trans hok)
  clear hok hc0 hc1 hc2 hc3
  obtain ⟨hc0, hc1, hc2, hc3⟩ := HAT0.out.ok HK4.out
  cases hv3 : rowB c.ws with
  | false =>
    have HE := Lib.hid (HR4.out (by rw [HV0.out, HV1.out, HV2.out, hv3]; rfl))
    go_wp2_with fail
    go_ret
    exact ⟨by rw [HE.out]; rfl, HOK0.out.trans HK4.out⟩
  | true =>
  have HV3 := Lib.hid hv3
  have HL3 := Lib.hid (HRL.out hv3)
  clear hv3 HRL HR4
  cases hnv : noB c.vs with
  | true =>
    rw [hnv] at hz0
    have HE := Lib.hid (HSUM.out _ (HRN.out HV0.out HV1.out HV2.out HV3.out hnv))
    go_wp2_with fail
    go_ret
    exact ⟨by rw [HE.out]; rfl, HOK0.out.trans HK4.out⟩
  | false =>
  rw [hnv] at hz0
  have HRS2 := Lib.hid (HRS.out HV0.out HV1.out HV2.out HV3.out hnv)
  clear hnv HRS HRN HSUM HV0 HV1 HV2 HV3
  go_wp2_with fail
  clear hc0 hc1 hc2 hc3
  go_loopw [3] (fun i wr => ∃ k : Nat, k ≤ n2 ∧ i = .int .i64 k ∧ Ok W1 wr ∧ anyB (c.ls.take k) c.vs = false) (fun i _ => n2 - (intOf i).toNat)
  case atStart => exact ⟨0, Nat.zero_le _, rfl, HK4.out, rfl⟩
  case round =>
    obtain ⟨k, hk, rfl, hok, hany⟩ := hrel
    have HO : Hid (Ok W1 wr) := Lib.hid hok
    have HANY := Lib.hid hany
    clear hok hany
    obtain ⟨hc0, hc1, hc2, hc3⟩ := HAT0.out.ok HO.out
    by_cases hlt : k < n2
    · obtain ⟨b, o, rfl, hc⟩ := (((HOK0.out.trans HO.out).ints H3.out).at rfl k hlt).2
      have HT := Lib.hid (anyB_take c.ls c.vs k (by rw [HN2.out]; exact hlt))
      have HM := Lib.hid (anyB_mem c.ls c.vs k (by rw [HN2.out]; exact hlt))
      generalize c.ls.getD k 0 = y at *
      have hi0 : (0 : Int) ≤ (k : Int) := Int.natCast_nonneg _
      have hi1 : (k : Int) < (n2 : Int) := by omega
      have HIN : Hid (∀ m, Calls Try.prog 112 #[.slice A0 n0 c0, .int .i64 y] (wr.drewN m) fun e w' => e = .returned (.bool (inB y c.vs)) ∧ ∃ k, w' = wr.drewN k) := Lib.hid fun m =>
        (in06_w _ y c.vs _ (((HOK0.out.trans HO.out).drewN' m).ints H1.out)).mono fun _ _ h => ⟨h.1, m, h.2.symm⟩
      cases hin : inB y c.vs with
      | true =>
        rw [hin] at HIN
        have HE : Hid (rightB c = false) := Lib.hid (by rw [HRS2.out, HM.out hin]; rfl)
        clear hin HM HT
        go_wp2_with fail
        go_quiet ((go_at_call 112; exact HIN.out _))
        go_wp2_with fail
        go_ret
        exact ⟨by rw [HE.out]; rfl, (HOK0.out.trans HO.out).drewN' _⟩
      | false =>
        rw [hin] at HIN
        have HT2 : Hid (anyB (c.ls.take (k + 1)) c.vs = false) := Lib.hid (by rw [HT.out, HANY.out, hin]; rfl)
        clear hin HM HT
        go_wp2_with fail
        go_quiet ((go_at_call 112; exact HIN.out _))
        go_wp2_with fail
        go_roundw
        case rel => exact ⟨k + 1, by omega, by go_num, HO.out.drewN' _, HT2.out⟩
        case measure => simp [intOf]; omega
    · have hke : k = n2 := by omega
      subst hke
      have HA : Hid (rightB c = if noB c.os then (if noB c.ws then noB c.ls else !sameB c.ws c.vs && sameB c.ls (newsL c.vs c.ws)) else sameB c.ws c.vs && noB c.ls) := Lib.hid (by
        have := HANY.out
        rw [List.take_of_length_le (by rw [HN2.out]; exact Nat.le_refl _)] at this
        rw [HRS2.out, this]; rfl)
      clear HRS2 HANY
      cases hno : noB c.os with
      | false =>
        rw [hno] at hp1 HA
        have hp1n : decide (0 < n1) = true := hp1
        have hp1i : decide ((0 : Int) < (n1 : Int)) = true := (decide_eq_decide.2 (by omega)).trans hp1n
        clear hp1 hno
        go_wp2_with fail
        refine (sameInts_q _ _ c.ws c.vs wr ((HOK0.out.trans HO.out).ints H4.out) ((HOK0.out.trans HO.out).ints H1.out)).mono ?_
        rintro e w5 ⟨rfl, hok⟩
        have HK5 : Hid (Ok W1 w5) := Lib.hid (HO.out.trans hok)
        clear hok hc0 hc1 hc2 hc3
        obtain ⟨hc0, hc1, hc2, hc3⟩ := HAT0.out.ok HK5.out
        cases hs : sameB c.ws c.vs with
        | false =>
          rw [hs] at HA
          go_wp2_with fail
          go_ret
          exact ⟨by rw [HA.out]; rfl, HOK0.out.trans HK5.out⟩
        | true =>
          rw [hs] at HA
          go_wp2_with fail
          go_ret
          exact ⟨by rw [HA.out]; rfl, HOK0.out.trans HK5.out⟩
      | true =>
        rw [hno] at hp1 HA
        have hp1n : decide (0 < n1) = false := hp1
        have hp1i : decide ((0 : Int) < (n1 : Int)) = false := (decide_eq_decide.2 (by omega)).trans hp1n
        clear hp1 hno
        cases hnw : noB c.ws with
        | true =>
          rw [hnw] at hz3 HA
          go_wp2_with fail
          go_ret
          exact ⟨by rw [HA.out]; rfl, HOK0.out.trans HO.out⟩
        | false =>
          rw [hnw] at hz3 HA
          clear hnw
          have HB : Hid (Ok W wr) := Lib.hid (HOK0.out.trans HO.out)
          have HAT := Lib.hid (HAT0.out.ok HO.out)
          cases hs : sameB c.ws c.vs with
          | true =>
            rw [hs] at HA
            have q1 : ∀ d os, Calls Try.prog 55 #[.slice A3 n3 c3, .slice A0 n0 c0] (Go.Sort.grow (redrawn wr d) os) fun e w'' => e = .returned (.bool true) ∧ ∃ p : Regrown, w'' = Go.Sort.grow (redrawn wr p.d) p.os := fun d os =>
              Calls.regrown_of ((sameInts_q _ _ c.ws c.vs _ ((Ok.call HB.out (below_regrown wr d os)).ints H4.out) ((Ok.call HB.out (below_regrown wr d os)).ints H1.out)).mono fun _ _ h => ⟨by rw [h.1, hs], h.2⟩)
            have Q1 := Lib.hid q1
            have k0 := cell_regrown hc0
            have k1 := cell_regrown hc1
            have k2 := cell_regrown hc2
            have k3 := cell_regrown hc3
            clear q1 hs
            go_wp2_with fail
            refine wp_region_quiet_below (by kernel_rfl) (by kernel_rfl) ?_
            refine HeldU.out ?_
            repeat (
              refine hqU_step (fun K hK => ?_)
              go_simp
              first
                | (refine hK _ ?_; clear hK K)
                | (apply Exists.intro
                   refine ⟨fun _ => ?_, hK _ ?_⟩
                   (with_reducible exact Q1.out _ _)
                   clear hK K))
            refine HeldU.mk (wpQuiet_nil ?_)
            intro _ hw'
            obtain ⟨⟨dq, osq⟩, hw''⟩ := hw'
            subst hw''
            go_wp2_with fail
            go_ret
            exact ⟨by rw [HA.out]; rfl, Ok.call HB.out (below_regrown wr dq osq)⟩
          | false =>
            rw [hs] at HA
            have HEQ : Hid (∀ w, Ok wr w → Calls Try.prog 55 #[.slice A3 n3 c3, .slice A0 n0 c0] w fun e w' => e = .returned (.bool false) ∧ Ok w w') := Lib.hid fun w hw =>
              (sameInts_q _ _ c.ws c.vs w ((HB.out.trans hw).ints H4.out) ((HB.out.trans hw).ints H1.out)).mono fun _ _ h => ⟨by rw [h.1, hs], h.2⟩
            have HNW : Hid (∀ w, Ok wr w → Calls Try.prog 108 #[.slice A3 n3 c3, .slice A0 n0 c0] w fun e w' =>
                (∃ A cc, e = .returned (.slice A (newsL c.vs c.ws).length cc) ∧ InI w' (.slice A (newsL c.vs c.ws).length cc) (newsL c.vs c.ws)) ∧ Ok w w') := Lib.hid fun w hw =>
              (less06_w _ _ c.ws c.vs w ((HB.out.trans hw).ints H4.out) ((HB.out.trans hw).ints H1.out) (by rw [HN3.out]; exact HL3.out)).mono fun _ _ ⟨⟨A, cc, he, ho⟩, hk⟩ => ⟨⟨A, cc, he, ho.ints (Nat.le_trans (newsL_len _ _) (by rw [HN3.out]; have := HL3.out; omega))⟩, hk⟩
            have HEN : Hid (∀ w A cc, Ok wr w → InI w (.slice A (newsL c.vs c.ws).length cc) (newsL c.vs c.ws) → Calls Try.prog 55 #[.slice A2 k c2, .slice A (newsL c.vs c.ws).length cc] w fun e w' =>
                e = .returned (.bool (sameB c.ls (newsL c.vs c.ws))) ∧ Ok w w') := Lib.hid fun w A cc hw hi =>
              sameInts_q _ _ c.ls _ w ((HB.out.trans hw).ints H3.out) hi
            clear hs H1 H2 H3 H4 HL3
            generalize (newsL c.vs c.ws).length = M at *
            generalize newsL c.vs c.ws = nl at *
            go_wp2_with fail
            go_region_held3 (fun w' => w'.cell? ⟨W.heap.size, 0, none⟩ = some (.slice A0 n0 c0) ∧ w'.cell? ⟨W.heap.size, 1, none⟩ = some (.slice A1 n1 c1) ∧ w'.cell? ⟨W.heap.size, 2, none⟩ = some (.slice A2 k c2) ∧ w'.cell? ⟨W.heap.size, 3, none⟩ = some (.slice A3 n3 c3) ∧ OkS wr w')
              (exact S5 HAT.out (by (repeat (first | (with_reducible exact Ok.refl _) | (with_reducible refine Ok.drew ?_) | (with_reducible refine Ok.trans ?_ (by assumption))))))
              ((first
                | (go_at_call 55; (with_reducible refine (HEQ.out _ ?_).mono ?_); (repeat (first | (with_reducible exact Ok.refl _) | (with_reducible refine Ok.drew ?_) | (with_reducible refine Ok.trans ?_ (by assumption)))); rintro e wc ⟨rfl, hbc⟩)
                | (go_at_call 108; (with_reducible refine (HNW.out _ ?_).mono ?_); (repeat (first | (with_reducible exact Ok.refl _) | (with_reducible refine Ok.drew ?_) | (with_reducible refine Ok.trans ?_ (by assumption)))); rintro e wc ⟨⟨A, cc, rfl, hni⟩, hbc⟩)
                | (go_at_call 55; (with_reducible refine (HEN.out _ _ _ ?_ (by assumption)).mono ?_); (repeat (first | (with_reducible exact Ok.refl _) | (with_reducible refine Ok.drew ?_) | (with_reducible refine Ok.trans ?_ (by assumption)))); rintro e wc ⟨rfl, hbc⟩)))
            all_goals go_wp2_with fail
            all_goals go_ret
            all_goals exact ⟨by rw [HA.out]; rfl, HB.out.trans (by (repeat (first | (with_reducible exact Ok.refl _) | (with_reducible refine Ok.drew ?_) | (with_reducible refine Ok.trans ?_ (by assumption)))))⟩

set_option maxRecDepth 100000 in
set_option maxHeartbeats 4000000 in
theorem agrees06_w (v vs : Value) (c : Cfg) (s : List Int) (W : World) (h : CfgIn W v c) (hs : InI W vs s) :
    Calls Try.prog 50 #[v, vs] W fun e w' => e = .returned (.bool (agreesB c s)) ∧ Ok W w' := by
  obtain ⟨A0, c0, A1, c1, A2, c2, A3, c3, rfl, h1, h2, h3, h4⟩ := h.forms
  obtain ⟨B, cb, rfl, _⟩ := hs.form
  have HC := Lib.hid h
  have H1 := Lib.hid h1
  have H2 := Lib.hid h2
  have HS := Lib.hid hs
  clear h h1 h2 h3 h4 hs
  have HD : Hid (agreesB c s = if rightB c && !noB c.vs then mostB c.vs s && (noB c.os || mostB c.os s) else false) := Lib.hid rfl
  have HAT0 := Lib.hid (At.new W (.slice A0 c.vs.length c0) (.slice A1 c.os.length c1) (.slice A2 c.ls.length c2) (.slice A3 c.ws.length c3) 71)
  have HOK0 : Hid (Ok W (W.alloc (.cells #[.slice A0 c.vs.length c0, .slice A1 c.os.length c1, .slice A2 c.ls.length c2, .slice A3 c.ws.length c3] 71))) := Lib.hid ((Ok.refl W).alloc _)
  have hp0 := noB_nat c.vs _ rfl
  have hz1 := noB_int c.os _ rfl
  generalize c.vs.length = n0 at *
  generalize c.os.length = n1 at *
  generalize c.ls.length = n2 at *
  generalize c.ws.length = n3 at *
  generalize s.length = n4 at *
  have hp0i : decide ((0 : Int) < (n0 : Int)) = !noB c.vs := (decide_eq_decide.2 (by omega)).trans hp0
  go_enter Try.func50, Try.ntmps50
  obtain ⟨hc0, hc1, hc2, hc3⟩ := HAT0.out
  go_wp2_with fail
  generalize (W.alloc (.cells #[.slice A0 n0 c0, .slice A1 n1 c1, .slice A2 n2 c2, .slice A3 n3 c3] 71)) = W1 at *
  refine (right06_w _ c W1 (HOK0.out.cfg HC.out)).mono ?_
  rintro e w1 ⟨rfl, hok1⟩
  clear hc0 hc1 hc2 hc3
  have HO1 : Hid (Ok W1 w1) := Lib.hid hok1
  obtain ⟨hc0, hc1, hc2, hc3⟩ := HAT0.out.ok HO1.out
  clear hok1
  cases hr : rightB c with
  | false =>
    rw [hr] at HD
    go_wp2_with fail
    go_ret
    exact ⟨by rw [HD.out]; rfl, HOK0.out.trans HO1.out⟩
  | true =>
  rw [hr] at HD
  clear hr
  cases he0 : noB c.vs with
  | true =>
    rw [he0] at HD hp0 hp0i
    have hp0' : decide (0 < n0) = false := hp0
    have hp0j : decide ((0 : Int) < (n0 : Int)) = false := hp0i
    clear hp0 hp0i
    go_wp2_with fail
    go_ret
    exact ⟨by rw [HD.out]; rfl, HOK0.out.trans HO1.out⟩
  | false =>
    rw [he0] at HD hp0 hp0i
    have hp0' : decide (0 < n0) = true := hp0
    have hp0j : decide ((0 : Int) < (n0 : Int)) = true := hp0i
    clear hp0 hp0i
    go_wp2_with fail
    refine (half06_w _ _ c.vs s w1 ((HOK0.out.trans HO1.out).ints H1.out) ((HOK0.out.trans HO1.out).ints HS.out)).mono ?_
    rintro e w2 ⟨rfl, rfl⟩
    cases hm : mostB c.vs s with
    | false =>
      rw [hm] at HD
      go_wp2_with fail
      go_ret
      exact ⟨by rw [HD.out]; rfl, HOK0.out.trans HO1.out⟩
    | true =>
      rw [hm] at HD
      cases he1 : noB c.os with
      | true =>
        rw [he1] at HD hz1
        go_wp2_with fail
        go_ret
        exact ⟨by rw [HD.out]; rfl, HOK0.out.trans HO1.out⟩
      | false =>
        rw [he1] at HD hz1
        go_wp2_with fail
        refine (half06_w _ _ c.os s w1 ((HOK0.out.trans HO1.out).ints H2.out) ((HOK0.out.trans HO1.out).ints HS.out)).mono ?_
        rintro e w3 ⟨rfl, rfl⟩
        go_wp2_with fail
        go_ret
        exact ⟨by rw [HD.out]; rfl, HOK0.out.trans HO1.out⟩

def votesB (c : Cfg) (x : Int) : Bool := inB x c.vs || inB x c.os
def hasB (c : Cfg) (x : Int) : Bool := votesB c x || inB x c.ls

set_option maxRecDepth 100000 in
set_option maxHeartbeats 4000000 in
theorem votes06_w (v : Value) (x : Int) (c : Cfg) (W : World) (h : CfgIn W v c) :
    Calls Try.prog 52 #[v, .int .i64 x] W fun e w' => e = .returned (.bool (votesB c x)) ∧ Ok W w' := by
  obtain ⟨A0, c0, A1, c1, A2, c2, A3, c3, rfl, h1, h2, h3, h4⟩ := h.forms
  have H1 := Lib.hid h1
  have H2 := Lib.hid h2
  clear h h1 h2 h3 h4
  have HD : Hid (votesB c x = (inB x c.vs || inB x c.os)) := Lib.hid rfl
  have HAT0 := Lib.hid (At.new W (.slice A0 c.vs.length c0) (.slice A1 c.os.length c1) (.slice A2 c.ls.length c2) (.slice A3 c.ws.length c3) 71)
  have HOK0 : Hid (Ok W (W.alloc (.cells #[.slice A0 c.vs.length c0, .slice A1 c.os.length c1, .slice A2 c.ls.length c2, .slice A3 c.ws.length c3] 71))) := Lib.hid ((Ok.refl W).alloc _)
  generalize c.vs.length = n0 at *
  generalize c.os.length = n1 at *
  generalize c.ls.length = n2 at *
  generalize c.ws.length = n3 at *
  go_enter Try.func52, Try.ntmps52
  obtain ⟨hc0, hc1, hc2, hc3⟩ := HAT0.out
  go_wp2_with fail
  generalize (W.alloc (.cells #[.slice A0 n0 c0, .slice A1 n1 c1, .slice A2 n2 c2, .slice A3 n3 c3] 71)) = W1 at *
  refine (in06_w _ x c.vs W1 (HOK0.out.ints H1.out)).mono ?_
  rintro e w1 ⟨rfl, rfl⟩
  cases hv : inB x c.vs with
  | true =>
    rw [hv] at HD
    go_wp2_with fail
    go_ret
    exact ⟨by rw [HD.out]; rfl, HOK0.out⟩
  | false =>
    rw [hv] at HD
    go_wp2_with fail
    refine (in06_w _ x c.os W1 (HOK0.out.ints H2.out)).mono ?_
    rintro e w1 ⟨rfl, rfl⟩
    go_wp2_with fail
    go_ret
    exact ⟨by rw [HD.out]; rfl, HOK0.out⟩

set_option maxRecDepth 100000 in
set_option maxHeartbeats 4000000 in
theorem has06_w (v : Value) (x : Int) (c : Cfg) (W : World) (h : CfgIn W v c) :
    Calls Try.prog 54 #[v, .int .i64 x] W fun e w' => e = .returned (.bool (hasB c x)) ∧ Ok W w' := by
  obtain ⟨A0, c0, A1, c1, A2, c2, A3, c3, rfl, h1, h2, h3, h4⟩ := h.forms
  have HC := Lib.hid h
  have H3 := Lib.hid h3
  clear h h1 h2 h3 h4
  have HD : Hid (hasB c x = (votesB c x || inB x c.ls)) := Lib.hid rfl
  have HAT0 := Lib.hid (At.new W (.slice A0 c.vs.length c0) (.slice A1 c.os.length c1) (.slice A2 c.ls.length c2) (.slice A3 c.ws.length c3) 71)
  have HOK0 : Hid (Ok W (W.alloc (.cells #[.slice A0 c.vs.length c0, .slice A1 c.os.length c1, .slice A2 c.ls.length c2, .slice A3 c.ws.length c3] 71))) := Lib.hid ((Ok.refl W).alloc _)
  generalize c.vs.length = n0 at *
  generalize c.os.length = n1 at *
  generalize c.ls.length = n2 at *
  generalize c.ws.length = n3 at *
  go_enter Try.func54, Try.ntmps54
  obtain ⟨hc0, hc1, hc2, hc3⟩ := HAT0.out
  go_wp2_with fail
  generalize (W.alloc (.cells #[.slice A0 n0 c0, .slice A1 n1 c1, .slice A2 n2 c2, .slice A3 n3 c3] 71)) = W1 at *
  refine (votes06_w _ x c W1 (HOK0.out.cfg HC.out)).mono ?_
  rintro e w1 ⟨rfl, hok⟩
  clear hc0 hc1 hc2 hc3
  have HK : Hid (Ok W1 w1) := Lib.hid hok
  clear hok
  obtain ⟨hc0, hc1, hc2, hc3⟩ := HAT0.out.ok HK.out
  cases hv : votesB c x with
  | true =>
    rw [hv] at HD
    go_wp2_with fail
    go_ret
    exact ⟨by rw [HD.out]; rfl, HOK0.out.trans HK.out⟩
  | false =>
    rw [hv] at HD
    go_wp2_with fail
    refine (in06_w _ x c.ls w1 ((HOK0.out.trans HK.out).ints H3.out)).mono ?_
    rintro e w2 ⟨rfl, rfl⟩
    go_wp2_with fail
    go_ret
    exact ⟨by rw [HD.out]; rfl, HOK0.out.trans HK.out⟩

set_option maxRecDepth 100000 in
set_option maxHeartbeats 4000000 in
theorem wvotes_w (v : Value) (x : Int) (c : Cfg) (W : World) (h : CfgIn W v c) :
    Calls Try.prog 115 #[v, .int .i64 x] W fun e w' => e = .returned (.bool (votesB c x)) ∧ Ok W w' := by
  obtain ⟨A0, c0, A1, c1, A2, c2, A3, c3, rfl, h1, h2, h3, h4⟩ := h.forms
  have H1 := Lib.hid h1
  have H2 := Lib.hid h2
  clear h h1 h2 h3 h4
  have HD : Hid (votesB c x = (inB x c.vs || inB x c.os)) := Lib.hid rfl
  have HAT0 := Lib.hid (At.new W (.slice A0 c.vs.length c0) (.slice A1 c.os.length c1) (.slice A2 c.ls.length c2) (.slice A3 c.ws.length c3) 157)
  have HOK0 : Hid (Ok W (W.alloc (.cells #[.slice A0 c.vs.length c0, .slice A1 c.os.length c1, .slice A2 c.ls.length c2, .slice A3 c.ws.length c3] 157))) := Lib.hid ((Ok.refl W).alloc _)
  generalize c.vs.length = n0 at *
  generalize c.os.length = n1 at *
  generalize c.ls.length = n2 at *
  generalize c.ws.length = n3 at *
  go_enter Try.func115, Try.ntmps115
  obtain ⟨hc0, hc1, hc2, hc3⟩ := HAT0.out
  go_wp2_with fail
  generalize (W.alloc (.cells #[.slice A0 n0 c0, .slice A1 n1 c1, .slice A2 n2 c2, .slice A3 n3 c3] 157)) = W1 at *
  refine (contains_q _ x c.vs W1 (HOK0.out.ints H1.out)).mono ?_
  rintro e w1 ⟨rfl, rfl⟩
  cases hv : inB x c.vs with
  | true =>
    rw [hv] at HD
    go_wp2_with fail
    go_ret
    exact ⟨by rw [HD.out]; rfl, HOK0.out⟩
  | false =>
    rw [hv] at HD
    go_wp2_with fail
    refine (contains_q _ x c.os W1 (HOK0.out.ints H2.out)).mono ?_
    rintro e w1 ⟨rfl, rfl⟩
    go_wp2_with fail
    go_ret
    exact ⟨by rw [HD.out]; rfl, HOK0.out⟩

set_option maxRecDepth 100000 in
set_option maxHeartbeats 4000000 in
theorem votes_w (v : Value) (x : Int) (c : Cfg) (W : World) (h : CfgIn W v c) :
    Calls Try.prog 51 #[v, .int .i64 x] W fun e w' => e = .returned (.bool (votesB c x)) ∧ Ok W w' := by
  obtain ⟨A0, c0, A1, c1, A2, c2, A3, c3, rfl, h1, h2, h3, h4⟩ := h.forms
  have HC := Lib.hid h
  clear h h1 h2 h3 h4
  have HAT0 := Lib.hid (At.new W (.slice A0 c.vs.length c0) (.slice A1 c.os.length c1) (.slice A2 c.ls.length c2) (.slice A3 c.ws.length c3) 71)
  have HOK0 : Hid (Ok W (W.alloc (.cells #[.slice A0 c.vs.length c0, .slice A1 c.os.length c1, .slice A2 c.ls.length c2, .slice A3 c.ws.length c3] 71))) := Lib.hid ((Ok.refl W).alloc _)
  generalize c.vs.length = n0 at *
  generalize c.os.length = n1 at *
  generalize c.ls.length = n2 at *
  generalize c.ws.length = n3 at *
  go_enter Try.func51, Try.ntmps51
  obtain ⟨hc0, hc1, hc2, hc3⟩ := HAT0.out
  go_wp2_with fail
  generalize (W.alloc (.cells #[.slice A0 n0 c0, .slice A1 n1 c1, .slice A2 n2 c2, .slice A3 n3 c3] 71)) = W1 at *
  refine (wvotes_w _ x c W1 (HOK0.out.cfg HC.out)).mono ?_
  rintro e w1 ⟨rfl, hok⟩
  clear hc0 hc1 hc2 hc3
  have HK : Hid (Ok W1 w1) := Lib.hid hok
  clear hok
  go_wp2_with fail
  go_ret
  exact ⟨rfl, HOK0.out.trans HK.out⟩

set_option maxRecDepth 100000 in
set_option maxHeartbeats 4000000 in
theorem has_w (v : Value) (x : Int) (c : Cfg) (W : World) (h : CfgIn W v c) :
    Calls Try.prog 53 #[v, .int .i64 x] W fun e w' => e = .returned (.bool (hasB c x)) ∧ Ok W w' := by
  obtain ⟨A0, c0, A1, c1, A2, c2, A3, c3, rfl, h1, h2, h3, h4⟩ := h.forms
  have HC := Lib.hid h
  have H3 := Lib.hid h3
  clear h h1 h2 h3 h4
  have HD : Hid (hasB c x = (votesB c x || inB x c.ls)) := Lib.hid rfl
  have HAT0 := Lib.hid (At.two W #[.slice A0 c.vs.length c0, .slice A1 c.os.length c1, .slice A2 c.ls.length c2, .slice A3 c.ws.length c3] (.slice A0 c.vs.length c0) (.slice A1 c.os.length c1) (.slice A2 c.ls.length c2) (.slice A3 c.ws.length c3) 157 71)
  have HOK0 : Hid (Ok W ((W.alloc (.cells #[.slice A0 c.vs.length c0, .slice A1 c.os.length c1, .slice A2 c.ls.length c2, .slice A3 c.ws.length c3] 71)).alloc (.cells #[.slice A0 c.vs.length c0, .slice A1 c.os.length c1, .slice A2 c.ls.length c2, .slice A3 c.ws.length c3] 157))) := Lib.hid (((Ok.refl W).alloc _).alloc _)
  generalize c.vs.length = n0 at *
  generalize c.os.length = n1 at *
  generalize c.ls.length = n2 at *
  generalize c.ws.length = n3 at *
  go_enter Try.func53, Try.ntmps53
  obtain ⟨hc0, hc1, hc2, hc3⟩ := HAT0.out
  go_wp2_with fail
  generalize ((W.alloc (.cells #[.slice A0 n0 c0, .slice A1 n1 c1, .slice A2 n2 c2, .slice A3 n3 c3] 71)).alloc (.cells #[.slice A0 n0 c0, .slice A1 n1 c1, .slice A2 n2 c2, .slice A3 n3 c3] 157)) = W1 at *
  refine (wvotes_w _ x c W1 (HOK0.out.cfg HC.out)).mono ?_
  rintro e w1 ⟨rfl, hok⟩
  clear hc0 hc1 hc2 hc3
  have HK : Hid (Ok W1 w1) := Lib.hid hok
  clear hok
  obtain ⟨hc0, hc1, hc2, hc3⟩ := HAT0.out.ok HK.out
  cases hv : votesB c x with
  | true =>
    rw [hv] at HD
    go_wp2_with fail
    go_ret
    exact ⟨by rw [HD.out]; rfl, HOK0.out.trans HK.out⟩
  | false =>
    rw [hv] at HD
    go_wp2_with fail
    refine (contains_q _ x c.ls w1 ((HOK0.out.trans HK.out).ints H3.out)).mono ?_
    rintro e w2 ⟨rfl, rfl⟩
    go_wp2_with fail
    go_ret
    exact ⟨by rw [HD.out]; rfl, HOK0.out.trans HK.out⟩
end Go.Proofs.Ytolfdncmlfnbdaa
