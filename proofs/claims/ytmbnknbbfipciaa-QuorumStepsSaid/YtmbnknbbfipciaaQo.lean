/- The law QuorumSteps, walked: for any configuration and any row it returns true, and turns nothing that was there. -/
import Derived.Test.YtmbnknbbfipciaaQn
namespace Go.Proofs.Ytmbnknbbfipciaa
open Go.RowKit

theorem S9 {w1 w' : World} {g h : Nat} {v0 v1 v2 v3 u0 u1 u2 u3 x : Value} {a : Addr} (hg : At w1 g v0 v1 v2 v3) (hh : At w1 h u0 u1 u2 u3) (hx : w1.cell? a = some x) (k : Ok w1 w') :
    w'.cell? ⟨g, 0, none⟩ = some v0 ∧ w'.cell? ⟨g, 1, none⟩ = some v1 ∧ w'.cell? ⟨g, 2, none⟩ = some v2 ∧ w'.cell? ⟨g, 3, none⟩ = some v3 ∧
    w'.cell? ⟨h, 0, none⟩ = some u0 ∧ w'.cell? ⟨h, 1, none⟩ = some u1 ∧ w'.cell? ⟨h, 2, none⟩ = some u2 ∧ w'.cell? ⟨h, 3, none⟩ = some u3 ∧ w'.cell? a = some x ∧ OkS w1 w' :=
  ⟨k.cell hg.1, k.cell hg.2.1, k.cell hg.2.2.1, k.cell hg.2.2.2, k.cell hh.1, k.cell hh.2.1, k.cell hh.2.2.1, k.cell hh.2.2.2, k.cell hx, ⟨k⟩⟩

set_option maxRecDepth 100000 in
set_option maxHeartbeats 16000000 in
theorem quorumSteps_v (W : World) (v vw : Value) (c : Cfg) (want : List Int) (h : CfgIn W v c) (hw : InI W vw want) :
    Calls Try.prog 6 #[v, vw] W fun e w' => e = .returned (.bool true) ∧ Ok W w' := by
  obtain ⟨A0, n0, c0, A1, n1, c1, A2, n2, c2, A3, n3, c3, rfl⟩ := h.form
  obtain ⟨A4, c4, rfl, _⟩ := hw.form
  have HC0 := Lib.hid h
  have HW0 := Lib.hid hw
  clear h hw
  have HT0 : Hid (At (W.alloc (.cells #[.slice A0 n0 c0, .slice A1 n1 c1, .slice A2 n2 c2, .slice A3 n3 c3] 48)) W.heap.size (.slice A0 n0 c0) (.slice A1 n1 c1) (.slice A2 n2 c2) (.slice A3 n3 c3)) := Lib.hid (At.new _ _ _ _ _ _)
  have HOK0 : Hid (Ok W (W.alloc (.cells #[.slice A0 n0 c0, .slice A1 n1 c1, .slice A2 n2 c2, .slice A3 n3 c3] 48))) := Lib.hid (ok1 _ _)
  generalize hn4 : want.length = n4 at *
  have HN4 := Lib.hid hn4
  clear hn4
  go_enter Try.func6, Try.ntmps6
  go_wp2_with fail
  generalize (W.alloc (.cells #[.slice A0 n0 c0, .slice A1 n1 c1, .slice A2 n2 c2, .slice A3 n3 c3] 48)) = W1 at *
  refine (awake_q W1).mono ?_
  rintro e w1 ⟨rfl, hok⟩
  have HK1 : Hid (Ok W1 w1) := Lib.hid hok
  obtain ⟨hc0, hc1, hc2, hc3⟩ := HT0.out.ok HK1.out
  clear hok
  go_wp2_with fail
  refine (great_q _ _ c want w1 ((HOK0.out.trans HK1.out).cfg HC0.out) ((HOK0.out.trans HK1.out).ints HW0.out)).mono ?_
  rintro e w2 ⟨rfl, hok⟩
  have HK2 : Hid (Ok W1 w2) := Lib.hid (HK1.out.trans hok)
  clear hok hc0 hc1 hc2 hc3
  obtain ⟨hc0, hc1, hc2, hc3⟩ := HT0.out.ok HK2.out
  cases greatB c want with
  | true =>
    go_wp2_with fail
    go_ret
    exact ⟨rfl, HOK0.out.trans HK2.out⟩
  | false =>
  go_wp2_with fail
  refine (begin_q _ _ c want w2 ((HOK0.out.trans HK2.out).cfg HC0.out) ((HOK0.out.trans HK2.out).ints HW0.out)).mono ?_
  rintro e w3 ⟨vd, rfl, hcd, hok⟩
  obtain ⟨D0, p0, d0, D1, p1, d1, D2, p2, d2, D3, p3, d3, rfl⟩ := hcd.form
  have HK3 : Hid (Ok W1 w3) := Lib.hid (HK2.out.trans hok)
  clear hok hc0 hc1 hc2 hc3
  by_cases hE : beginE c want = 0
  case neg =>
    have HE : Hid (beginC c want = ⟨[], [], [], []⟩) := Lib.hid (if_neg hE)
    have hne : (beginE c want != 0) = true := by simp [hE]
    have HCD := Lib.hid ((ok1 w3 (.cells #[.slice D0 p0 d0, .slice D1 p1 d1, .slice D2 p2 d2, .slice D3 p3 d3] 48)).cfg hcd)
    obtain ⟨k0, k1, k2, k3⟩ := At.new w3 (.slice D0 p0 d0) (.slice D1 p1 d1) (.slice D2 p2 d2) (.slice D3 p3 d3) 48
    clear hcd
    generalize beginE c want = E at *
    go_wp2_with fail
    refine (sameConfig_q _ _ (beginC c want) ⟨[], [], [], []⟩ _ HCD.out (cfg_none _)).mono ?_
    rintro e w4 ⟨rfl, hok⟩
    rw [HE.out, show sameC ⟨[], [], [], []⟩ ⟨[], [], [], []⟩ = true from rfl]
    clear k0 k1 k2 k3
    go_wp2_with fail
    go_ret
    exact ⟨rfl, HOK0.out.trans (HK3.out.trans ((ok1 _ _).trans hok))⟩
  case pos =>
  have HS := Lib.hid (steps hE)
  rw [hE]
  rw [HS.out.1] at hcd
  have hne : ((0 : Int) != 0) = false := rfl
  have HCD := Lib.hid ((ok1 w3 (.cells #[.slice D0 p0 d0, .slice D1 p1 d1, .slice D2 p2 d2, .slice D3 p3 d3] 48)).cfg hcd)
  have HTD : Hid (At (w3.alloc (.cells #[.slice D0 p0 d0, .slice D1 p1 d1, .slice D2 p2 d2, .slice D3 p3 d3] 48)) w3.heap.size (.slice D0 p0 d0) (.slice D1 p1 d1) (.slice D2 p2 d2) (.slice D3 p3 d3)) := Lib.hid (At.new _ _ _ _ _ _)
  have HX3 := Lib.hid (HK3.out.trans (ok1 w3 (.cells #[.slice D0 p0 d0, .slice D1 p1 d1, .slice D2 p2 d2, .slice D3 p3 d3] 48)))
  obtain ⟨k0, k1, k2, k3⟩ := HTD.out
  clear hcd hE
  go_wp2_with fail
  clear k0 k1 k2 k3 hne
  generalize (w3.alloc (.cells #[.slice D0 p0 d0, .slice D1 p1 d1, .slice D2 p2 d2, .slice D3 p3 d3] 48)) = x3 at *
  refine (next_q _ ⟨c.vs, [], newsL c.vs want, want⟩ x3 HCD.out).mono ?_
  rintro e w4 ⟨vj, rfl, hcj, hok⟩
  rw [HS.out.2.2.1] at hcj ⊢
  simp only [Option.isSome_some, Option.getD_some] at hcj ⊢
  obtain ⟨J0, q0, e0, J1, q1, e1, J2, q2, e2, J3, q3, e3, rfl⟩ := hcj.form
  have HK4 : Hid (Ok x3 w4) := Lib.hid hok
  have HCJ := Lib.hid ((ok1 w4 (.cells #[.slice J0 q0 e0, .slice J1 q1 e1, .slice J2 q2 e2, .slice J3 q3 e3] 48)).cfg hcj)
  have HTJ : Hid (At (w4.alloc (.cells #[.slice J0 q0 e0, .slice J1 q1 e1, .slice J2 q2 e2, .slice J3 q3 e3] 48)) w4.heap.size (.slice J0 q0 e0) (.slice J1 q1 e1) (.slice J2 q2 e2) (.slice J3 q3 e3)) := Lib.hid (At.new _ _ _ _ _ _)
  have HX4 := Lib.hid (HK4.out.trans (ok1 w4 (.cells #[.slice J0 q0 e0, .slice J1 q1 e1, .slice J2 q2 e2, .slice J3 q3 e3] 48)))
  obtain ⟨k0, k1, k2, k3⟩ := HTJ.out
  clear hcj hok
  go_wp2_with fail
  clear k0 k1 k2 k3
  generalize (w4.alloc (.cells #[.slice J0 q0 e0, .slice J1 q1 e1, .slice J2 q2 e2, .slice J3 q3 e3] 48)) = x4 at *
  refine (next_q _ ⟨want, c.vs, [], want⟩ x4 HCJ.out).mono ?_
  rintro e w5 ⟨vf, rfl, hcf, hok⟩
  rw [HS.out.2.2.2.2.1] at hcf ⊢
  simp only [Option.isSome_some, Option.getD_some] at hcf ⊢
  obtain ⟨F0, r0, f0, F1, r1, f1, F2, r2, f2, F3, r3, f3, rfl⟩ := hcf.form
  have HK5 : Hid (Ok x4 w5) := Lib.hid hok
  have HCF := Lib.hid ((ok1 w5 (.cells #[.slice F0 r0 f0, .slice F1 r1 f1, .slice F2 r2 f2, .slice F3 r3 f3] 48)).cfg hcf)
  have HTF : Hid (At (w5.alloc (.cells #[.slice F0 r0 f0, .slice F1 r1 f1, .slice F2 r2 f2, .slice F3 r3 f3] 48)) w5.heap.size (.slice F0 r0 f0) (.slice F1 r1 f1) (.slice F2 r2 f2) (.slice F3 r3 f3)) := Lib.hid (At.new _ _ _ _ _ _)
  have HX5 := Lib.hid (HK5.out.trans (ok1 w5 (.cells #[.slice F0 r0 f0, .slice F1 r1 f1, .slice F2 r2 f2, .slice F3 r3 f3] 48)))
  obtain ⟨k0, k1, k2, k3⟩ := HTF.out
  clear hcf hok
  go_wp2_with fail
  clear k0 k1 k2 k3
  generalize (w5.alloc (.cells #[.slice F0 r0 f0, .slice F1 r1 f1, .slice F2 r2 f2, .slice F3 r3 f3] 48)) = x5 at *
  refine (next_q _ ⟨want, [], [], []⟩ x5 HCF.out).mono ?_
  rintro e w6 ⟨vn, rfl, hcn, hok⟩
  rw [HS.out.2.2.2.2.2.2.1]
  simp only [Option.isSome_none]
  obtain ⟨N0, s0, g0, N1, s1, g1, N2, s2, g2, N3, s3, g3, rfl⟩ := hcn.form
  have HX6 := Lib.hid (hok.trans (ok1 w6 (.cells #[.slice N0 s0 g0, .slice N1 s1 g1, .slice N2 s2 g2, .slice N3 s3 g3] 48)))
  clear hcn hok
  have HGD := Lib.hid (show w3.heap.size = w3.heap.size from rfl)
  have HTD6 := Lib.hid (HTD.out.ok (HX4.out.trans (HX5.out.trans HX6.out)))
  have HTJ6 := Lib.hid (HTJ.out.ok (HX5.out.trans HX6.out))
  have HTF6 := Lib.hid (HTF.out.ok HX6.out)
  have HXX := Lib.hid (HX3.out.trans (HX4.out.trans (HX5.out.trans HX6.out)))
  have HTC6 := Lib.hid (HT0.out.ok HXX.out)
  have HCD6 := Lib.hid ((HX4.out.trans (HX5.out.trans HX6.out)).cfg HCD.out)
  have HCJ6 := Lib.hid ((HX5.out.trans HX6.out).cfg HCJ.out)
  have HCF6 := Lib.hid (HX6.out.cfg HCF.out)
  have HCC6 := Lib.hid ((HOK0.out.trans HXX.out).cfg HC0.out)
  have HCW6 := Lib.hid ((HOK0.out.trans HXX.out).ints HW0.out)
  have HOK6 := Lib.hid (HOK0.out.trans HXX.out)
  clear HTD HTJ HTF HT0 HCD HCJ HCF HC0 HW0 HX3 HX4 HX5 HX6 HXX HK1 HK2 HK3 HK4 HK5 HOK0 HGD
  obtain ⟨k0, k1, k2, k3⟩ := HTD6.out
  go_wp2_with fail
  clear k0 k1 k2 k3
  generalize (w6.alloc (.cells #[.slice N0 s0 g0, .slice N1 s1 g1, .slice N2 s2 g2, .slice N3 s3 g3] 48)) = x6 at *
  have HQ0 : Hid (Ok x6 x6) := Lib.hid (Ok.refl _)
  refine (right_q _ ⟨c.vs, [], newsL c.vs want, want⟩ x6 HCD6.out).mono ?_
  rintro e y1 ⟨rfl, hok⟩
  rw [HS.out.2.1]
  have HQ1 : Hid (Ok x6 y1) := Lib.hid hok
  clear hok
  obtain ⟨k0, k1, k2, k3⟩ := HTJ6.out.ok HQ1.out
  go_wp2_with fail
  clear k0 k1 k2 k3
  refine (right_q _ ⟨want, c.vs, [], want⟩ y1 (HQ1.out.cfg HCJ6.out)).mono ?_
  rintro e y2 ⟨rfl, hok⟩
  rw [HS.out.2.2.2.1]
  have HQ2 : Hid (Ok x6 y2) := Lib.hid (HQ1.out.trans hok)
  clear hok
  obtain ⟨k0, k1, k2, k3⟩ := HTF6.out.ok HQ2.out
  go_wp2_with fail
  clear k0 k1 k2 k3
  refine (right_q _ ⟨want, [], [], []⟩ y2 (HQ2.out.cfg HCF6.out)).mono ?_
  rintro e y3 ⟨rfl, hok⟩
  rw [HS.out.2.2.2.2.2.1]
  have HQ3 : Hid (Ok x6 y3) := Lib.hid (HQ2.out.trans hok)
  clear hok
  obtain ⟨k0, k1, k2, k3⟩ := HTD6.out.ok HQ3.out
  obtain ⟨l0, l1, l2, l3⟩ := HTC6.out.ok HQ3.out
  go_wp2_with fail
  clear k0 k1 k2 k3
  clear l0 l1 l2 l3
  refine (sameInts_q _ _ c.vs c.vs y3 (HQ3.out.ints (CfgIn.inv HCD6.out).1) (HQ3.out.ints (CfgIn.inv HCC6.out).1)).mono ?_
  rintro e y4 ⟨rfl, hok⟩
  rw [sameB_refl]
  have HQ4 : Hid (Ok x6 y4) := Lib.hid (HQ3.out.trans hok)
  clear hok
  obtain ⟨k0, k1, k2, k3⟩ := HTJ6.out.ok HQ4.out
  obtain ⟨l0, l1, l2, l3⟩ := HTC6.out.ok HQ4.out
  go_wp2_with fail
  clear k0 k1 k2 k3
  clear l0 l1 l2 l3
  refine (sameInts_q _ _ c.vs c.vs y4 (HQ4.out.ints (CfgIn.inv HCJ6.out).2.1) (HQ4.out.ints (CfgIn.inv HCC6.out).1)).mono ?_
  rintro e y5 ⟨rfl, hok⟩
  rw [sameB_refl]
  have HQ5 : Hid (Ok x6 y5) := Lib.hid (HQ4.out.trans hok)
  clear hok
  obtain ⟨k0, k1, k2, k3⟩ := HTJ6.out.ok HQ5.out
  go_wp2_with fail
  clear k0 k1 k2 k3
  refine (sameInts_q _ _ want want y5 (HQ5.out.ints (CfgIn.inv HCJ6.out).1) (HQ5.out.ints HCW6.out)).mono ?_
  rintro e y6 ⟨rfl, hok⟩
  rw [sameB_refl]
  have HQ6 : Hid (Ok x6 y6) := Lib.hid (HQ5.out.trans hok)
  clear hok
  obtain ⟨k0, k1, k2, k3⟩ := HTF6.out.ok HQ6.out
  go_wp2_with fail
  clear k0 k1 k2 k3
  refine (sameInts_q _ _ want want y6 (HQ6.out.ints (CfgIn.inv HCF6.out).1) (HQ6.out.ints HCW6.out)).mono ?_
  rintro e y7 ⟨rfl, hok⟩
  rw [sameB_refl]
  have HQ7 : Hid (Ok x6 y7) := Lib.hid (HQ6.out.trans hok)
  clear hok
  go_wp2_with fail
  go_loopw [13] (fun i wr => ∃ k : Nat, k ≤ n4 ∧ i = .int .i64 k ∧ Ok x6 wr) (fun i _ => n4 - (intOf i).toNat)
  case atStart => exact ⟨0, Nat.zero_le _, rfl, HQ7.out⟩
  case round =>
    obtain ⟨k, hk, rfl, hok⟩ := hrel
    have HR := Lib.hid hok
    clear hok
    by_cases hlt : k < n4
    · obtain ⟨b, o, rfl, hc⟩ := ((HR.out.ints HCW6.out).at rfl k hlt).2
      have HTD7 := Lib.hid (HTD6.out.ok HR.out)
      have HTJ7 := Lib.hid (HTJ6.out.ok HR.out)
      have HM := Lib.hid (getD_mem want k (by rw [HN4.out]; exact hlt))
      generalize want.getD k 0 = y at *
      have HCY := Lib.hid hc
      have HH : Hid (∀ w, Ok wr w → Calls Try.prog 31 #[.agg #[.slice D0 p0 d0, .slice D1 p1 d1, .slice D2 p2 d2, .slice D3 p3 d3], .int .i64 y] w fun e w' => e = .returned (.bool true) ∧ Ok w w') := Lib.hid fun w hw => by
        have := has_q _ ⟨c.vs, [], newsL c.vs want, want⟩ y w ((HR.out.trans hw).cfg HCD6.out)
        rwa [has_want c.vs want y HM.out] at this
      have HV : Hid (∀ w, Ok wr w → Calls Try.prog 32 #[.agg #[.slice J0 q0 e0, .slice J1 q1 e1, .slice J2 q2 e2, .slice J3 q3 e3], .int .i64 y] w fun e w' => e = .returned (.bool true) ∧ Ok w w') := Lib.hid fun w hw => by
        have := votesC_q _ ⟨want, c.vs, [], want⟩ y w ((HR.out.trans hw).cfg HCJ6.out)
        rwa [votes_want c.vs want y HM.out] at this
      clear hc
      have hi0 : (0 : Int) ≤ (k : Int) := Int.natCast_nonneg _
      have hi1 : (k : Int) < (n4 : Int) := by omega
      go_wp2_with fail
      go_region_held3 (fun w' => w'.cell? ⟨w3.heap.size, 0, none⟩ = some (.slice D0 p0 d0) ∧ w'.cell? ⟨w3.heap.size, 1, none⟩ = some (.slice D1 p1 d1) ∧ w'.cell? ⟨w3.heap.size, 2, none⟩ = some (.slice D2 p2 d2) ∧ w'.cell? ⟨w3.heap.size, 3, none⟩ = some (.slice D3 p3 d3) ∧ w'.cell? ⟨w4.heap.size, 0, none⟩ = some (.slice J0 q0 e0) ∧ w'.cell? ⟨w4.heap.size, 1, none⟩ = some (.slice J1 q1 e1) ∧ w'.cell? ⟨w4.heap.size, 2, none⟩ = some (.slice J2 q2 e2) ∧ w'.cell? ⟨w4.heap.size, 3, none⟩ = some (.slice J3 q3 e3) ∧ w'.cell? ⟨b, o + k, none⟩ = some (.int .i64 y) ∧ OkS wr w')
        ((refine S9 HTD7.out HTJ7.out HCY.out ?_; (repeat (first | (with_reducible exact Ok.refl _) | (with_reducible refine Ok.drew ?_) | (with_reducible refine Ok.trans ?_ (by assumption)))); done))
        ((first
          | (go_at_call 31; (with_reducible refine (HH.out _ ?_).mono ?_); (repeat (first | (with_reducible exact Ok.refl _) | (with_reducible refine Ok.drew ?_) | (with_reducible refine Ok.trans ?_ (by assumption)))); rintro e wc ⟨rfl, hbc⟩)
          | (go_at_call 32; (with_reducible refine (HV.out _ ?_).mono ?_); (repeat (first | (with_reducible exact Ok.refl _) | (with_reducible refine Ok.drew ?_) | (with_reducible refine Ok.trans ?_ (by assumption)))); rintro e wc ⟨rfl, hbc⟩)))
      all_goals go_wp2_with fail
      all_goals exact ⟨⟨k + 1, by omega, by go_num, Ok.trans HR.out (by (repeat (first | (with_reducible exact Ok.refl _) | (with_reducible refine Ok.drew ?_) | (with_reducible refine Ok.trans ?_ (by assumption)))))⟩, by simp [intOf]; omega⟩
    · have hke : k = n4 := by omega
      subst hke
      obtain ⟨k0, k1, k2, k3⟩ := HTF6.out.ok HR.out
      go_wp2_with fail
      clear k0 k1 k2 k3
      refine (agrees_q _ _ ⟨want, [], [], []⟩ want _ (HR.out.cfg HCF6.out) (HR.out.ints HCW6.out)).mono ?_
      rintro e z1 ⟨rfl, hok⟩
      rw [HS.out.2.2.2.2.2.2.2.1]
      have HZ1 := Lib.hid (HR.out.trans hok)
      clear hok
      obtain ⟨k0, k1, k2, k3⟩ := HTC6.out.ok HZ1.out
      go_wp2_with fail
      clear k0 k1 k2 k3
      refine (agrees_q _ _ c c.vs _ (HZ1.out.cfg HCC6.out) (HZ1.out.ints (CfgIn.inv HCC6.out).1)).mono ?_
      rintro e z2 ⟨rfl, hok⟩
      rw [HS.out.2.2.2.2.2.2.2.2.1]
      have HZ2 := Lib.hid (HZ1.out.trans hok)
      clear hok
      obtain ⟨k0, k1, k2, k3⟩ := HTF6.out.ok HZ2.out
      go_wp2_with fail
      clear k0 k1 k2 k3
      refine (agrees_q _ _ ⟨want, [], [], []⟩ [] _ (HZ2.out.cfg HCF6.out) (InI.nil _)).mono ?_
      rintro e z3 ⟨rfl, hok⟩
      rw [HS.out.2.2.2.2.2.2.2.2.2]
      go_wp2_with fail
      go_ret
      exact ⟨rfl, HOK6.out.trans (HZ2.out.trans hok)⟩
end Go.Proofs.Ytmbnknbbfipciaa
