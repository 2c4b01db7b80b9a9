/- The law QuorumTells, walked: for any configuration, any set, any node it returns true, and turns nothing that was there. -/
import Derived.Test.YtolfdncmlfnbdaaUk
namespace Go.Proofs.Ytolfdncmlfnbdaa
open Go.RowKit

theorem ok_regrown (w : World) (d : Nat) (os : Array Obj) : Ok w (Go.Sort.grow (redrawn w d) os) := below_regrown w d os
theorem great_short {c : Cfg} {s : List Int} (h : greatB c s = false) : c.vs.length ≤ 40 ∧ c.os.length ≤ 40 ∧ c.ls.length ≤ 40 ∧ c.ws.length ≤ 40 ∧ s.length ≤ 40 := by
  simp only [greatB, Bool.or_eq_false_iff, decide_eq_false_iff_not] at h
  omega
theorem CfgO.rows {w : World} {B : Nat} {v : Value} {c : Cfg} (h : CfgO w B v c) : ∃ D0 p0 d0 D1 p1 d1 D2 p2 d2 D3 p3 d3, v = .agg #[.slice D0 p0 d0, .slice D1 p1 d1, .slice D2 p2 d2, .slice D3 p3 d3] ∧
    RowV w B w.heap.size (.slice D0 p0 d0) ∧ RowV w B w.heap.size (.slice D1 p1 d1) ∧ RowV w B w.heap.size (.slice D2 p2 d2) ∧ RowV w B w.heap.size (.slice D3 p3 d3) := by
  obtain ⟨a, b, d, e, rfl, h1, h2, h3, h4⟩ := h
  have r1 := h1.row
  have r2 := h2.row
  have r3 := h3.row
  have r4 := h4.row
  obtain ⟨_, _, rfl⟩ := h1.1.form
  obtain ⟨_, _, rfl⟩ := h2.1.form
  obtain ⟨_, _, rfl⟩ := h3.1.form
  obtain ⟨_, _, rfl⟩ := h4.1.form
  exact ⟨_, _, _, _, _, _, _, _, _, _, _, _, rfl, r1, r2, r3, r4⟩
theorem CfgIn.form4 {w : World} {v : Value} {c : Cfg} (h : CfgIn w v c) : ∃ D0 p0 d0 D1 p1 d1 D2 p2 d2 D3 p3 d3, v = .agg #[.slice D0 p0 d0, .slice D1 p1 d1, .slice D2 p2 d2, .slice D3 p3 d3] := by
  obtain ⟨_, _, _, _, _, _, _, _, rfl, _⟩ := h.forms
  exact ⟨_, _, _, _, _, _, _, _, _, _, _, _, rfl⟩
theorem Ok.stay {w w' : World} (k : Ok w w') : Stay w w' := fun _ _ h => h.ok k
theorem S9' {w1 w' : World} {g h : Nat} {v0 v1 v2 v3 u0 u1 u2 u3 : Value} (hg : At w1 g v0 v1 v2 v3) (hh : At w1 h u0 u1 u2 u3) (k : Ok w1 w') :
    w'.cell? ⟨g, 0, none⟩ = some v0 ∧ w'.cell? ⟨g, 1, none⟩ = some v1 ∧ w'.cell? ⟨g, 2, none⟩ = some v2 ∧ w'.cell? ⟨g, 3, none⟩ = some v3 ∧
    w'.cell? ⟨h, 0, none⟩ = some u0 ∧ w'.cell? ⟨h, 1, none⟩ = some u1 ∧ w'.cell? ⟨h, 2, none⟩ = some u2 ∧ w'.cell? ⟨h, 3, none⟩ = some u3 ∧ OkS w1 w' :=
  ⟨k.cell hg.1, k.cell hg.2.1, k.cell hg.2.2.1, k.cell hg.2.2.2, k.cell hh.1, k.cell hh.2.1, k.cell hh.2.2.1, k.cell hh.2.2.2, ⟨k⟩⟩
theorem OverCP.of {B L : Nat} {w : World} {e : Ending} {w' : World} (h : OverCP B L w e w') : e = .returned (.tuple #[]) ∧ Below B w w' ∧ Stay w w' ∧ Far L w w' := h
theorem At.keep {w w' : World} {B g : Nat} {v0 v1 v2 v3 : Value} (h : At w g v0 v1 v2 v3) (k : Below B w w') (hg : g < B) : At w' g v0 v1 v2 v3 :=
  ⟨by rw [k.cell (p := ⟨g, 0, none⟩) hg]; exact h.1, by rw [k.cell (p := ⟨g, 1, none⟩) hg]; exact h.2.1, by rw [k.cell (p := ⟨g, 2, none⟩) hg]; exact h.2.2.1, by rw [k.cell (p := ⟨g, 3, none⟩) hg]; exact h.2.2.2⟩

set_option maxRecDepth 100000 in
set_option maxHeartbeats 2000000 in
theorem quorumTells_v (W : World) (v vs : Value) (c : Cfg) (s : List Int) (node : Int) (h : CfgIn W v c) (hs : InI W vs s) :
    Calls Try.prog 6 #[v, vs, .int .i64 node] W fun e w' => e = .returned (.bool true) ∧ Ok W w' := by
  obtain ⟨A0, n0, c0, A1, n1, c1, A2, n2, c2, A3, n3, c3, rfl⟩ := h.form4
  obtain ⟨As, cs, rfl, _⟩ := hs.form
  have HC0 := Lib.hid h
  have HS0 := Lib.hid hs
  clear h hs
  generalize hns : s.length = ns at *
  have HNS := Lib.hid hns
  clear hns
  have HT0 := Lib.hid (At.new W (.slice A0 n0 c0) (.slice A1 n1 c1) (.slice A2 n2 c2) (.slice A3 n3 c3) 71)
  have HOK0 : Hid (Ok W (W.alloc (.cells #[.slice A0 n0 c0, .slice A1 n1 c1, .slice A2 n2 c2, .slice A3 n3 c3] 71))) := Lib.hid ((Ok.refl W).alloc _)
  have HZ0 : Hid (W.heap.size < (W.alloc (.cells #[.slice A0 n0 c0, .slice A1 n1 c1, .slice A2 n2 c2, .slice A3 n3 c3] 71)).heap.size) := Lib.hid (by rw [World.size_alloc]; omega)
  go_enter Try.func6, Try.ntmps6
  go_wp2_with fail
  generalize (W.alloc (.cells #[.slice A0 n0 c0, .slice A1 n1 c1, .slice A2 n2 c2, .slice A3 n3 c3] 71)) = W1 at *
  refine (awake_q W1).mono ?_
  rintro e w1 ⟨rfl, hok⟩
  have HK1 : Hid (Ok W1 w1) := Lib.hid hok
  clear hok
  obtain ⟨hc0, hc1, hc2, hc3⟩ := HT0.out.ok HK1.out
  go_wp2_with fail
  clear hc0 hc1 hc2 hc3
  refine (great_q _ _ c s w1 ((HOK0.out.trans HK1.out).cfg HC0.out) ((HOK0.out.trans HK1.out).ints HS0.out)).mono ?_
  rintro e w2 ⟨rfl, hok⟩
  have HK2 : Hid (Ok W1 w2) := Lib.hid (HK1.out.trans hok)
  clear hok
  obtain ⟨hc0, hc1, hc2, hc3⟩ := HT0.out.ok HK2.out
  cases hg : greatB c s with
  | true =>
    clear hg
    go_wp2_with fail
    go_ret
    exact ⟨rfl, HOK0.out.trans HK2.out⟩
  | false =>
  have HL := Lib.hid (great_short hg)
  have HSH : Hid (Short c) := Lib.hid (by have := HL.out; unfold Short; omega)
  have HS3 : Hid (Sum3 c) := Lib.hid (by have := HL.out; unfold Sum3; omega)
  clear hg
  go_wp2_with fail
  clear hc0 hc1 hc2 hc3
  refine (lentConfig_w _ c w2 ((HOK0.out.trans HK2.out).cfg HC0.out) HSH.out).mono ?_
  rintro e w3 ⟨vi, rfl, hli, hok⟩
  obtain ⟨E0, m0, k0, E1, m1, k1, E2, m2, k2, E3, m3, k3, rfl⟩ := hli.cfg.form4
  have HK3 : Hid (Ok W1 w3) := Lib.hid (HK2.out.trans hok)
  have HLI3 := Lib.hid hli
  clear hli hok
  go_wp2_with fail
  refine (lentInts_w _ s w3 ((HOK0.out.trans HK3.out).ints HS0.out) (by have := HL.out; have := HNS.out; omega)).mono ?_
  rintro e w4 ⟨vl, rfl, hll, hok⟩
  obtain ⟨El, kl, rfl⟩ := hll.form
  rw [HNS.out] at hll ⊢
  have HA5 := Lib.hid (At.new w4 (.slice E0 m0 k0) (.slice E1 m1 k1) (.slice E2 m2 k2) (.slice E3 m3 k3) 71)
  have HK5 : Hid (Ok W1 (w4.alloc (.cells #[.slice E0 m0 k0, .slice E1 m1 k1, .slice E2 m2 k2, .slice E3 m3 k3] 71))) := Lib.hid ((HK3.out.trans hok).alloc _)
  have HLI5 := Lib.hid (HLI3.out.ok (hok.trans ((Ok.refl w4).alloc (.cells #[.slice E0 m0 k0, .slice E1 m1 k1, .slice E2 m2 k2, .slice E3 m3 k3] 71))))
  have HLL5 := Lib.hid (hll.ok ((Ok.refl w4).alloc (.cells #[.slice E0 m0 k0, .slice E1 m1 k1, .slice E2 m2 k2, .slice E3 m3 k3] 71)))
  have HZ5 : Hid (w4.heap.size < (w4.alloc (.cells #[.slice E0 m0 k0, .slice E1 m1 k1, .slice E2 m2 k2, .slice E3 m3 k3] 71)).heap.size) := Lib.hid (by rw [World.size_alloc]; omega)
  clear hll hok HLI3
  obtain ⟨hx0, hx1, hx2, hx3⟩ := HA5.out
  go_wp2_with fail
  clear hx0 hx1 hx2 hx3
  generalize (w4.alloc (.cells #[.slice E0 m0 k0, .slice E1 m1 k1, .slice E2 m2 k2, .slice E3 m3 k3] 71)) = w5 at *
  refine (begin_o _ _ c s w5 HLI5.out.cfg HLL5.out.ints).mono ?_
  rintro e w6 ⟨vd, rfl, hcd, hok⟩
  have hci := hcd.cfg
  obtain ⟨D0, p0, d0, D1, p1, d1, D2, p2, d2, D3, p3, d3, rfl, r0, r1, r2, r3⟩ := hcd.rows
  have HA7 := Lib.hid (At.new w6 (.slice D0 p0 d0) (.slice D1 p1 d1) (.slice D2 p2 d2) (.slice D3 p3 d3) 71)
  have HK7 : Hid (Ok w5 (w6.alloc (.cells #[.slice D0 p0 d0, .slice D1 p1 d1, .slice D2 p2 d2, .slice D3 p3 d3] 71))) := Lib.hid (hok.alloc _)
  have HCD7 := Lib.hid (((Ok.refl w6).alloc (.cells #[.slice D0 p0 d0, .slice D1 p1 d1, .slice D2 p2 d2, .slice D3 p3 d3] 71)).cfg hci)
  have HR0 := Lib.hid (r0.stay ((Ok.refl w6).alloc (.cells #[.slice D0 p0 d0, .slice D1 p1 d1, .slice D2 p2 d2, .slice D3 p3 d3] 71)).stay)
  have HR1 := Lib.hid (r1.stay ((Ok.refl w6).alloc (.cells #[.slice D0 p0 d0, .slice D1 p1 d1, .slice D2 p2 d2, .slice D3 p3 d3] 71)).stay)
  have HR2 := Lib.hid (r2.stay ((Ok.refl w6).alloc (.cells #[.slice D0 p0 d0, .slice D1 p1 d1, .slice D2 p2 d2, .slice D3 p3 d3] 71)).stay)
  have HR3 := Lib.hid (r3.stay ((Ok.refl w6).alloc (.cells #[.slice D0 p0 d0, .slice D1 p1 d1, .slice D2 p2 d2, .slice D3 p3 d3] 71)).stay)
  have HL7 : Hid (w6.heap.size < (w6.alloc (.cells #[.slice D0 p0 d0, .slice D1 p1 d1, .slice D2 p2 d2, .slice D3 p3 d3] 71)).heap.size) := Lib.hid (by rw [World.size_alloc]; omega)
  have HB7 : Hid (w5.heap.size ≤ w6.heap.size) := Lib.hid hok.size
  clear hcd hok hci r0 r1 r2 r3
  generalize hE : beginE c s = EE at *
  have HE := Lib.hid hE
  clear hE
  have HXT7 := Lib.hid (HT0.out.ok (HK5.out.trans HK7.out))
  obtain ⟨hc0, hc1, hc2, hc3⟩ := HXT7.out
  obtain ⟨hx0, hx1, hx2, hx3⟩ := HA7.out
  go_wp2_with fail
  clear hx0 hx1 hx2 hx3 hc0 hc1 hc2 hc3
  generalize (w6.alloc (.cells #[.slice D0 p0 d0, .slice D1 p1 d1, .slice D2 p2 d2, .slice D3 p3 d3] 71)) = w7 at *
  have HW7 : Hid (Ok W w7) := Lib.hid (HOK0.out.trans (HK5.out.trans HK7.out))
  refine (begin06_w _ _ c s w7 (HW7.out.cfg HC0.out) (HW7.out.ints HS0.out)).mono ?_
  rintro e w8 ⟨ve, rfl, hci, hok⟩
  rw [HE.out]
  obtain ⟨F0, q0, f0, F1, q1, f1, F2, q2, f2, F3, q3, f3, rfl⟩ := hci.form4
  have HA9 := Lib.hid (At.new w8 (.slice F0 q0 f0) (.slice F1 q1 f1) (.slice F2 q2 f2) (.slice F3 q3 f3) 71)
  have HK9 : Hid (Ok w7 (w8.alloc (.cells #[.slice F0 q0 f0, .slice F1 q1 f1, .slice F2 q2 f2, .slice F3 q3 f3] 71))) := Lib.hid (hok.alloc _)
  have HCE9 := Lib.hid (((Ok.refl w8).alloc (.cells #[.slice F0 q0 f0, .slice F1 q1 f1, .slice F2 q2 f2, .slice F3 q3 f3] 71)).cfg hci)
  clear hci hok
  have HXI9 := Lib.hid (HA5.out.ok (HK7.out.trans HK9.out))
  obtain ⟨hc0, hc1, hc2, hc3⟩ := HXI9.out
  obtain ⟨hx0, hx1, hx2, hx3⟩ := HA9.out
  go_wp2_with fail
  clear hx0 hx1 hx2 hx3 hc0 hc1 hc2 hc3
  generalize (w8.alloc (.cells #[.slice F0 q0 f0, .slice F1 q1 f1, .slice F2 q2 f2, .slice F3 q3 f3] 71)) = w9 at *
  refine (next_o _ c w9 (HLI5.out.ok (HK7.out.trans HK9.out)).cfg).mono ?_
  rintro e w10 ⟨vx, rfl, hcd, hok⟩
  have hci := hcd.cfg
  obtain ⟨X0, x0, y0, X1, x1, y1, X2, x2, y2, X3, x3, y3, rfl, r0, r1, r2, r3⟩ := hcd.rows
  have HA11 := Lib.hid (At.new w10 (.slice X0 x0 y0) (.slice X1 x1 y1) (.slice X2 x2 y2) (.slice X3 x3 y3) 71)
  have HK11 : Hid (Ok w9 (w10.alloc (.cells #[.slice X0 x0 y0, .slice X1 x1 y1, .slice X2 x2 y2, .slice X3 x3 y3] 71))) := Lib.hid (hok.alloc _)
  have HCX11 := Lib.hid (((Ok.refl w10).alloc (.cells #[.slice X0 x0 y0, .slice X1 x1 y1, .slice X2 x2 y2, .slice X3 x3 y3] 71)).cfg hci)
  have HS0' := Lib.hid (r0.stay ((Ok.refl w10).alloc (.cells #[.slice X0 x0 y0, .slice X1 x1 y1, .slice X2 x2 y2, .slice X3 x3 y3] 71)).stay)
  have HS1' := Lib.hid (r1.stay ((Ok.refl w10).alloc (.cells #[.slice X0 x0 y0, .slice X1 x1 y1, .slice X2 x2 y2, .slice X3 x3 y3] 71)).stay)
  have HS2' := Lib.hid (r2.stay ((Ok.refl w10).alloc (.cells #[.slice X0 x0 y0, .slice X1 x1 y1, .slice X2 x2 y2, .slice X3 x3 y3] 71)).stay)
  have HS3' := Lib.hid (r3.stay ((Ok.refl w10).alloc (.cells #[.slice X0 x0 y0, .slice X1 x1 y1, .slice X2 x2 y2, .slice X3 x3 y3] 71)).stay)
  have HL11 : Hid (w10.heap.size < (w10.alloc (.cells #[.slice X0 x0 y0, .slice X1 x1 y1, .slice X2 x2 y2, .slice X3 x3 y3] 71)).heap.size) := Lib.hid (by rw [World.size_alloc]; omega)
  have HB11 : Hid (w9.heap.size ≤ w10.heap.size) := Lib.hid hok.size
  clear hcd hok hci r0 r1 r2 r3
  generalize hN : (nextC c).isSome = ob at *
  have HN := Lib.hid hN
  clear hN
  have HXT11 := Lib.hid (HXT7.out.ok (HK9.out.trans HK11.out))
  obtain ⟨hc0, hc1, hc2, hc3⟩ := HXT11.out
  obtain ⟨hx0, hx1, hx2, hx3⟩ := HA11.out
  go_wp2_with fail
  clear hx0 hx1 hx2 hx3 hc0 hc1 hc2 hc3
  generalize (w10.alloc (.cells #[.slice X0 x0 y0, .slice X1 x1 y1, .slice X2 x2 y2, .slice X3 x3 y3] 71)) = w11 at *
  have HW11 : Hid (Ok W w11) := Lib.hid (HW7.out.trans (HK9.out.trans HK11.out))
  refine (next06_w _ c w11 (HW11.out.cfg HC0.out)).mono ?_
  rintro e w12 ⟨vy, rfl, hci, hok⟩
  rw [HN.out]
  obtain ⟨Y0, z0, u0, Y1, z1, u1, Y2, z2, u2, Y3, z3, u3, rfl⟩ := hci.form4
  have HA13 := Lib.hid (At.new w12 (.slice Y0 z0 u0) (.slice Y1 z1 u1) (.slice Y2 z2 u2) (.slice Y3 z3 u3) 71)
  have HK13 : Hid (Ok w11 (w12.alloc (.cells #[.slice Y0 z0 u0, .slice Y1 z1 u1, .slice Y2 z2 u2, .slice Y3 z3 u3] 71))) := Lib.hid (hok.alloc _)
  have HCY13 := Lib.hid (((Ok.refl w12).alloc (.cells #[.slice Y0 z0 u0, .slice Y1 z1 u1, .slice Y2 z2 u2, .slice Y3 z3 u3] 71)).cfg hci)
  clear hci hok
  obtain ⟨hx0, hx1, hx2, hx3⟩ := HA13.out
  go_wp2_with fail
  clear hx0 hx1 hx2 hx3
  generalize (w12.alloc (.cells #[.slice Y0 z0 u0, .slice Y1 z1 u1, .slice Y2 z2 u2, .slice Y3 z3 u3] 71)) = w13 at *
  have HT13 := Lib.hid (HXT11.out.ok HK13.out)
  have HI13 := Lib.hid (HXI9.out.ok (HK11.out.trans HK13.out))
  have HD13 := Lib.hid (HA7.out.ok (HK9.out.trans (HK11.out.trans HK13.out)))
  have HF13 := Lib.hid (HA9.out.ok (HK11.out.trans HK13.out))
  have HX13 := Lib.hid (HA11.out.ok HK13.out)
  have HY13 := HA13
  have HW13 : Hid (Ok W w13) := Lib.hid (HW11.out.trans HK13.out)
  have HCI13 := Lib.hid (HLI5.out.ok (HK7.out.trans (HK9.out.trans (HK11.out.trans HK13.out))))
  have HCL13 := Lib.hid (HLL5.out.ok (HK7.out.trans (HK9.out.trans (HK11.out.trans HK13.out))))
  have HCD13 := Lib.hid ((HK9.out.trans (HK11.out.trans HK13.out)).cfg HCD7.out)
  have HCE13 := Lib.hid ((HK11.out.trans HK13.out).cfg HCE9.out)
  have HCX13 := Lib.hid (HK13.out.cfg HCX11.out)
  have e1 : (EE != EE) = false := by simp
  have e2 : (ob != ob) = false := by simp
  have e3 : (rightB c != rightB c) = false := by simp
  have e4 : (agreesB c s != agreesB c s) = false := by simp
  have q1 : ∀ d os, Calls Try.prog 46 #[(.agg #[.slice D0 p0 d0, .slice D1 p1 d1, .slice D2 p2 d2, .slice D3 p3 d3]), (.agg #[.slice F0 q0 f0, .slice F1 q1 f1, .slice F2 q2 f2, .slice F3 q3 f3])] (Go.Sort.grow (redrawn w13 d) os) fun e w'' => e = .returned (.bool true) ∧ ∃ p : Regrown, w'' = Go.Sort.grow (redrawn w13 p.d) p.os := fun d os =>
    Calls.regrown_of ((same_q _ _ _ _ _ ((ok_regrown w13 d os).cfg HCD13.out) ((ok_regrown w13 d os).cfg HCE13.out)).mono fun _ _ h => ⟨by rw [h.1, sameC_refl], h.2⟩)
  have q2 : ∀ d os, Calls Try.prog 46 #[(.agg #[.slice X0 x0 y0, .slice X1 x1 y1, .slice X2 x2 y2, .slice X3 x3 y3]), (.agg #[.slice Y0 z0 u0, .slice Y1 z1 u1, .slice Y2 z2 u2, .slice Y3 z3 u3])] (Go.Sort.grow (redrawn w13 d) os) fun e w'' => e = .returned (.bool true) ∧ ∃ p : Regrown, w'' = Go.Sort.grow (redrawn w13 p.d) p.os := fun d os =>
    Calls.regrown_of ((same_q _ _ _ _ _ ((ok_regrown w13 d os).cfg HCX13.out) ((ok_regrown w13 d os).cfg HCY13.out)).mono fun _ _ h => ⟨by rw [h.1, sameC_refl], h.2⟩)
  have q3 : ∀ d os, Calls Try.prog 47 #[(.agg #[.slice E0 m0 k0, .slice E1 m1 k1, .slice E2 m2 k2, .slice E3 m3 k3])] (Go.Sort.grow (redrawn w13 d) os) fun e w'' => e = .returned (.bool (rightB c)) ∧ ∃ p : Regrown, w'' = Go.Sort.grow (redrawn w13 p.d) p.os := fun d os =>
    Calls.regrown_of (right_q _ c _ ((ok_regrown w13 d os).cfg HCI13.out.cfg))
  have q4 : ∀ d os, Calls Try.prog 48 #[(.agg #[.slice A0 n0 c0, .slice A1 n1 c1, .slice A2 n2 c2, .slice A3 n3 c3])] (Go.Sort.grow (redrawn w13 d) os) fun e w'' => e = .returned (.bool (rightB c)) ∧ ∃ p : Regrown, w'' = Go.Sort.grow (redrawn w13 p.d) p.os := fun d os =>
    Calls.regrown_of (right06_w _ c _ ((HW13.out.trans (below_regrown w13 d os)).cfg HC0.out))
  have q5 : ∀ d os, Calls Try.prog 49 #[(.agg #[.slice E0 m0 k0, .slice E1 m1 k1, .slice E2 m2 k2, .slice E3 m3 k3]), .slice El ns kl] (Go.Sort.grow (redrawn w13 d) os) fun e w'' => e = .returned (.bool (agreesB c s)) ∧ ∃ p : Regrown, w'' = Go.Sort.grow (redrawn w13 p.d) p.os := fun d os =>
    Calls.regrown_of (agrees_q _ _ c s _ ((ok_regrown w13 d os).cfg HCI13.out.cfg) ((ok_regrown w13 d os).ints HCL13.out.ints))
  have q6 : ∀ d os, Calls Try.prog 50 #[(.agg #[.slice A0 n0 c0, .slice A1 n1 c1, .slice A2 n2 c2, .slice A3 n3 c3]), .slice As ns cs] (Go.Sort.grow (redrawn w13 d) os) fun e w'' => e = .returned (.bool (agreesB c s)) ∧ ∃ p : Regrown, w'' = Go.Sort.grow (redrawn w13 p.d) p.os := fun d os =>
    Calls.regrown_of (agrees06_w _ _ c s _ ((HW13.out.trans (below_regrown w13 d os)).cfg HC0.out) ((HW13.out.trans (below_regrown w13 d os)).ints HS0.out))
  have Q1 := Lib.hid q1
  have Q2 := Lib.hid q2
  have Q3 := Lib.hid q3
  have Q4 := Lib.hid q4
  have Q5 := Lib.hid q5
  have Q6 := Lib.hid q6
  clear q1 q2 q3 q4 q5 q6
  generalize rightB c = rr at *
  generalize agreesB c s = ag at *
  obtain ⟨at0, at1, at2, at3⟩ := HT13.out
  have kt0 := cell_regrown at0
  have kt1 := cell_regrown at1
  have kt2 := cell_regrown at2
  have kt3 := cell_regrown at3
  obtain ⟨ai0, ai1, ai2, ai3⟩ := HI13.out
  have ki0 := cell_regrown ai0
  have ki1 := cell_regrown ai1
  have ki2 := cell_regrown ai2
  have ki3 := cell_regrown ai3
  obtain ⟨ad0, ad1, ad2, ad3⟩ := HD13.out
  have kd0 := cell_regrown ad0
  have kd1 := cell_regrown ad1
  have kd2 := cell_regrown ad2
  have kd3 := cell_regrown ad3
  obtain ⟨af0, af1, af2, af3⟩ := HF13.out
  have kf0 := cell_regrown af0
  have kf1 := cell_regrown af1
  have kf2 := cell_regrown af2
  have kf3 := cell_regrown af3
  obtain ⟨ax0, ax1, ax2, ax3⟩ := HX13.out
  have kx0 := cell_regrown ax0
  have kx1 := cell_regrown ax1
  have kx2 := cell_regrown ax2
  have kx3 := cell_regrown ax3
  obtain ⟨ay0, ay1, ay2, ay3⟩ := HY13.out
  have ky0 := cell_regrown ay0
  have ky1 := cell_regrown ay1
  have ky2 := cell_regrown ay2
  have ky3 := cell_regrown ay3
  refine wp_region_quiet_below (by kernel_rfl) (by kernel_rfl) ?_
  refine HeldU.out ?_
  repeat (
    refine hqU_step (fun K hK => ?_)
    go_simp
    first
      | (refine hK _ ?_; clear hK K)
      | (apply Exists.intro
         refine ⟨fun _ => ?_, hK _ ?_⟩
         (first | (with_reducible exact Q1.out _ _) | (with_reducible exact Q2.out _ _) | (with_reducible exact Q3.out _ _) | (with_reducible exact Q4.out _ _) | (with_reducible exact Q5.out _ _) | (with_reducible exact Q6.out _ _))
         clear hK K))
  refine HeldU.mk (wpQuiet_nil ?_)
  intro _ hw'
  obtain ⟨⟨dq, osq⟩, hw''⟩ := hw'
  subst hw''
  clear kt0 at0 kt1 at1 kt2 at2 kt3 at3
  clear ki0 ai0 ki1 ai1 ki2 ai2 ki3 ai3
  clear kd0 ad0 kd1 ad1 kd2 ad2 kd3 ad3
  clear kf0 af0 kf1 af1 kf2 af2 kf3 af3
  clear kx0 ax0 kx1 ax1 kx2 ax2 kx3 ax3
  clear ky0 ay0 ky1 ay1 ky2 ay2 ky3 ay3
  clear Q1 Q2 Q3 Q4 Q5 Q6 e1 e2 e3 e4
  have HK14 : Hid (Ok w13 (Go.Sort.grow (redrawn w13 dq) osq)) := Lib.hid (below_regrown w13 dq osq)
  generalize (Go.Sort.grow (redrawn w13 dq) osq) = w14 at *
  go_wp2_with fail
  have HI14 := Lib.hid (HI13.out.ok HK14.out)
  have HT14 := Lib.hid (HT13.out.ok HK14.out)
  have HW14 : Hid (Ok W w14) := Lib.hid (HW13.out.trans HK14.out)
  have HCI14 := Lib.hid (HCI13.out.ok HK14.out).cfg
  have HV1 : Hid (∀ w, Ok w14 w → Calls Try.prog 51 #[(.agg #[.slice E0 m0 k0, .slice E1 m1 k1, .slice E2 m2 k2, .slice E3 m3 k3]), .int .i64 node] w fun e w' => e = .returned (.bool (votesB c node)) ∧ Ok w w') := Lib.hid fun w hw => votes_w _ node c w (hw.cfg HCI14.out)
  have HV2 : Hid (∀ w, Ok w14 w → Calls Try.prog 52 #[(.agg #[.slice A0 n0 c0, .slice A1 n1 c1, .slice A2 n2 c2, .slice A3 n3 c3]), .int .i64 node] w fun e w' => e = .returned (.bool (votesB c node)) ∧ Ok w w') := Lib.hid fun w hw => votes06_w _ node c w ((HW14.out.trans hw).cfg HC0.out)
  have HH1 : Hid (∀ w, Ok w14 w → Calls Try.prog 53 #[(.agg #[.slice E0 m0 k0, .slice E1 m1 k1, .slice E2 m2 k2, .slice E3 m3 k3]), .int .i64 node] w fun e w' => e = .returned (.bool (hasB c node)) ∧ Ok w w') := Lib.hid fun w hw => has_w _ node c w (hw.cfg HCI14.out)
  have HH2 : Hid (∀ w, Ok w14 w → Calls Try.prog 54 #[(.agg #[.slice A0 n0 c0, .slice A1 n1 c1, .slice A2 n2 c2, .slice A3 n3 c3]), .int .i64 node] w fun e w' => e = .returned (.bool (hasB c node)) ∧ Ok w w') := Lib.hid fun w hw => has06_w _ node c w ((HW14.out.trans hw).cfg HC0.out)
  have HN1 : Hid (∀ w, Ok w14 w → Calls Try.prog 56 #[(.agg #[.slice E0 m0 k0, .slice E1 m1 k1, .slice E2 m2 k2, .slice E3 m3 k3])] w (NodesP w c)) := Lib.hid fun w hw => nodes_w _ c w (hw.cfg HCI14.out) HSH.out
  have HN2 : Hid (∀ w, Ok w14 w → Calls Try.prog 57 #[(.agg #[.slice A0 n0 c0, .slice A1 n1 c1, .slice A2 n2 c2, .slice A3 n3 c3])] w (NodesP w c)) := Lib.hid fun w hw => nodes06_w _ c w ((HW14.out.trans hw).cfg HC0.out) HS3.out
  have HSM : Hid (∀ wa wb w v1 v2 l1 l2, Ok wa w → InI wa v1 l1 → NodesOf c l1 → Ok wb w → InI wb v2 l2 → NodesOf c l2 → Calls Try.prog 55 #[v1, v2] w fun e w' => e = .returned (.bool true) ∧ Ok w w') := Lib.hid fun wa wb w v1 v2 l1 l2 ka ia na kb ib nb =>
    (sameInts_q v1 v2 l1 l2 w (ka.ints ia) (kb.ints ib)).mono fun _ _ h => ⟨by rw [h.1, nodes_one na nb, sameB_refl], h.2⟩
  have e5 : (votesB c node != votesB c node) = false := by simp
  have e6 : (hasB c node != hasB c node) = false := by simp
  generalize votesB c node = vb at *
  generalize hasB c node = hb at *
  go_region_held3 (fun w' => w'.cell? ⟨w4.heap.size, 0, none⟩ = some (.slice E0 m0 k0) ∧ w'.cell? ⟨w4.heap.size, 1, none⟩ = some (.slice E1 m1 k1) ∧ w'.cell? ⟨w4.heap.size, 2, none⟩ = some (.slice E2 m2 k2) ∧ w'.cell? ⟨w4.heap.size, 3, none⟩ = some (.slice E3 m3 k3) ∧ w'.cell? ⟨W.heap.size, 0, none⟩ = some (.slice A0 n0 c0) ∧ w'.cell? ⟨W.heap.size, 1, none⟩ = some (.slice A1 n1 c1) ∧ w'.cell? ⟨W.heap.size, 2, none⟩ = some (.slice A2 n2 c2) ∧ w'.cell? ⟨W.heap.size, 3, none⟩ = some (.slice A3 n3 c3) ∧ OkS w14 w')
    (exact S9' HI14.out HT14.out (by (repeat (first | (with_reducible exact Ok.refl _) | (with_reducible refine Ok.drew ?_) | (with_reducible refine Ok.trans ?_ (by assumption))))))
    ((first
      | (go_at_call 51; (with_reducible refine (HV1.out _ ?_).mono ?_); (repeat (first | (with_reducible exact Ok.refl _) | (with_reducible refine Ok.drew ?_) | (with_reducible refine Ok.trans ?_ (by assumption)))); rintro e wc1 ⟨rfl, hbc1⟩)
      | (go_at_call 52; (with_reducible refine (HV2.out _ ?_).mono ?_); (repeat (first | (with_reducible exact Ok.refl _) | (with_reducible refine Ok.drew ?_) | (with_reducible refine Ok.trans ?_ (by assumption)))); rintro e wc2 ⟨rfl, hbc2⟩)
      | (go_at_call 53; (with_reducible refine (HH1.out _ ?_).mono ?_); (repeat (first | (with_reducible exact Ok.refl _) | (with_reducible refine Ok.drew ?_) | (with_reducible refine Ok.trans ?_ (by assumption)))); rintro e wc3 ⟨rfl, hbc3⟩)
      | (go_at_call 54; (with_reducible refine (HH2.out _ ?_).mono ?_); (repeat (first | (with_reducible exact Ok.refl _) | (with_reducible refine Ok.drew ?_) | (with_reducible refine Ok.trans ?_ (by assumption)))); rintro e wc4 ⟨rfl, hbc4⟩)
      | (go_at_call 56; (with_reducible refine (HN1.out _ ?_).mono ?_); (repeat (first | (with_reducible exact Ok.refl _) | (with_reducible refine Ok.drew ?_) | (with_reducible refine Ok.trans ?_ (by assumption)))); rintro e wc5 ⟨NA, NAc, NAl, rfl, NAi, NAn, hbc5⟩)
      | (go_at_call 57; (with_reducible refine (HN2.out _ ?_).mono ?_); (repeat (first | (with_reducible exact Ok.refl _) | (with_reducible refine Ok.drew ?_) | (with_reducible refine Ok.trans ?_ (by assumption)))); rintro e wc6 ⟨NB, NBc, NBl, rfl, NBi, NBn, hbc6⟩)
      | (go_at_call 55; (with_reducible refine (HSM.out _ _ _ _ _ _ _ ?_ NAi NAn ?_ NBi NBn).mono ?_); (repeat (first | (with_reducible exact Ok.refl _) | (with_reducible refine Ok.drew ?_) | (with_reducible refine Ok.trans ?_ (by assumption)))); rintro e wc7 ⟨rfl, hbc7⟩)))
  have HK15 : Hid (Ok w13 wc7) := Lib.hid (HK14.out.trans (by (repeat (first | (with_reducible exact Ok.refl _) | (with_reducible refine Ok.drew ?_) | (with_reducible refine Ok.trans ?_ (by assumption))))))
  clear hbc1 hbc2 hbc3 hbc4 hbc5 hbc6 hbc7 NAi NAn NBi NBn HV1 HV2 HH1 HH2 HN1 HN2 HSM e5 e6 HI14 HT14 HW14 HCI14 HK14
  have HO5 : Hid (Ok w5 wc7) := Lib.hid (HK7.out.trans (HK9.out.trans (HK11.out.trans (HK13.out.trans HK15.out))))
  have HO7 : Hid (Ok w7 wc7) := Lib.hid (HK9.out.trans (HK11.out.trans (HK13.out.trans HK15.out)))
  have HO9 : Hid (Ok w9 wc7) := Lib.hid (HK11.out.trans (HK13.out.trans HK15.out))
  have HO11 : Hid (Ok w11 wc7) := Lib.hid (HK13.out.trans HK15.out)
  obtain ⟨hx0, hx1, hx2, hx3⟩ := HD13.out.ok HK15.out
  go_wp2_with fail
  clear hx0 hx1 hx2 hx3
  refine (overConfig_w w5.heap.size w6.heap.size D0 D1 D2 D3 p0 d0 p1 d1 p2 d2 p3 d3 wc7 (HR0.out.stay HO7.out.stay) (HR1.out.stay HO7.out.stay) (HR2.out.stay HO7.out.stay) (HR3.out.stay HO7.out.stay) HO5.out.size (Nat.le_trans (Nat.le_of_lt HL7.out) HO7.out.size)).mono ?_
  intro e w16 h16
  obtain ⟨rfl, hb16, hs16, hf16⟩ := OverCP.of h16
  have HB16 := Lib.hid hb16
  have HS16 := Lib.hid hs16
  have HX16 := Lib.hid (hf16.at (HX13.out.ok HK15.out) (Nat.le_trans (Nat.le_of_lt HL7.out) (Nat.le_trans HK9.out.size HB11.out)))
  clear h16 hb16 hs16 hf16
  have HZ16 : Hid (wc7.heap.size ≤ w16.heap.size) := Lib.hid HB16.out.size
  obtain ⟨hx0, hx1, hx2, hx3⟩ := HX16.out
  go_wp2_with fail
  clear hx0 hx1 hx2 hx3
  refine (overConfig_w w9.heap.size w10.heap.size X0 X1 X2 X3 x0 y0 x1 y1 x2 y2 x3 y3 w16 ((HS0'.out.stay HO11.out.stay).stay HS16.out) ((HS1'.out.stay HO11.out.stay).stay HS16.out) ((HS2'.out.stay HO11.out.stay).stay HS16.out) ((HS3'.out.stay HO11.out.stay).stay HS16.out) (Nat.le_trans HO9.out.size HZ16.out) (Nat.le_trans (Nat.le_of_lt HL11.out) (Nat.le_trans HO11.out.size HZ16.out))).mono ?_
  intro e w17 h17
  obtain ⟨rfl, hb17, -, -⟩ := OverCP.of h17
  have HO17 : Hid (Ok w5 w17) := Lib.hid (Below.trans HO5.out (Below.trans HB16.out (hb17.mono (Nat.le_trans HK7.out.size HK9.out.size))))
  clear h17 hb17
  obtain ⟨hx0, hx1, hx2, hx3⟩ := HA5.out.ok HO17.out
  obtain ⟨hc0, hc1, hc2, hc3⟩ := HT0.out.ok (HK5.out.trans HO17.out)
  go_wp2_with fail
  clear hx0 hx1 hx2 hx3 hc0 hc1 hc2 hc3
  refine (keptConfig_w _ _ c _ w17 (HLI5.out.ok HO17.out) ((HOK0.out.trans (HK5.out.trans HO17.out)).cfg HC0.out)).mono ?_
  rintro e w18 ⟨rfl, hok⟩
  have HO18 : Hid (Ok w5 w18) := Lib.hid (HO17.out.trans hok)
  clear hok
  go_wp2_with fail
  refine (keptInts_w _ _ s w18 _ (HLL5.out.ok HO18.out) ((HOK0.out.trans (HK5.out.trans HO18.out)).ints HS0.out)).mono ?_
  rintro e w19 ⟨rfl, hok⟩
  have HO19 : Hid (Ok w5 w19) := Lib.hid (HO18.out.trans hok)
  clear hok
  go_wp2_with fail
  go_ret
  exact ⟨rfl, HOK0.out.trans (HK5.out.trans HO19.out)⟩
end Go.Proofs.Ytolfdncmlfnbdaa
