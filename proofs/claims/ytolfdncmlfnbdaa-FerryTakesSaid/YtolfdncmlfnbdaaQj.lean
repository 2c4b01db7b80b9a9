/- The law's own example, walked: it tells true. -/
import Derived.Test.YtolfdncmlfnbdaaQi
namespace Go.Proofs.Ytolfdncmlfnbdaa
open Go.RowKit

set_option maxRecDepth 100000 in
set_option maxHeartbeats 1000000 in
theorem same_q (va vb : Value) (a b : Cfg) (W : World) (ha : CfgIn W va a) (hb : CfgIn W vb b) :
    Calls Try.prog 46 #[va, vb] W fun e w' => e = .returned (.bool (sameC a b)) ∧ Ok W w' := by
  have HA := Lib.hid ha
  have HB := Lib.hid hb
  obtain ⟨A0, c0, A1, c1, A2, c2, A3, c3, rfl, _⟩ := ha.forms
  obtain ⟨B0, d0, B1, d1, B2, d2, B3, d3, rfl, _⟩ := hb.forms
  have HOK0 : Hid (Ok W ((W.alloc (.cells #[.slice A0 a.vs.length c0, .slice A1 a.os.length c1, .slice A2 a.ls.length c2, .slice A3 a.ws.length c3] 71)).alloc (.cells #[.slice B0 b.vs.length d0, .slice B1 b.os.length d1, .slice B2 b.ls.length d2, .slice B3 b.ws.length d3] 71))) := Lib.hid (((Ok.refl W).alloc _).alloc _)
  clear ha hb
  generalize a.vs.length = n0 at *
  generalize a.os.length = n1 at *
  generalize a.ls.length = n2 at *
  generalize a.ws.length = n3 at *
  generalize b.vs.length = m0 at *
  generalize b.os.length = m1 at *
  generalize b.ls.length = m2 at *
  generalize b.ws.length = m3 at *
  go_enter Try.func46, Try.ntmps46
  go_wp2_with fail
  refine (sameConfig_q _ _ a b _ (HOK0.out.cfg HA.out) (HOK0.out.cfg HB.out)).mono ?_
  rintro e w1 ⟨rfl, hok⟩
  have HO1 : Hid (Ok W w1) := Lib.hid (HOK0.out.trans hok)
  clear hok
  go_wp2_with fail
  go_ret
  exact ⟨rfl, HO1.out⟩

theorem row_new (w : World) (xs : List Int) (cells : Array Value) (g n : Nat) (hg : g = w.heap.size) (hn : n = xs.length) (h : xs.length ≤ 1000) (hc : cells.toList = xs.map zv) :
    InI (w.alloc (.cells cells 3)) (.slice (some ⟨g, 0, none⟩) n n) xs := ints_new w xs cells 3 _ g n n hg hn (Nat.le_refl _) (by omega) hc
theorem CfgIn.form {w : World} {v : Value} {c : Cfg} (h : CfgIn w v c) : ∃ A0 n0 c0 A1 n1 c1 A2 n2 c2 A3 n3 c3, v = .agg #[.slice A0 n0 c0, .slice A1 n1 c1, .slice A2 n2 c2, .slice A3 n3 c3] := by
  obtain ⟨A0, c0, A1, c1, A2, c2, A3, c3, rfl, _⟩ := h.forms
  exact ⟨_, _, _, _, _, _, _, _, _, _, _, _, rfl⟩
theorem ok1 (w : World) (o : Obj) : Ok w (w.alloc o) := (Ok.refl w).alloc o

theorem ex1 : beginE ⟨[1, 2, 3], [], [], []⟩ [3, 4] = 0 := by decide +kernel
theorem ex2 : beginC ⟨[1, 2, 3], [], [], []⟩ [3, 4] = ⟨[1, 2, 3], [], [4], [3, 4]⟩ := by rw [(steps ex1).1]; rfl
theorem ex3 : nextC ⟨[1, 2, 3], [], [4], [3, 4]⟩ = some ⟨[3, 4], [1, 2, 3], [], [3, 4]⟩ := (steps ex1).2.2.1
theorem ex4 : nextC ⟨[3, 4], [1, 2, 3], [], [3, 4]⟩ = some ⟨[3, 4], [], [], []⟩ := (steps ex1).2.2.2.2.1

theorem ex5 : sameC ⟨[1, 2, 3], [], [4], [3, 4]⟩ ⟨[1, 2, 3], [], [4], [3, 4]⟩ = true := by decide +kernel
theorem ex6 : sameC ⟨[3, 4], [1, 2, 3], [], [3, 4]⟩ ⟨[3, 4], [1, 2, 3], [], [3, 4]⟩ = true := by decide +kernel
theorem ex7 : sameC ⟨[3, 4], [], [], []⟩ ⟨[3, 4], [], [], []⟩ = true := by decide +kernel

set_option maxRecDepth 100000 in
set_option maxHeartbeats 8000000 in
theorem awake_q (W : World) : Calls Try.prog 38 #[] W fun e w' => e = .returned (.bool true) ∧ Ok W w' := by
  have HOK0 : Hid (Ok W ((W.alloc (.cells #[.int .i64 1, .int .i64 2, .int .i64 3] 3)).alloc (.cells #[.int .i64 3, .int .i64 4] 3))) := Lib.hid (((Ok.refl W).alloc _).alloc _)
  have HI1 : Hid (InI ((W.alloc (.cells #[.int .i64 1, .int .i64 2, .int .i64 3] 3)).alloc (.cells #[.int .i64 3, .int .i64 4] 3)) (.slice (some ⟨W.heap.size, 0, none⟩) 3 3) [1, 2, 3]) := Lib.hid ((ok1 _ _).ints (row_new W [1, 2, 3] _ _ _ rfl rfl (by decide) rfl))
  have HI2 : Hid (InI ((W.alloc (.cells #[.int .i64 1, .int .i64 2, .int .i64 3] 3)).alloc (.cells #[.int .i64 3, .int .i64 4] 3)) (.slice (some ⟨W.heap.size + 1, 0, none⟩) 2 2) [3, 4]) := Lib.hid (row_new _ [3, 4] _ _ _ (by rw [World.size_alloc]) rfl (by decide) rfl)
  go_enter Try.func38, Try.ntmps38
  go_wp2_with fail
  generalize ((W.alloc (.cells #[.int .i64 1, .int .i64 2, .int .i64 3] 3)).alloc (.cells #[.int .i64 3, .int .i64 4] 3)) = W1 at *
  refine (begin_q _ _ ⟨[1, 2, 3], [], [], []⟩ [3, 4] W1 ⟨_, _, _, _, rfl, HI1.out, InI.nil _, InI.nil _, InI.nil _⟩ HI2.out).mono ?_
  rintro e w1 ⟨v, rfl, hc, hok⟩
  rw [ex1]
  rw [ex2] at hc
  obtain ⟨A0, n0, c0, A1, n1, c1, A2, n2, c2, A3, n3, c3, rfl⟩ := hc.form
  have HO1 : Hid (Ok W w1) := Lib.hid (HOK0.out.trans hok)
  have HC1 : Hid (CfgIn (w1.alloc (.cells #[.slice A0 n0 c0, .slice A1 n1 c1, .slice A2 n2 c2, .slice A3 n3 c3] 71)) (.agg #[.slice A0 n0 c0, .slice A1 n1 c1, .slice A2 n2 c2, .slice A3 n3 c3]) ⟨[1, 2, 3], [], [4], [3, 4]⟩) := Lib.hid ((ok1 _ _).cfg hc)
  have HT1 : Hid (At (w1.alloc (.cells #[.slice A0 n0 c0, .slice A1 n1 c1, .slice A2 n2 c2, .slice A3 n3 c3] 71)) w1.heap.size (.slice A0 n0 c0) (.slice A1 n1 c1) (.slice A2 n2 c2) (.slice A3 n3 c3)) := Lib.hid (At.new _ _ _ _ _ _)
  have HK1 := Lib.hid (HO1.out.trans (ok1 w1 (.cells #[.slice A0 n0 c0, .slice A1 n1 c1, .slice A2 n2 c2, .slice A3 n3 c3] 71)))
  clear hc hok HI1 HI2 HOK0 HO1
  go_wp2_with fail
  generalize (w1.alloc (.cells #[.slice A0 n0 c0, .slice A1 n1 c1, .slice A2 n2 c2, .slice A3 n3 c3] 71)) = x1 at *
  refine (next_q _ ⟨[1, 2, 3], [], [4], [3, 4]⟩ x1 HC1.out).mono ?_
  rintro e w2 ⟨v, rfl, hc, hok⟩
  rw [ex3] at hc ⊢
  simp only [Option.getD_some, Option.isSome_some] at hc ⊢
  obtain ⟨B0, p0, d0, B1, p1, d1, B2, p2, d2, B3, p3, d3, rfl⟩ := hc.form
  have HC2 : Hid (CfgIn (w2.alloc (.cells #[.slice B0 p0 d0, .slice B1 p1 d1, .slice B2 p2 d2, .slice B3 p3 d3] 71)) (.agg #[.slice B0 p0 d0, .slice B1 p1 d1, .slice B2 p2 d2, .slice B3 p3 d3]) ⟨[3, 4], [1, 2, 3], [], [3, 4]⟩) := Lib.hid ((ok1 _ _).cfg hc)
  have HT2 : Hid (At (w2.alloc (.cells #[.slice B0 p0 d0, .slice B1 p1 d1, .slice B2 p2 d2, .slice B3 p3 d3] 71)) w2.heap.size (.slice B0 p0 d0) (.slice B1 p1 d1) (.slice B2 p2 d2) (.slice B3 p3 d3)) := Lib.hid (At.new _ _ _ _ _ _)
  have HK2 := Lib.hid (hok.trans (ok1 w2 (.cells #[.slice B0 p0 d0, .slice B1 p1 d1, .slice B2 p2 d2, .slice B3 p3 d3] 71)))
  clear hc hok
  go_wp2_with fail
  generalize (w2.alloc (.cells #[.slice B0 p0 d0, .slice B1 p1 d1, .slice B2 p2 d2, .slice B3 p3 d3] 71)) = x2 at *
  refine (next_q _ ⟨[3, 4], [1, 2, 3], [], [3, 4]⟩ x2 HC2.out).mono ?_
  rintro e w3 ⟨v, rfl, hc, hok⟩
  rw [ex4] at hc ⊢
  simp only [Option.getD_some, Option.isSome_some] at hc ⊢
  obtain ⟨C0, q0, e0, C1, q1, e1, C2, q2, e2, C3, q3, e3, rfl⟩ := hc.form
  have HC3 : Hid (CfgIn (w3.alloc (.cells #[.slice C0 q0 e0, .slice C1 q1 e1, .slice C2 q2 e2, .slice C3 q3 e3] 71)) (.agg #[.slice C0 q0 e0, .slice C1 q1 e1, .slice C2 q2 e2, .slice C3 q3 e3]) ⟨[3, 4], [], [], []⟩) := Lib.hid ((ok1 _ _).cfg hc)
  have HT3 : Hid (At (w3.alloc (.cells #[.slice C0 q0 e0, .slice C1 q1 e1, .slice C2 q2 e2, .slice C3 q3 e3] 71)) w3.heap.size (.slice C0 q0 e0) (.slice C1 q1 e1) (.slice C2 q2 e2) (.slice C3 q3 e3)) := Lib.hid (At.new _ _ _ _ _ _)
  have HK3 := Lib.hid (hok.trans (ok1 w3 (.cells #[.slice C0 q0 e0, .slice C1 q1 e1, .slice C2 q2 e2, .slice C3 q3 e3] 71)))
  have HK13 := Lib.hid (HK2.out.trans HK3.out)
  obtain ⟨hc0, hc1, hc2, hc3⟩ := HT1.out.ok HK13.out
  clear hc hok
  go_wp2_with fail
  refine (same_q _ _ ⟨[1, 2, 3], [], [4], [3, 4]⟩ ⟨[1, 2, 3], [], [4], [3, 4]⟩ _ ((((HK13.out.trans (ok1 _ _)).trans (ok1 _ _)).trans (ok1 _ _)).cfg HC1.out)
    ⟨_, _, _, _, rfl, (ok1 _ _).ints ((ok1 _ _).ints (row_new _ [1, 2, 3] _ _ _ (by rw [World.size_alloc]) rfl (by decide) rfl)), InI.nil _, (ok1 _ _).ints (row_new _ [4] _ _ _ (by rw [World.size_alloc, World.size_alloc]) rfl (by decide) rfl), row_new _ [3, 4] _ _ _ (by rw [World.size_alloc, World.size_alloc, World.size_alloc]) rfl (by decide) rfl⟩).mono ?_
  rintro e w4 ⟨rfl, hok⟩
  rw [ex5]
  have HK4 := Lib.hid ((((ok1 _ _).trans (ok1 _ _)).trans (ok1 _ _)).trans hok)
  generalize (w3.alloc (.cells #[.slice C0 q0 e0, .slice C1 q1 e1, .slice C2 q2 e2, .slice C3 q3 e3] 71)) = x3 at *
  have HK24 := Lib.hid (HK3.out.trans HK4.out)
  clear hc0 hc1 hc2 hc3 hok
  obtain ⟨hc0, hc1, hc2, hc3⟩ := HT2.out.ok HK24.out
  go_wp2_with fail
  refine (same_q _ _ ⟨[3, 4], [1, 2, 3], [], [3, 4]⟩ ⟨[3, 4], [1, 2, 3], [], [3, 4]⟩ _ ((((HK24.out.trans (ok1 _ _)).trans (ok1 _ _)).trans (ok1 _ _)).cfg HC2.out)
    ⟨_, _, _, _, rfl, (ok1 _ _).ints ((ok1 _ _).ints (row_new _ [3, 4] _ _ _ rfl rfl (by decide) rfl)), (ok1 _ _).ints (row_new _ [1, 2, 3] _ _ _ (by rw [World.size_alloc]) rfl (by decide) rfl), InI.nil _, row_new _ [3, 4] _ _ _ (by rw [World.size_alloc, World.size_alloc]) rfl (by decide) rfl⟩).mono ?_
  rintro e w5 ⟨rfl, hok⟩
  rw [ex6]
  have HK5 := Lib.hid (HK4.out.trans ((((ok1 _ _).trans (ok1 _ _)).trans (ok1 _ _)).trans hok))
  clear hc0 hc1 hc2 hc3 hok
  obtain ⟨hc0, hc1, hc2, hc3⟩ := HT3.out.ok HK5.out
  go_wp2_with fail
  refine (same_q _ _ ⟨[3, 4], [], [], []⟩ ⟨[3, 4], [], [], []⟩ _ ((HK5.out.trans (ok1 _ _)).cfg HC3.out)
    ⟨_, _, _, _, rfl, row_new _ [3, 4] _ _ _ rfl rfl (by decide) rfl, InI.nil _, InI.nil _, InI.nil _⟩).mono ?_
  rintro e w6 ⟨rfl, hok⟩
  rw [ex7]
  go_wp2_with fail
  go_ret
  exact ⟨rfl, HK1.out.trans (HK2.out.trans (HK3.out.trans (HK5.out.trans ((ok1 _ _).trans hok))))⟩
end Go.Proofs.Ytolfdncmlfnbdaa
