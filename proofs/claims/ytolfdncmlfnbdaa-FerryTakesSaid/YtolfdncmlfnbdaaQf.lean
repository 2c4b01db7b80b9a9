/- Contracts: whether a configuration is right, and whether a set is enough of it. -/
import Derived.Test.YtolfdncmlfnbdaaQe
namespace Go.Proofs.Ytolfdncmlfnbdaa
open Go.RowKit

/-- A configuration laid twice. -/
theorem At.two (w : World) (cs : Array Value) (v0 v1 v2 v3 : Value) (t t' : TypeId) : At ((w.alloc (.cells cs t')).alloc (.cells #[v0, v1, v2, v3] t)) (w.heap.size + 1) v0 v1 v2 v3 := by
  have := At.new (w.alloc (.cells cs t')) v0 v1 v2 v3 t
  rwa [World.size_alloc] at this
theorem At.one (w : World) (o : Obj) (v0 v1 v2 v3 : Value) (t : TypeId) : At ((w.alloc (.cells #[v0, v1, v2, v3] t)).alloc o) w.heap.size v0 v1 v2 v3 :=
  (At.new w v0 v1 v2 v3 t).ok ((Ok.refl _).alloc _)

set_option maxRecDepth 100000 in
set_option maxHeartbeats 4000000 in
theorem right_q (v : Value) (c : Cfg) (W : World) (h : CfgIn W v c) :
    Calls Try.prog 47 #[v] W fun e w' => e = .returned (.bool (rightB c)) ∧ Ok W w' := by
  obtain ⟨A0, c0, A1, c1, A2, c2, A3, c3, rfl, h1, h2, h3, h4⟩ := h.forms
  have HC := Lib.hid h
  have H1 := Lib.hid h1
  have H2 := Lib.hid h2
  have H3 := Lib.hid h3
  have H4 := Lib.hid h4
  clear h h1 h2 h3 h4
  have HD : Hid (rightB c = if rowB c.vs && rowB c.os && rowB c.ls && rowB c.ws then (if noB c.vs then noB c.os && noB c.ls && noB c.ws else (noB c.os || !noB c.ws) && wantB c) else false) := Lib.hid rfl
  have HAT0 : Hid (At ((W.alloc (.cells #[.slice A0 c.vs.length c0, .slice A1 c.os.length c1, .slice A2 c.ls.length c2, .slice A3 c.ws.length c3] 71)).alloc (.cells #[.slice A0 c.vs.length c0, .slice A1 c.os.length c1, .slice A2 c.ls.length c2, .slice A3 c.ws.length c3] 157)) (W.heap.size + 1) (.slice A0 c.vs.length c0) (.slice A1 c.os.length c1) (.slice A2 c.ls.length c2) (.slice A3 c.ws.length c3)) := Lib.hid (At.two _ _ _ _ _ _ _ _)
  have HOK0 : Hid (Ok W ((W.alloc (.cells #[.slice A0 c.vs.length c0, .slice A1 c.os.length c1, .slice A2 c.ls.length c2, .slice A3 c.ws.length c3] 71)).alloc (.cells #[.slice A0 c.vs.length c0, .slice A1 c.os.length c1, .slice A2 c.ls.length c2, .slice A3 c.ws.length c3] 157))) := Lib.hid (((Ok.refl W).alloc _).alloc _)
  have hz0 := noB_int c.vs _ rfl
  have hz2 := noB_int c.ls _ rfl
  have hz3 := noB_int c.ws _ rfl
  have hp3 := noB_nat c.ws _ rfl
  have HL3 : Hid (rowB c.ws = true → c.ws.length ≤ 1000) := Lib.hid (fun h => Nat.le_trans (rowB_len _ h) (by decide))
  generalize hn0 : c.vs.length = n0 at *
  generalize hn1 : c.os.length = n1 at *
  generalize hn2 : c.ls.length = n2 at *
  generalize hn3 : c.ws.length = n3 at *
  have HN3 := Lib.hid hn3
  clear hn0 hn1 hn2 hn3
  go_enter Try.func47, Try.ntmps47
  go_wp2_with fail
  generalize ((W.alloc (.cells #[.slice A0 n0 c0, .slice A1 n1 c1, .slice A2 n2 c2, .slice A3 n3 c3] 71)).alloc (.cells #[.slice A0 n0 c0, .slice A1 n1 c1, .slice A2 n2 c2, .slice A3 n3 c3] 157)) = W1 at *
  have hat := HAT0.out
  obtain ⟨hc0, hc1, hc2, hc3⟩ := hat
  refine (row_q _ c.vs W1 (HOK0.out.ints H1.out)).mono ?_
  rintro e w1 ⟨rfl, rfl⟩
  cases hv : rowB c.vs with
  | false =>
    rw [hv] at HD
    go_wp2_with fail
    go_ret
    exact ⟨by rw [HD.out]; rfl, HOK0.out⟩
  | true =>
  rw [hv] at HD
  clear hv
  go_wp2_with fail
  refine (row_q _ c.os W1 (HOK0.out.ints H2.out)).mono ?_
  rintro e w1 ⟨rfl, rfl⟩
  cases hv : rowB c.os with
  | false =>
    rw [hv] at HD
    go_wp2_with fail
    go_ret
    exact ⟨by rw [HD.out]; rfl, HOK0.out⟩
  | true =>
  rw [hv] at HD
  clear hv
  go_wp2_with fail
  refine (row_q _ c.ls W1 (HOK0.out.ints H3.out)).mono ?_
  rintro e w1 ⟨rfl, rfl⟩
  cases hv : rowB c.ls with
  | false =>
    rw [hv] at HD
    go_wp2_with fail
    go_ret
    exact ⟨by rw [HD.out]; rfl, HOK0.out⟩
  | true =>
  rw [hv] at HD
  clear hv
  go_wp2_with fail
  refine (row_q _ c.ws W1 (HOK0.out.ints H4.out)).mono ?_
  rintro e w1 ⟨rfl, rfl⟩
  cases hv : rowB c.ws with
  | false =>
    rw [hv] at HD
    go_wp2_with fail
    go_ret
    exact ⟨by rw [HD.out]; rfl, HOK0.out⟩
  | true =>
  have HL := Lib.hid (HL3.out hv)
  rw [hv] at HD
  clear hv HL3
  cases he0 : noB c.vs with
  | true =>
    rw [he0] at HD hz0
    go_wp2_with fail
    refine (joint_q _ c W1 (HOK0.out.cfg HC.out)).mono ?_
    rintro e w1 ⟨rfl, hok1⟩
    obtain ⟨hd0, hd1, hd2, hd3⟩ := HAT0.out.ok hok1
    have HO1 : Hid (Ok W w1) := Lib.hid (HOK0.out.trans hok1)
    clear hok1 hc0 hc1 hc2 hc3
    cases he1 : noB c.os with
    | false =>
      rw [he1] at HD
      go_wp2_with fail
      go_ret
      exact ⟨by rw [HD.out]; rfl, HO1.out⟩
    | true =>
      rw [he1] at HD
      cases he2 : noB c.ls with
      | false =>
        rw [he2] at HD hz2
        go_wp2_with fail
        go_ret
        exact ⟨by rw [HD.out]; rfl, HO1.out⟩
      | true =>
        rw [he2] at HD hz2
        go_wp2_with fail
        go_ret
        exact ⟨by rw [HD.out]; rfl, HO1.out⟩
  | false =>
    rw [he0] at HD hz0
    go_wp2_with fail
    refine (joint_q _ c W1 (HOK0.out.cfg HC.out)).mono ?_
    rintro e w1 ⟨rfl, hok1⟩
    obtain ⟨hd0, hd1, hd2, hd3⟩ := HAT0.out.ok hok1
    have HO1 : Hid (Ok W w1) := Lib.hid (HOK0.out.trans hok1)
    clear hok1 hc0 hc1 hc2 hc3
    cases he1 : noB c.os with
    | true =>
      rw [he1] at HD
      go_wp2_with fail
      refine (wanting_q _ c w1 (HO1.out.cfg HC.out) (by rw [HN3.out]; exact HL.out)).mono ?_
      rintro e w2 ⟨rfl, hok2⟩
      have HO2 : Hid (Ok W w2) := Lib.hid (HO1.out.trans hok2)
      clear hok2
      go_wp2_with fail
      go_ret
      exact ⟨by rw [HD.out]; rfl, HO2.out⟩
    | false =>
      rw [he1] at HD
      cases he3 : noB c.ws with
      | true =>
        rw [he3] at HD hz3 hp3
        have hp3n : decide (0 < n3) = false := hp3
        have hp3i : decide ((0 : Int) < (n3 : Int)) = false := (decide_eq_decide.2 (by omega)).trans hp3n
        clear hp3
        go_wp2_with fail
        go_ret
        exact ⟨by rw [HD.out]; rfl, HO1.out⟩
      | false =>
        rw [he3] at HD hz3 hp3
        have hp3n : decide (0 < n3) = true := hp3
        have hp3i : decide ((0 : Int) < (n3 : Int)) = true := (decide_eq_decide.2 (by omega)).trans hp3n
        clear hp3
        go_wp2_with fail
        refine (wanting_q _ c w1 (HO1.out.cfg HC.out) (by rw [HN3.out]; exact HL.out)).mono ?_
        rintro e w2 ⟨rfl, hok2⟩
        have HO2 : Hid (Ok W w2) := Lib.hid (HO1.out.trans hok2)
        clear hok2
        go_wp2_with fail
        go_ret
        exact ⟨by rw [HD.out]; rfl, HO2.out⟩

set_option maxRecDepth 100000 in
set_option maxHeartbeats 4000000 in
theorem agrees_q (v vs : Value) (c : Cfg) (s : List Int) (W : World) (h : CfgIn W v c) (hs : InI W vs s) :
    Calls Try.prog 49 #[v, vs] W fun e w' => e = .returned (.bool (agreesB c s)) ∧ Ok W w' := by
  obtain ⟨A0, c0, A1, c1, A2, c2, A3, c3, rfl, h1, h2, h3, h4⟩ := h.forms
  obtain ⟨B, cb, rfl, _⟩ := hs.form
  have HC := Lib.hid h
  have H1 := Lib.hid h1
  have H2 := Lib.hid h2
  have HS := Lib.hid hs
  clear h h1 h2 h3 h4 hs
  have HD : Hid (agreesB c s = if rightB c && !noB c.vs then mostB c.vs s && (noB c.os || mostB c.os s) else false) := Lib.hid rfl
  have HAT0 : Hid (At ((W.alloc (.cells #[.slice A0 c.vs.length c0, .slice A1 c.os.length c1, .slice A2 c.ls.length c2, .slice A3 c.ws.length c3] 71)).alloc (.cells #[.slice A0 c.vs.length c0, .slice A1 c.os.length c1, .slice A2 c.ls.length c2, .slice A3 c.ws.length c3] 157)) (W.heap.size + 1) (.slice A0 c.vs.length c0) (.slice A1 c.os.length c1) (.slice A2 c.ls.length c2) (.slice A3 c.ws.length c3)) := Lib.hid (At.two _ _ _ _ _ _ _ _)
  have HOK0 : Hid (Ok W ((W.alloc (.cells #[.slice A0 c.vs.length c0, .slice A1 c.os.length c1, .slice A2 c.ls.length c2, .slice A3 c.ws.length c3] 71)).alloc (.cells #[.slice A0 c.vs.length c0, .slice A1 c.os.length c1, .slice A2 c.ls.length c2, .slice A3 c.ws.length c3] 157))) := Lib.hid (((Ok.refl W).alloc _).alloc _)
  have hz0 := noB_int c.vs _ rfl
  generalize c.vs.length = n0 at *
  generalize c.os.length = n1 at *
  generalize c.ls.length = n2 at *
  generalize c.ws.length = n3 at *
  generalize s.length = n4 at *
  go_enter Try.func49, Try.ntmps49
  go_wp2_with fail
  generalize ((W.alloc (.cells #[.slice A0 n0 c0, .slice A1 n1 c1, .slice A2 n2 c2, .slice A3 n3 c3] 71)).alloc (.cells #[.slice A0 n0 c0, .slice A1 n1 c1, .slice A2 n2 c2, .slice A3 n3 c3] 157)) = W1 at *
  refine (right_q _ c W1 (HOK0.out.cfg HC.out)).mono ?_
  rintro e w1 ⟨rfl, hok1⟩
  have hat := HAT0.out.ok hok1
  have HAT := Lib.hid hat
  obtain ⟨hc0, hc1, hc2, hc3⟩ := hat
  have HO1 : Hid (Ok W w1) := Lib.hid (HOK0.out.trans hok1)
  clear hok1
  cases hr : rightB c with
  | false =>
    rw [hr] at HD
    go_wp2_with fail
    go_ret
    exact ⟨by rw [HD.out]; rfl, HO1.out⟩
  | true =>
  rw [hr] at HD
  clear hr
  cases he0 : noB c.vs with
  | true =>
    rw [he0] at HD hz0
    go_wp2_with fail
    go_ret
    exact ⟨by rw [HD.out]; rfl, HO1.out⟩
  | false =>
    rw [he0] at HD hz0
    go_wp2_with fail
    refine (most_q _ _ c.vs s w1 (HO1.out.ints H1.out) (HO1.out.ints HS.out)).mono ?_
    rintro e w2 ⟨rfl, rfl⟩
    cases hm : mostB c.vs s with
    | false =>
      rw [hm] at HD
      go_wp2_with fail
      go_ret
      exact ⟨by rw [HD.out]; rfl, HO1.out⟩
    | true =>
      rw [hm] at HD
      go_wp2_with fail
      refine (joint_q _ c w1 (HO1.out.cfg HC.out)).mono ?_
      rintro e w2 ⟨rfl, hok2⟩
      obtain ⟨hd0, hd1, hd2, hd3⟩ := HAT.out.ok hok2
      have HO2 : Hid (Ok W w2) := Lib.hid (HO1.out.trans hok2)
      clear hok2 hc0 hc1 hc2 hc3
      cases he1 : noB c.os with
      | true =>
        rw [he1] at HD
        go_wp2_with fail
        go_ret
        exact ⟨by rw [HD.out]; rfl, HO2.out⟩
      | false =>
        rw [he1] at HD
        go_wp2_with fail
        refine (most_q _ _ c.os s w2 (HO2.out.ints H2.out) (HO2.out.ints HS.out)).mono ?_
        rintro e w3 ⟨rfl, rfl⟩
        go_wp2_with fail
        go_ret
        exact ⟨by rw [HD.out]; rfl, HO2.out⟩
end Go.Proofs.Ytolfdncmlfnbdaa
