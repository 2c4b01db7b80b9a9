/- Contracts: whether a node votes, or is had. -/
import Derived.Test.YtmbnknbbfipciaaQj
namespace Go.Proofs.Ytmbnknbbfipciaa
open Go.RowKit

def votesB (c : Cfg) (n : Int) : Bool := inB n c.vs || inB n c.os
def hasB (c : Cfg) (n : Int) : Bool := votesB c n || inB n c.ls

set_option maxRecDepth 100000 in
set_option maxHeartbeats 2000000 in
theorem votes_q (v : Value) (c : Cfg) (n : Int) (W : World) (h : CfgIn W v c) :
    Calls Try.prog 51 #[v, .int .i64 n] W fun e w' => e = .returned (.bool (votesB c n)) ∧ Ok W w' := by
  obtain ⟨A0, c0, A1, c1, A2, c2, A3, c3, rfl, h1, h2, _, _⟩ := h.forms
  have H1 := Lib.hid h1
  have H2 := Lib.hid h2
  clear h h1 h2
  have HD : Hid (votesB c n = (inB n c.vs || inB n c.os)) := Lib.hid rfl
  have HAT0 : Hid (At (W.alloc (.cells #[.slice A0 c.vs.length c0, .slice A1 c.os.length c1, .slice A2 c.ls.length c2, .slice A3 c.ws.length c3] 76)) W.heap.size (.slice A0 c.vs.length c0) (.slice A1 c.os.length c1) (.slice A2 c.ls.length c2) (.slice A3 c.ws.length c3)) := Lib.hid (At.new _ _ _ _ _ _)
  have HOK0 : Hid (Ok W (W.alloc (.cells #[.slice A0 c.vs.length c0, .slice A1 c.os.length c1, .slice A2 c.ls.length c2, .slice A3 c.ws.length c3] 76))) := Lib.hid (ok1 _ _)
  generalize c.vs.length = n0 at *
  generalize c.os.length = n1 at *
  generalize c.ls.length = n2 at *
  generalize c.ws.length = n3 at *
  go_enter Try.func51, Try.ntmps51
  go_wp2_with fail
  generalize (W.alloc (.cells #[.slice A0 n0 c0, .slice A1 n1 c1, .slice A2 n2 c2, .slice A3 n3 c3] 76)) = W1 at *
  obtain ⟨hc0, hc1, hc2, hc3⟩ := HAT0.out
  refine (contains_q _ n c.vs W1 (HOK0.out.ints H1.out)).mono ?_
  rintro e w1 ⟨rfl, rfl⟩
  cases hi : inB n c.vs with
  | true =>
    rw [hi] at HD
    go_wp2_with fail
    go_ret
    exact ⟨by rw [HD.out]; rfl, HOK0.out⟩
  | false =>
    rw [hi] at HD
    go_wp2_with fail
    refine (contains_q _ n c.os W1 (HOK0.out.ints H2.out)).mono ?_
    rintro e w1 ⟨rfl, rfl⟩
    go_wp2_with fail
    go_ret
    exact ⟨by rw [HD.out]; rfl, HOK0.out⟩

set_option maxRecDepth 100000 in
set_option maxHeartbeats 2000000 in
theorem votesC_q (v : Value) (c : Cfg) (n : Int) (W : World) (h : CfgIn W v c) :
    Calls Try.prog 32 #[v, .int .i64 n] W fun e w' => e = .returned (.bool (votesB c n)) ∧ Ok W w' := by
  obtain ⟨A0, c0, A1, c1, A2, c2, A3, c3, rfl, _⟩ := h.forms
  have HC := Lib.hid h
  clear h
  have HOK0 : Hid (Ok W (W.alloc (.cells #[.slice A0 c.vs.length c0, .slice A1 c.os.length c1, .slice A2 c.ls.length c2, .slice A3 c.ws.length c3] 48))) := Lib.hid (ok1 _ _)
  generalize c.vs.length = n0 at *
  generalize c.os.length = n1 at *
  generalize c.ls.length = n2 at *
  generalize c.ws.length = n3 at *
  go_enter Try.func32, Try.ntmps32
  go_wp2_with fail
  refine (votes_q _ c n _ (HOK0.out.cfg HC.out)).mono ?_
  rintro e w1 ⟨rfl, hok⟩
  have HO1 := Lib.hid (HOK0.out.trans hok)
  clear hok
  go_wp2_with fail
  go_ret
  exact ⟨rfl, HO1.out⟩

set_option maxRecDepth 100000 in
set_option maxHeartbeats 2000000 in
theorem has_q (v : Value) (c : Cfg) (n : Int) (W : World) (h : CfgIn W v c) :
    Calls Try.prog 31 #[v, .int .i64 n] W fun e w' => e = .returned (.bool (hasB c n)) ∧ Ok W w' := by
  obtain ⟨A0, c0, A1, c1, A2, c2, A3, c3, rfl, _, _, h3, _⟩ := h.forms
  have HC := Lib.hid h
  have H3 := Lib.hid h3
  clear h h3
  have HD : Hid (hasB c n = (votesB c n || inB n c.ls)) := Lib.hid rfl
  have HAT0 := Lib.hid (At.two W #[.slice A0 c.vs.length c0, .slice A1 c.os.length c1, .slice A2 c.ls.length c2, .slice A3 c.ws.length c3] (.slice A0 c.vs.length c0) (.slice A1 c.os.length c1) (.slice A2 c.ls.length c2) (.slice A3 c.ws.length c3) 76 48)
  have HOK0 : Hid (Ok W ((W.alloc (.cells #[.slice A0 c.vs.length c0, .slice A1 c.os.length c1, .slice A2 c.ls.length c2, .slice A3 c.ws.length c3] 48)).alloc (.cells #[.slice A0 c.vs.length c0, .slice A1 c.os.length c1, .slice A2 c.ls.length c2, .slice A3 c.ws.length c3] 76))) := Lib.hid (((Ok.refl W).alloc _).alloc _)
  generalize c.vs.length = n0 at *
  generalize c.os.length = n1 at *
  generalize c.ls.length = n2 at *
  generalize c.ws.length = n3 at *
  go_enter Try.func31, Try.ntmps31
  go_wp2_with fail
  generalize ((W.alloc (.cells #[.slice A0 n0 c0, .slice A1 n1 c1, .slice A2 n2 c2, .slice A3 n3 c3] 48)).alloc (.cells #[.slice A0 n0 c0, .slice A1 n1 c1, .slice A2 n2 c2, .slice A3 n3 c3] 76)) = W1 at *
  refine (votes_q _ c n W1 (HOK0.out.cfg HC.out)).mono ?_
  rintro e w1 ⟨rfl, hok⟩
  obtain ⟨hc0, hc1, hc2, hc3⟩ := HAT0.out.ok hok
  have HO1 := Lib.hid (HOK0.out.trans hok)
  clear hok
  cases hi : votesB c n with
  | true =>
    rw [hi] at HD
    go_wp2_with fail
    go_ret
    exact ⟨by rw [HD.out]; rfl, HO1.out⟩
  | false =>
    rw [hi] at HD
    go_wp2_with fail
    refine (contains_q _ n c.ls w1 (HO1.out.ints H3.out)).mono ?_
    rintro e w1 ⟨rfl, rfl⟩
    go_wp2_with fail
    go_ret
    exact ⟨by rw [HD.out]; rfl, HO1.out⟩

theorem CfgIn.inv {w : World} {a b d e : Value} {c : Cfg} (h : CfgIn w (.agg #[a, b, d, e]) c) : InI w a c.vs ∧ InI w b c.os ∧ InI w d c.ls ∧ InI w e c.ws := by
  obtain ⟨a', b', d', e', he, h1, h2, h3, h4⟩ := h
  simp at he
  obtain ⟨rfl, rfl, rfl, rfl⟩ := he
  exact ⟨h1, h2, h3, h4⟩
theorem has_want (vs want : List Int) (y : Int) (h : y ∈ want) : hasB ⟨vs, [], newsL vs want, want⟩ y = true := by
  unfold hasB votesB
  cases hv : inB y vs with
  | true => simp
  | false =>
    have : inB y (newsL vs want) = true := decide_eq_true (List.mem_filter.2 ⟨h, by rw [hv]; rfl⟩)
    simp [this]
theorem votes_want (vs want : List Int) (y : Int) (h : y ∈ want) : votesB ⟨want, vs, [], want⟩ y = true := by
  unfold votesB
  have : inB y want = true := decide_eq_true h
  rw [this]; rfl
end Go.Proofs.Ytmbnknbbfipciaa
