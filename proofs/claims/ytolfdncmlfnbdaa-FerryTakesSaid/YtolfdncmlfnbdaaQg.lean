/- Contracts of the law's own helpers: is it too great; have two sets one of a row in both; are two configurations the same. -/
import Derived.Test.YtolfdncmlfnbdaaQf
namespace Go.Proofs.Ytolfdncmlfnbdaa
open Go.RowKit

def greatB (c : Cfg) (s : List Int) : Bool := decide (40 < c.vs.length) || decide (40 < c.os.length) || decide (40 < c.ls.length) || decide (40 < c.ws.length) || decide (40 < s.length)

set_option maxRecDepth 100000 in
set_option maxHeartbeats 4000000 in
theorem great_q (v vs : Value) (c : Cfg) (s : List Int) (W : World) (h : CfgIn W v c) (hs : InI W vs s) :
    Calls Try.prog 39 #[v, vs] W fun e w' => e = .returned (.bool (greatB c s)) ∧ Ok W w' := by
  obtain ⟨A0, c0, A1, c1, A2, c2, A3, c3, rfl, h1, h2, h3, h4⟩ := h.forms
  obtain ⟨B, cb, rfl, _⟩ := hs.form
  clear h h1 h2 h3 h4 hs
  have HD : Hid (greatB c s = (decide (40 < c.vs.length) || decide (40 < c.os.length) || decide (40 < c.ls.length) || decide (40 < c.ws.length) || decide (40 < s.length))) := Lib.hid rfl
  have HOK0 : Hid (Ok W (W.alloc (.cells #[.slice A0 c.vs.length c0, .slice A1 c.os.length c1, .slice A2 c.ls.length c2, .slice A3 c.ws.length c3] 71))) := Lib.hid ((Ok.refl W).alloc _)
  generalize c.vs.length = n0 at *
  generalize c.os.length = n1 at *
  generalize c.ls.length = n2 at *
  generalize c.ws.length = n3 at *
  generalize s.length = n4 at *
  by_cases h0 : 40 < n0
  · have hd : decide (40 < n0) = true := decide_eq_true h0
    have hi : decide ((40 : Int) < (n0 : Int)) = true := decide_eq_true (by omega)
    rw [hd] at HD
    go_enter Try.func39, Try.ntmps39
    go_wp2_with fail
    go_ret
    exact ⟨by rw [HD.out]; simp, HOK0.out⟩
  have hd0 : decide (40 < n0) = false := decide_eq_false h0
  have hi0 : decide ((40 : Int) < (n0 : Int)) = false := decide_eq_false (by omega)
  rw [hd0] at HD
  by_cases h1 : 40 < n1
  · have hd : decide (40 < n1) = true := decide_eq_true h1
    have hi : decide ((40 : Int) < (n1 : Int)) = true := decide_eq_true (by omega)
    rw [hd] at HD
    go_enter Try.func39, Try.ntmps39
    go_wp2_with fail
    go_ret
    exact ⟨by rw [HD.out]; simp, HOK0.out⟩
  have hd1 : decide (40 < n1) = false := decide_eq_false h1
  have hi1 : decide ((40 : Int) < (n1 : Int)) = false := decide_eq_false (by omega)
  rw [hd1] at HD
  by_cases h2 : 40 < n2
  · have hd : decide (40 < n2) = true := decide_eq_true h2
    have hi : decide ((40 : Int) < (n2 : Int)) = true := decide_eq_true (by omega)
    rw [hd] at HD
    go_enter Try.func39, Try.ntmps39
    go_wp2_with fail
    go_ret
    exact ⟨by rw [HD.out]; simp, HOK0.out⟩
  have hd2 : decide (40 < n2) = false := decide_eq_false h2
  have hi2 : decide ((40 : Int) < (n2 : Int)) = false := decide_eq_false (by omega)
  rw [hd2] at HD
  by_cases h3 : 40 < n3
  · have hd : decide (40 < n3) = true := decide_eq_true h3
    have hi : decide ((40 : Int) < (n3 : Int)) = true := decide_eq_true (by omega)
    rw [hd] at HD
    go_enter Try.func39, Try.ntmps39
    go_wp2_with fail
    go_ret
    exact ⟨by rw [HD.out]; simp, HOK0.out⟩
  have hd3 : decide (40 < n3) = false := decide_eq_false h3
  have hi3 : decide ((40 : Int) < (n3 : Int)) = false := decide_eq_false (by omega)
  rw [hd3] at HD
  by_cases h4 : 40 < n4
  · have hd : decide (40 < n4) = true := decide_eq_true h4
    have hi : decide ((40 : Int) < (n4 : Int)) = true := decide_eq_true (by omega)
    rw [hd] at HD
    go_enter Try.func39, Try.ntmps39
    go_wp2_with fail
    go_ret
    exact ⟨by rw [HD.out]; simp, HOK0.out⟩
  have hd4 : decide (40 < n4) = false := decide_eq_false h4
  have hi4 : decide ((40 : Int) < (n4 : Int)) = false := decide_eq_false (by omega)
  rw [hd4] at HD
  go_enter Try.func39, Try.ntmps39
  go_wp2_with fail
  go_ret
  exact ⟨by rw [HD.out]; simp, HOK0.out⟩

theorem inB_take (x : Int) (l : List Int) (k : Nat) (h : k < l.length) : inB x (l.take (k + 1)) = (inB x (l.take k) || (l.getD k 0 == x)) := by
  rw [List.take_succ_eq_append_getElem h]
  have e : l.getD k 0 = l[k] := by simp [h]
  rw [e]
  generalize l.take k = t
  generalize l[k] = z
  unfold inB
  by_cases h1 : x ∈ t
  · simp [h1]
  · by_cases h2 : x = z
    · simp [h2]
    · have h3 : (z == x) = false := beq_eq_false_iff_ne.2 (fun e => h2 e.symm)
      simp [h1, h2, h3]
theorem bothB_take (l a b : List Int) (k : Nat) (h : k < l.length) : bothB (l.take (k + 1)) a b = (bothB (l.take k) a b || (inB (l.getD k 0) a && inB (l.getD k 0) b)) := by
  rw [List.take_succ_eq_append_getElem h]
  have e : l.getD k 0 = l[k] := by simp [h]
  rw [e]
  generalize l.take k = t
  generalize l[k] = z
  simp [bothB]
theorem bothB_mem (l a b : List Int) (k : Nat) (h : k < l.length) (h1 : inB (l.getD k 0) a = true) (h2 : inB (l.getD k 0) b = true) : bothB l a b = true := by
  rw [bothB, List.any_eq_true]
  exact ⟨l.getD k 0, getD_mem l k h, by rw [h1, h2]; rfl⟩

end Go.Proofs.Ytolfdncmlfnbdaa
