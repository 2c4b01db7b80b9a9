/- Contracts of the small functions on texts and ends: what each call answers is what the plain mathematics says; of what was there nothing has turned. -/
import Derived.Test.YtebhcadolnjplaaGreatRows
import Derived.Test.YtebhcadolnjplaaGreatRp
import Derived.Test.YtebhcadolnjplaaGreatB
import Derived.WalkKit
import Derived.WalkSpells
import Derived.WalkLawsBesides
import Derived.RegionTactic
import Derived.ChangeAlike
import Derived.BigRegion
import Derived.Deep.QuietTactic
import Derived.BigQuiet
import Derived.Lib.Hide
import Derived.Lib.QuietBelow
import Derived.Handy
namespace Go.Proofs.YtebhcadolnjplaaGreat
open Go.RowKit

abbrev Ret (w : World) (v : Value) : Ending → World → Prop := fun e w' => e = .returned v ∧ Ok w w'

def spV (s : Sp) : Value := .agg #[.string s.lo, .string s.hi]
def endV (s : Str) : Value := .agg #[.string s]

set_option maxHeartbeats 400000 in
theorem letter_w (c : UInt8) (w : World) : Calls Tryz.prog 135 #[.int .u8 (c.toNat : Int)] w fun e w' => e = .returned (.bool (letterB c)) ∧ w' = w := by
  have h0 := c.toNat_lt
  by_cases h1 : 97 ≤ c.toNat
  · have d1 : decide ((97 : Int) ≤ (c.toNat : Int)) = true := decide_eq_true (by omega)
    by_cases h2 : c.toNat ≤ 122
    · have d2 : decide ((c.toNat : Int) ≤ 122) = true := decide_eq_true (by omega)
      have e : letterB c = true := by simp [letterB, h1, h2]
      rw [e]
      go_enter Tryz.func135, Tryz.ntmps135
      go_wp2
      go_ret
      exact ⟨rfl, rfl⟩
    · have d2 : decide ((c.toNat : Int) ≤ 122) = false := decide_eq_false (by omega)
      have d3 : decide ((48 : Int) ≤ (c.toNat : Int)) = true := decide_eq_true (by omega)
      have d4 : decide ((c.toNat : Int) ≤ 57) = false := decide_eq_false (by omega)
      have e : letterB c = false := by simp [letterB]; omega
      rw [e]
      go_enter Tryz.func135, Tryz.ntmps135
      go_wp2
      go_ret
      exact ⟨rfl, rfl⟩
  · have d1 : decide ((97 : Int) ≤ (c.toNat : Int)) = false := decide_eq_false (by omega)
    by_cases h3 : 48 ≤ c.toNat
    · have d3 : decide ((48 : Int) ≤ (c.toNat : Int)) = true := decide_eq_true (by omega)
      have e : letterB c = decide ((c.toNat : Int) ≤ 57) := by
        simp only [letterB, h1, h3, decide_false, decide_true, Bool.false_and, Bool.true_and, Bool.false_or, decide_eq_decide]; omega
      rw [e]
      go_enter Tryz.func135, Tryz.ntmps135
      go_wp2
      go_ret
      exact ⟨rfl, rfl⟩
    · have d3 : decide ((48 : Int) ≤ (c.toNat : Int)) = false := decide_eq_false (by omega)
      have e : letterB c = false := by simp [letterB]; omega
      rw [e]
      go_enter Tryz.func135, Tryz.ntmps135
      go_wp2
      go_ret
      exact ⟨rfl, rfl⟩

set_option maxHeartbeats 400000 in
theorem open_w (s : Str) (w : World) : Calls Tryz.prog 144 #[endV s] w (Ret w (.bool (noB s))) := by
  unfold endV noB
  go_enter Tryz.func144, Tryz.ntmps144
  go_wp2
  go_ret
  exact ⟨by simp, Ok.alloc (Ok.refl w) _⟩

set_option maxHeartbeats 400000 in
theorem below_w (s t : Str) (w : World) : Calls Tryz.prog 125 #[.string s, .string t] w (Ret w (.bool (ltB s t))) := by
  unfold ltB
  go_enter Tryz.func125, Tryz.ntmps125
  go_wp2
  go_ret
  exact ⟨rfl, Ok.refl w⟩

set_option maxHeartbeats 400000 in
theorem low_w (s : Sp) (w : World) : Calls Tryz.prog 126 #[spV s] w (Ret w (.string s.lo)) := by
  unfold spV
  go_enter Tryz.func126, Tryz.ntmps126
  go_wp2
  go_ret
  exact ⟨rfl, Ok.alloc (Ok.refl w) _⟩

set_option maxHeartbeats 400000 in
theorem high_w (s : Sp) (w : World) : Calls Tryz.prog 127 #[spV s] w (Ret w (endV s.hi)) := by
  unfold spV endV
  go_enter Tryz.func127, Tryz.ntmps127
  go_wp2
  go_returns
  refine ⟨rfl, ?_⟩
  unfold Ok
  go_grown

set_option maxHeartbeats 400000 in
theorem above_w (h t : Str) (w : World) : Calls Tryz.prog 128 #[endV h, .string t] w (Ret w (.bool (aboveB h t))) := by
  have hs := open_w h
  unfold endV at *
  cases hn : noB h with
  | true =>
    rw [hn] at hs
    have e : aboveB h t = true := by simp [aboveB, hn]
    rw [e]
    go_enter Tryz.func128, Tryz.ntmps128
    go_wp2_with fail
    refine (hs _).mono ?_
    rintro _ w1 ⟨rfl, h1⟩
    go_wp2
    go_ret
    exact ⟨rfl, Ok.call (Ok.alloc (Ok.refl w) _) h1⟩
  | false =>
    rw [hn] at hs
    have e : aboveB h t = ltB t h := by simp [aboveB, hn]
    rw [e]
    go_enter Tryz.func128, Tryz.ntmps128
    go_wp2_with fail
    refine (hs _).mono ?_
    rintro _ w1 ⟨rfl, h1⟩
    have hc : w1.cell? ⟨w.heap.size, 0, none⟩ = some (.string h) := Ok.cell h1 (by go_cell)
    go_wp2_with fail
    refine (below_w _ _ _).mono ?_
    rintro _ w2 ⟨rfl, h2⟩
    go_wp2
    go_ret
    exact ⟨rfl, Ok.call (Ok.call (Ok.alloc (Ok.refl w) _) h1) h2⟩

theorem all_take (l : List UInt8) (k : Nat) (hk : k < l.length) (h : (l.take k).all letterB = true) : (l.take (k + 1)).all letterB = letterB l[k] := by
  rw [List.take_succ_eq_append_getElem hk, List.all_append, h]
  simp

set_option maxHeartbeats 400000 in
theorem key_w (s : Str) (w : World) : Calls Tryz.prog 91 #[.string s] w (Ret w (.bool (keyB s))) := by
  by_cases h1 : 1 ≤ s.size
  · have d1 : decide ((s.size : Int) < 1) = false := decide_eq_false (by omega)
    by_cases h2 : s.size ≤ 20
    · have d2 : decide ((20 : Int) < (s.size : Int)) = false := decide_eq_false (by omega)
      go_enter Tryz.func91, Tryz.ntmps91
      go_wp2_with fail
      go_loop [14] (fun i => ∃ k : Nat, k ≤ s.size ∧ i = .int .i64 k ∧ (s.data.toList.take k).all letterB = true) (fun i => s.size - (intOf i).toNat)
      case atStart => exact ⟨0, Nat.zero_le _, rfl, by simp⟩
      case round =>
        obtain ⟨k, hk, rfl, hall⟩ := hrel
        by_cases hlt : k < s.size
        · have d3 : decide ((k : Int) < (s.size : Int)) = true := decide_eq_true (by omega)
          go_wp2_with fail
          refine (letter_w _ _).mono ?_
          rintro _ w1 ⟨rfl, rfl⟩
          have hlen : k < s.data.toList.length := by rw [Array.length_toList]; exact hlt
          have hnx := all_take s.data.toList k hlen hall
          have hel : s.data.toList[k] = s[k] := by rw [Array.getElem_toList]; rfl
          rw [hel] at hnx
          cases hc : letterB s[k] with
          | true =>
            rw [hc] at hnx
            go_wp2
            refine ⟨⟨k + 1, hlt, rfl, hnx⟩, ?_⟩
            show s.size - ((k : Int) + 1).toNat < s.size - (k : Int).toNat
            omega
          | false =>
            have e : keyB s = false := by
              have h9 : s.data.toList.all letterB = false := by
                rw [List.all_eq_false]
                exact ⟨s.data.toList[k], List.getElem_mem hlen, by rw [hel, hc]; simp⟩
              simp [keyB, h9]
            go_wp2
            rw [e]
            go_ret
            exact ⟨rfl, Ok.refl _⟩
        · have d3 : decide ((k : Int) < (s.size : Int)) = false := decide_eq_false (by omega)
          go_wp2
          have hks : k = s.size := by omega
          have e : keyB s = true := by
            have hl : s.data.toList.length = s.size := by rw [Array.length_toList]; rfl
            rw [List.take_of_length_le (by omega)] at hall
            simp [keyB, h1, h2, hall]
          rw [e]
          go_ret
          exact ⟨rfl, Ok.refl w⟩
    · have d2 : decide ((20 : Int) < (s.size : Int)) = true := decide_eq_true (by omega)
      have e : keyB s = false := by simp [keyB, h2]
      rw [e]
      go_enter Tryz.func91, Tryz.ntmps91
      go_wp2
      go_ret
      exact ⟨rfl, Ok.refl w⟩
  · have d1 : decide ((s.size : Int) < 1) = true := decide_eq_true (by omega)
    have e : keyB s = false := by simp [keyB, h1]
    rw [e]
    go_enter Tryz.func91, Tryz.ntmps91
    go_wp2
    go_ret
    exact ⟨rfl, Ok.refl w⟩


end Go.Proofs.YtebhcadolnjplaaGreat
