/- Texts that are keys, texts that are values; acts that are right: the program and the document. -/
import Derived.Test.YthbbbjkgfdnkhaaDoorBa
namespace Go.Proofs.YthbbbjkgfdnkhaaDoor
open Go.RowKit
def letterB (c : UInt8) : Bool := (decide (97 ≤ c.toNat) && decide (c.toNat ≤ 122)) || (decide (48 ≤ c.toNat) && decide (c.toNat ≤ 57))
def keyB (s : Str) : Bool := decide (1 ≤ s.size) && decide (s.size ≤ 20) && s.data.toList.all letterB
set_option maxHeartbeats 400000 in
theorem letter_w (c : UInt8) (w : World) : Calls Tryd.prog 58 #[.int .u8 (c.toNat : Int)] w fun e w' => e = .returned (.bool (letterB c)) ∧ w' = w := by
  have h0 := c.toNat_lt
  by_cases h1 : 97 ≤ c.toNat
  · have d1 : decide ((97 : Int) ≤ (c.toNat : Int)) = true := decide_eq_true (by omega)
    by_cases h2 : c.toNat ≤ 122
    · have d2 : decide ((c.toNat : Int) ≤ 122) = true := decide_eq_true (by omega)
      have e : letterB c = true := by simp [letterB, h1, h2]
      rw [e]
      go_enter Tryd.func58, Tryd.ntmps58
      go_wp2
      go_ret
      exact ⟨rfl, rfl⟩
    · have d2 : decide ((c.toNat : Int) ≤ 122) = false := decide_eq_false (by omega)
      have d3 : decide ((48 : Int) ≤ (c.toNat : Int)) = true := decide_eq_true (by omega)
      have d4 : decide ((c.toNat : Int) ≤ 57) = false := decide_eq_false (by omega)
      have e : letterB c = false := by simp [letterB]; omega
      rw [e]
      go_enter Tryd.func58, Tryd.ntmps58
      go_wp2
      go_ret
      exact ⟨rfl, rfl⟩
  · have d1 : decide ((97 : Int) ≤ (c.toNat : Int)) = false := decide_eq_false (by omega)
    by_cases h3 : 48 ≤ c.toNat
    · have d3 : decide ((48 : Int) ≤ (c.toNat : Int)) = true := decide_eq_true (by omega)
      have e : letterB c = decide ((c.toNat : Int) ≤ 57) := by
        simp only [letterB, h1, h3, decide_false, decide_true, Bool.false_and, Bool.true_and, Bool.false_or, decide_eq_decide]; omega
      rw [e]
      go_enter Tryd.func58, Tryd.ntmps58
      go_wp2
      go_ret
      exact ⟨rfl, rfl⟩
    · have d3 : decide ((48 : Int) ≤ (c.toNat : Int)) = false := decide_eq_false (by omega)
      have e : letterB c = false := by simp [letterB]; omega
      rw [e]
      go_enter Tryd.func58, Tryd.ntmps58
      go_wp2
      go_ret
      exact ⟨rfl, rfl⟩
theorem all_takeL (l : List UInt8) (k : Nat) (hk : k < l.length) (h : (l.take k).all letterB = true) : (l.take (k + 1)).all letterB = letterB l[k] := by
  rw [List.take_succ_eq_append_getElem hk, List.all_append, h]
  simp
set_option maxHeartbeats 400000 in
theorem key_w (s : Str) (w : World) : Calls Tryd.prog 50 #[.string s] w (Ret w (.bool (keyB s))) := by
  by_cases h1 : 1 ≤ s.size
  · have d1 : decide ((s.size : Int) < 1) = false := decide_eq_false (by omega)
    by_cases h2 : s.size ≤ 20
    · have d2 : decide ((20 : Int) < (s.size : Int)) = false := decide_eq_false (by omega)
      go_enter Tryd.func50, Tryd.ntmps50
      go_wp2_with fail
      go_loop [14] (fun i => ∃ k : Nat, k ≤ s.size ∧ i = .int .i64 k ∧ (s.data.toList.take k).all letterB = true) (fun i => s.size - (intOf i).toNat)
      case atStart => exact ⟨0, Nat.zero_le _, rfl, by simp⟩
      case round =>
        obtain ⟨k, hk, rfl, hall⟩ := hrel
        by_cases hlt : k < s.size
        · have d3 : decide ((k : Int) < (s.size : Int)) = true := decide_eq_true (by omega)
          go_wp2_with fail
          refine (letter_w _ _).mono ?_
          rintro _ w1 ⟨rfl, rfl⟩
          have hlen : k < s.data.toList.length := by rw [Array.length_toList]; exact hlt
          have hnx := all_takeL s.data.toList k hlen hall
          have hel : s.data.toList[k] = s[k] := by rw [Array.getElem_toList]; rfl
          rw [hel] at hnx
          cases hc : letterB s[k] with
          | true =>
            rw [hc] at hnx
            go_wp2
            refine ⟨⟨k + 1, hlt, rfl, hnx⟩, ?_⟩
            show s.size - ((k : Int) + 1).toNat < s.size - (k : Int).toNat
            omega
          | false =>
            have e : keyB s = false := by
              have h9 : s.data.toList.all letterB = false := by
                rw [List.all_eq_false]
                exact ⟨s.data.toList[k], List.getElem_mem hlen, by rw [hel, hc]; simp⟩
              simp [keyB, h9]
            go_wp2
            rw [e]
            go_ret
            exact ⟨rfl, Ok.refl _⟩
        · have d3 : decide ((k : Int) < (s.size : Int)) = false := decide_eq_false (by omega)
          go_wp2
          have hks : k = s.size := by omega
          have e : keyB s = true := by
            have hl : s.data.toList.length = s.size := by rw [Array.length_toList]; rfl
            rw [List.take_of_length_le (by omega)] at hall
            simp [keyB, h1, h2, hall]
          rw [e]
          go_ret
          exact ⟨rfl, Ok.refl w⟩
    · have d2 : decide ((20 : Int) < (s.size : Int)) = true := decide_eq_true (by omega)
      have e : keyB s = false := by simp [keyB, h2]
      rw [e]
      go_enter Tryd.func50, Tryd.ntmps50
      go_wp2
      go_ret
      exact ⟨rfl, Ok.refl w⟩
  · have d1 : decide ((s.size : Int) < 1) = true := decide_eq_true (by omega)
    have e : keyB s = false := by simp [keyB, h1]
    rw [e]
    go_enter Tryd.func50, Tryd.ntmps50
    go_wp2
    go_ret
    exact ⟨rfl, Ok.refl w⟩
set_option maxRecDepth 100000 in
set_option maxHeartbeats 2000000 in
theorem rkey_w (s : Str) (w : World) : Calls Tryd.prog 52 #[.string s] w (Ret w (.bool (keyB s))) := by
  by_cases h1 : 1 ≤ s.size
  · have d1 : decide ((s.size : Int) < 1) = false := decide_eq_false (by omega)
    by_cases h2 : s.size ≤ 20
    · have d2 : decide ((20 : Int) < (s.size : Int)) = false := decide_eq_false (by omega)
      go_enter Tryd.func52, Tryd.ntmps52
      go_wp2_with fail
      go_loop [3] (fun i => ∃ k : Nat, k ≤ s.size ∧ i = .int .i64 k ∧ (s.data.toList.take k).all letterB = true) (fun i => s.size - (intOf i).toNat)
      case atStart => exact ⟨0, Nat.zero_le _, rfl, by simp⟩
      case round =>
        obtain ⟨k, hk, rfl, hall⟩ := hrel
        by_cases hlt : k < s.size
        · have d3 : decide ((k : Int) < (s.size : Int)) = true := decide_eq_true (by omega)
          have hlen : k < s.data.toList.length := by rw [Array.length_toList]; exact hlt
          have hnx := Lib.hid (all_takeL s.data.toList k hlen hall)
          have hel : s.data.toList[k] = s[k] := by rw [Array.getElem_toList]; rfl
          have HEL := Lib.hid hel
          rw [hel] at hnx
          have hbad : Hid (letterB s[k] = false → keyB s = false) := Lib.hid fun hc => by
            have h9 : s.data.toList.all letterB = false := by
              rw [List.all_eq_false]
              exact ⟨s.data.toList[k], List.getElem_mem hlen, by rw [HEL.out, hc]; simp⟩
            simp [keyB, h9]
          clear hel
          have h0 := s[k].toNat_lt
          by_cases g1 : 97 ≤ s[k].toNat
          · have e1 : decide ((97 : Int) ≤ (s[k].toNat : Int)) = true := decide_eq_true (by omega)
            by_cases g2 : s[k].toNat ≤ 122
            · have e2 : decide ((s[k].toNat : Int) ≤ 122) = true := decide_eq_true (by omega)
              go_wp2
              refine ⟨⟨k + 1, hlt, rfl, by rw [hnx.out]; simp [letterB]; omega⟩, ?_⟩
              show s.size - ((k : Int) + 1).toNat < s.size - (k : Int).toNat
              omega
            · have e2 : decide ((s[k].toNat : Int) ≤ 122) = false := decide_eq_false (by omega)
              have e3 : decide ((48 : Int) ≤ (s[k].toNat : Int)) = true := decide_eq_true (by omega)
              have e4 : decide ((s[k].toNat : Int) ≤ 57) = false := decide_eq_false (by omega)
              go_wp2
              have e := hbad.out (by simp [letterB]; omega)
              rw [e]
              go_ret
              exact ⟨rfl, Ok.refl _⟩
          · have e1 : decide ((97 : Int) ≤ (s[k].toNat : Int)) = false := decide_eq_false (by omega)
            by_cases g3 : 48 ≤ s[k].toNat
            · have e3 : decide ((48 : Int) ≤ (s[k].toNat : Int)) = true := decide_eq_true (by omega)
              by_cases g4 : s[k].toNat ≤ 57
              · have e4 : decide ((s[k].toNat : Int) ≤ 57) = true := decide_eq_true (by omega)
                go_wp2
                refine ⟨⟨k + 1, hlt, rfl, by rw [hnx.out]; simp [letterB]; omega⟩, ?_⟩
                show s.size - ((k : Int) + 1).toNat < s.size - (k : Int).toNat
                omega
              · have e4 : decide ((s[k].toNat : Int) ≤ 57) = false := decide_eq_false (by omega)
                go_wp2
                have e := hbad.out (by simp [letterB]; omega)
                rw [e]
                go_ret
                exact ⟨rfl, Ok.refl _⟩
            · have e3 : decide ((48 : Int) ≤ (s[k].toNat : Int)) = false := decide_eq_false (by omega)
              go_wp2
              have e := hbad.out (by simp [letterB]; omega)
              rw [e]
              go_ret
              exact ⟨rfl, Ok.refl _⟩
        · have d3 : decide ((k : Int) < (s.size : Int)) = false := decide_eq_false (by omega)
          go_wp2
          have e : keyB s = true := by
            have hl : s.data.toList.length = s.size := by rw [Array.length_toList]; rfl
            rw [List.take_of_length_le (by omega)] at hall
            simp [keyB, h1, h2, hall]
          rw [e]
          go_ret
          exact ⟨rfl, Ok.refl w⟩
    · have d2 : decide ((20 : Int) < (s.size : Int)) = true := decide_eq_true (by omega)
      have e : keyB s = false := by simp [keyB, h2]
      rw [e]
      go_enter Tryd.func52, Tryd.ntmps52
      go_wp2
      go_ret
      exact ⟨rfl, Ok.refl w⟩
  · have d1 : decide ((s.size : Int) < 1) = true := decide_eq_true (by omega)
    have e : keyB s = false := by simp [keyB, h1]
    rw [e]
    go_enter Tryd.func52, Tryd.ntmps52
    go_wp2
    go_ret
    exact ⟨rfl, Ok.refl w⟩
def letterV (c : UInt8) : Bool := letterB c || decide (c.toNat = 45)
def valB (s : Str) : Bool := s.data.toList.all letterV && decide (s.size ≤ 20)
theorem all_takeV (l : List UInt8) (k : Nat) (hk : k < l.length) (h : (l.take k).all letterV = true) : (l.take (k + 1)).all letterV = letterV l[k] := by
  rw [List.take_succ_eq_append_getElem hk, List.all_append, h]
  simp
end Go.Proofs.YthbbbjkgfdnkhaaDoor
