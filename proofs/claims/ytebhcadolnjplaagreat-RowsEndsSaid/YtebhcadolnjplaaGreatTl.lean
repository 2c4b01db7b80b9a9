/- The document's own answers: what a key is, which span is right, what it has: as the plain mathematics says. -/
import Derived.Test.YtebhcadolnjplaaGreatTk
namespace Go.Proofs.YtebhcadolnjplaaGreat
open Go.RowKit

set_option maxRecDepth 100000 in
set_option maxHeartbeats 2000000 in
theorem rkey_w (s : Str) (w : World) : Calls Tryz.prog 93 #[.string s] w (Ret w (.bool (keyB s))) := by
  by_cases h1 : 1 ≤ s.size
  · have d1 : decide ((s.size : Int) < 1) = false := decide_eq_false (by omega)
    by_cases h2 : s.size ≤ 20
    · have d2 : decide ((20 : Int) < (s.size : Int)) = false := decide_eq_false (by omega)
      go_enter Tryz.func93, Tryz.ntmps93
      go_wp2_with fail
      go_loop [3] (fun i => ∃ k : Nat, k ≤ s.size ∧ i = .int .i64 k ∧ (s.data.toList.take k).all letterB = true) (fun i => s.size - (intOf i).toNat)
      case atStart => exact ⟨0, Nat.zero_le _, rfl, by simp⟩
      case round =>
        obtain ⟨k, hk, rfl, hall⟩ := hrel
        by_cases hlt : k < s.size
        · have d3 : decide ((k : Int) < (s.size : Int)) = true := decide_eq_true (by omega)
          have hlen : k < s.data.toList.length := by rw [Array.length_toList]; exact hlt
          have hnx := Lib.hid (all_take s.data.toList k hlen hall)
          have hel : s.data.toList[k] = s[k] := by rw [Array.getElem_toList]; rfl
          have HEL := Lib.hid hel
          rw [hel] at hnx
          have hbad : Hid (letterB s[k] = false → keyB s = false) := Lib.hid fun hc => by
            have h9 : s.data.toList.all letterB = false := by
              rw [List.all_eq_false]
              exact ⟨s.data.toList[k], List.getElem_mem hlen, by rw [HEL.out, hc]; simp⟩
            simp [keyB, h9]
          clear hel
          have h0 := s[k].toNat_lt
          by_cases g1 : 97 ≤ s[k].toNat
          · have e1 : decide ((97 : Int) ≤ (s[k].toNat : Int)) = true := decide_eq_true (by omega)
            by_cases g2 : s[k].toNat ≤ 122
            · have e2 : decide ((s[k].toNat : Int) ≤ 122) = true := decide_eq_true (by omega)
              go_wp2
              refine ⟨⟨k + 1, hlt, rfl, by rw [hnx.out]; simp [letterB]; omega⟩, ?_⟩
              show s.size - ((k : Int) + 1).toNat < s.size - (k : Int).toNat
              omega
            · have e2 : decide ((s[k].toNat : Int) ≤ 122) = false := decide_eq_false (by omega)
              have e3 : decide ((48 : Int) ≤ (s[k].toNat : Int)) = true := decide_eq_true (by omega)
              have e4 : decide ((s[k].toNat : Int) ≤ 57) = false := decide_eq_false (by omega)
              go_wp2
              have e := hbad.out (by simp [letterB]; omega)
              rw [e]
              go_ret
              exact ⟨rfl, Ok.refl _⟩
          · have e1 : decide ((97 : Int) ≤ (s[k].toNat : Int)) = false := decide_eq_false (by omega)
            by_cases g3 : 48 ≤ s[k].toNat
            · have e3 : decide ((48 : Int) ≤ (s[k].toNat : Int)) = true := decide_eq_true (by omega)
              by_cases g4 : s[k].toNat ≤ 57
              · have e4 : decide ((s[k].toNat : Int) ≤ 57) = true := decide_eq_true (by omega)
                go_wp2
                refine ⟨⟨k + 1, hlt, rfl, by rw [hnx.out]; simp [letterB]; omega⟩, ?_⟩
                show s.size - ((k : Int) + 1).toNat < s.size - (k : Int).toNat
                omega
              · have e4 : decide ((s[k].toNat : Int) ≤ 57) = false := decide_eq_false (by omega)
                go_wp2
                have e := hbad.out (by simp [letterB]; omega)
                rw [e]
                go_ret
                exact ⟨rfl, Ok.refl _⟩
            · have e3 : decide ((48 : Int) ≤ (s[k].toNat : Int)) = false := decide_eq_false (by omega)
              go_wp2
              have e := hbad.out (by simp [letterB]; omega)
              rw [e]
              go_ret
              exact ⟨rfl, Ok.refl _⟩
        · have d3 : decide ((k : Int) < (s.size : Int)) = false := decide_eq_false (by omega)
          go_wp2
          have e : keyB s = true := by
            have hl : s.data.toList.length = s.size := by rw [Array.length_toList]; rfl
            rw [List.take_of_length_le (by omega)] at hall
            simp [keyB, h1, h2, hall]
          rw [e]
          go_ret
          exact ⟨rfl, Ok.refl w⟩
    · have d2 : decide ((20 : Int) < (s.size : Int)) = true := decide_eq_true (by omega)
      have e : keyB s = false := by simp [keyB, h2]
      rw [e]
      go_enter Tryz.func93, Tryz.ntmps93
      go_wp2
      go_ret
      exact ⟨rfl, Ok.refl w⟩
  · have d1 : decide ((s.size : Int) < 1) = true := decide_eq_true (by omega)
    have e : keyB s = false := by simp [keyB, h1]
    rw [e]
    go_enter Tryz.func93, Tryz.ntmps93
    go_wp2
    go_ret
    exact ⟨rfl, Ok.refl w⟩


/-- Not above, as the document's own answers ask it. -/
theorem le_of {a b : Str} : (Op.bytesLess a.toList b.toList || (a.toList == b.toList)) = !ltB b a := by
  cases h : ltB b a with
  | true =>
    have h1 : Op.bytesLess a.toList b.toList = false := by
      cases h1 : Op.bytesLess a.toList b.toList with
      | false => rfl
      | true => have := ltB_trans (a := a) (b := b) (c := a) h1 h; rw [ltB_irrefl] at this; cases this
    have h2 : (a.toList == b.toList) = false := by
      rw [beq_eq_false_iff_ne]
      intro e
      rw [str_ext e, ltB_irrefl] at h; cases h
    rw [h1, h2]; rfl
  | false =>
    cases h1 : Op.bytesLess a.toList b.toList with
    | true => rfl
    | false =>
      rw [ltB_total (a := a) (b := b) h1 h]
      simp



end Go.Proofs.YtebhcadolnjplaaGreat
