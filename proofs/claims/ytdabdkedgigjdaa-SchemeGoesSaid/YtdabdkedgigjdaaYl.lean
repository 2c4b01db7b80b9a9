/- Where a handoff goes; it stays right. -/
import Derived.Test.YtdabdkedgigjdaaYk
namespace Go.Proofs.Ytdabdkedgigjdaa
open Go.RowKit

theorem goes_cases {a b : Int} (h : goesB a b = true) : (a = 1 ∧ (b = 2 ∨ b = 7)) ∨ (a = 2 ∧ (b = 3 ∨ b = 7)) ∨ (a = 3 ∧ (b = 4 ∨ b = 7)) ∨ (a = 4 ∧ b = 5) ∨ (a = 5 ∧ b = 6) ∨ (a = 7 ∧ b = 8) ∨ (a = 8 ∧ b = 9) := by
  by_cases h1 : a = 1
  · subst h1; left; refine ⟨rfl, ?_⟩; simpa [goesB, toL, waysL] using h
  by_cases h2 : a = 2
  · subst h2; right; left; refine ⟨rfl, ?_⟩; simpa [goesB, toL, waysL] using h
  by_cases h3 : a = 3
  · subst h3; right; right; left; refine ⟨rfl, ?_⟩; simpa [goesB, toL, waysL] using h
  by_cases h4 : a = 4
  · subst h4; right; right; right; left; refine ⟨rfl, ?_⟩; simpa [goesB, toL, waysL] using h
  by_cases h5 : a = 5
  · subst h5; right; right; right; right; left; refine ⟨rfl, ?_⟩; simpa [goesB, toL, waysL] using h
  by_cases h7 : a = 7
  · subst h7; right; right; right; right; right; left; refine ⟨rfl, ?_⟩; simpa [goesB, toL, waysL] using h
  by_cases h8 : a = 8
  · subst h8; right; right; right; right; right; right; refine ⟨rfl, ?_⟩; simpa [goesB, toL, waysL] using h
  exfalso
  have e : toL a = [] := by
    unfold toL waysL
    have g1 : ((1 : Int) == a) = false := by simp; omega
    have g2 : ((2 : Int) == a) = false := by simp; omega
    have g3 : ((3 : Int) == a) = false := by simp; omega
    have g4 : ((4 : Int) == a) = false := by simp; omega
    have g5 : ((5 : Int) == a) = false := by simp; omega
    have g7 : ((7 : Int) == a) = false := by simp; omega
    have g8 : ((8 : Int) == a) = false := by simp; omega
    simp only [List.find?_cons, List.find?_nil, g1, g2, g3, g4, g5, g7, g8]
    rfl
  rw [goesB, e] at h
  cases h
/-- A right handoff that takes a step which does not turn the shares is right. -/
theorem sc_step {x : Sc} {b : Int} (h : scB x = true) (hg : goesB x.st b = true) (hb : b ≠ 4) : scB { x with st := b } = true := by
  obtain ⟨num, ⟨lo, hi⟩, fr, to, ep, un, st⟩ := x
  simp only at hg
  unfold scB sc1 sc2 unB at h ⊢
  simp only [Bool.and_eq_true] at h ⊢
  refine ⟨⟨h.1.1, h.1.2.1, ?_⟩, ?_⟩
  · rcases goes_cases hg with ⟨rfl, rfl | rfl⟩ | ⟨rfl, rfl | rfl⟩ | ⟨rfl, rfl | rfl⟩ | ⟨rfl, rfl⟩ | ⟨rfl, rfl⟩ | ⟨rfl, rfl⟩ | ⟨rfl, rfl⟩ <;> first | decide | exact absurd rfl hb
  · have h2 := h.2
    rcases goes_cases hg with ⟨rfl, rfl | rfl⟩ | ⟨rfl, rfl | rfl⟩ | ⟨rfl, rfl | rfl⟩ | ⟨rfl, rfl⟩ | ⟨rfl, rfl⟩ | ⟨rfl, rfl⟩ | ⟨rfl, rfl⟩ <;> first | exact absurd rfl hb | exact h2
end Go.Proofs.Ytdabdkedgigjdaa
