/- Rows of numbers, sorted, each once: plain mathematics. -/
import Derived.Test.YtolfdncmlfnbdaaUa
import Derived.Lib.RowBridge
import Derived.Lib.SlicesCompact
namespace Go.Proofs.Ytolfdncmlfnbdaa

def sortI (zs : List Int) : List Int := zs.mergeSort fun x y => decide (x ≤ y)
theorem sortI_len (zs : List Int) : (sortI zs).length = zs.length := by simp [sortI]
theorem sortI_mem (zs : List Int) (x : Int) : x ∈ sortI zs ↔ x ∈ zs := by simp [sortI]
theorem sortI_up (zs : List Int) : (sortI zs).Pairwise (· ≤ ·) := by
  have := List.pairwise_mergeSort (le := fun x y : Int => decide (x ≤ y)) (fun a b c h1 h2 => by simp at *; omega) (fun a b => by simp; omega) zs
  simpa [sortI] using this
theorem keepsI (s : List Int) (m : Nat) (h : m < s.length) : Lib.keeps s.toArray m = (decide (m = 0) || decide (s.getD m 0 ≠ s.getD (m - 1) 0)) := by
  unfold Lib.keeps
  by_cases hm : m = 0
  · subst hm; simp
  · have h1 : m - 1 < s.length := by omega
    simp [h, h1]
theorem compact_at (s : List Int) (m : Nat) (h : m < s.length) : s.toArray[m]! = s.getD m 0 := by simp [h]
theorem compact_up (s : List Int) (hs : s.Pairwise (· ≤ ·)) (m : Nat) (hm : m ≤ s.length) :
    (∀ x, x ∈ Lib.compactUpTo s.toArray m ↔ x ∈ s.take m) ∧ Rises (Lib.compactUpTo s.toArray m) ∧ (0 < m → ∀ x ∈ Lib.compactUpTo s.toArray m, x ≤ s.getD (m - 1) 0) := by
  induction m with
  | zero => exact ⟨fun x => by simp [Lib.compactUpTo], by simp [Lib.compactUpTo, Rises], fun h => by omega⟩
  | succ m ih =>
    obtain ⟨h1, h2, h3⟩ := ih (by omega)
    have hlt : m < s.length := by omega
    have ht : s.take (m + 1) = s.take m ++ [s.getD m 0] := by
      rw [List.take_succ_eq_append_getElem hlt]; simp [hlt]
    rw [Lib.compactUpTo_succ, keepsI s m hlt, compact_at s m hlt, ht]
    generalize Lib.compactUpTo s.toArray m = L at *
    by_cases hm0 : m = 0
    · subst hm0
      have hL : L = [] := by
        cases L with
        | nil => rfl
        | cons y r => exact absurd ((h1 y).1 (by simp)) (by simp)
      subst hL
      simp only [decide_true, Bool.true_or, if_true, List.nil_append, List.take_zero, List.mem_singleton]
      exact ⟨by simp, by simp [Rises], fun _ x hx => by subst hx; simp⟩
    · have hle : s.getD (m - 1) 0 ≤ s.getD m 0 := by
        have := List.pairwise_iff_getElem.1 hs (m - 1) m (by omega) hlt (by omega)
        simpa [hlt, show m - 1 < s.length by omega] using this
      have hmem : s.getD (m - 1) 0 ∈ s.take m := by
        rw [List.mem_take_iff_getElem]
        exact ⟨m - 1, by omega, by simp [show m - 1 < s.length by omega]⟩
      by_cases hd : s.getD m 0 = s.getD (m - 1) 0
      · simp only [hm0, decide_false, Bool.false_or, hd, ne_eq, not_true_eq_false, Bool.false_eq_true, if_false, List.append_nil, List.mem_append, List.mem_singleton, Nat.add_sub_cancel]
        refine ⟨fun x => ⟨fun h => .inl ((h1 x).1 h), fun h => ?_⟩, h2, fun _ x hx => h3 (by omega) x hx⟩
        rcases h with h | rfl
        · exact (h1 x).2 h
        · exact (h1 _).2 hmem
      · simp only [hm0, decide_false, Bool.false_or, ne_eq, hd, not_false_eq_true, decide_true, if_true, List.mem_append, List.mem_singleton, Nat.add_sub_cancel]
        refine ⟨fun x => or_congr (h1 x) Iff.rfl, ?_, fun _ x hx => ?_⟩
        · unfold Rises at h2 ⊢
          rw [List.pairwise_append]
          exact ⟨h2, by simp, fun x hx y hy => by simp at hy; subst hy; have := h3 (by omega) x hx; simp only [List.getD_eq_getElem?_getD] at *; omega⟩
        · rcases hx with hx | rfl
          · have := h3 (by omega) x hx; omega
          · exact Int.le_refl _
theorem nodes_of (c : Cfg) : NodesOf c (Lib.compact (sortI (c.vs ++ (c.os ++ c.ls)))) := by
  obtain ⟨h1, h2, _⟩ := compact_up (sortI (allL c)) (sortI_up _) (sortI (allL c)).length (Nat.le_refl _)
  refine ⟨h2, fun x => ?_⟩
  have := h1 x
  rw [List.take_length, sortI_mem] at this
  exact this
end Go.Proofs.Ytolfdncmlfnbdaa
