/- What stands behind a Take: mathematics. -/
import Derived.Test.YtebhcadolnjplaaGt
namespace Go.Proofs.Ytebhcadolnjplaa
open Go.RowKit

def takenE (es : List En) (m k : Nat) (row : List En) : List En := es.take (m + k) ++ row.drop k
theorem stands_le (L : LG) (m k : Nat) (row : List En) (hs : ∀ j, j < k → Stands L m row j) (hm : m ≤ L.es.length) : m + k ≤ L.es.length := by
  rcases Nat.eq_zero_or_pos k with rfl | hp
  · exact hm
  · have := (hs (k - 1) (by omega)).1
    omega
theorem takenE_len (es : List En) (m k : Nat) (row : List En) (h : m + k ≤ es.length) (hk : k ≤ row.length) : (takenE es m k row).length = m + row.length := by
  unfold takenE
  rw [List.length_append, List.length_take, List.length_drop]
  omega
theorem takenE_old (es : List En) (m k : Nat) (row : List En) (h : m + k ≤ es.length) (j : Nat) (hj : j < m + k) : enA (takenE es m k row) j = enA es j := by
  have e := (enA_app (es.take (m + k)) (row.drop k) j).1 (by rw [List.length_take]; omega)
  unfold takenE
  rw [e, enA_take es (m + k) j hj]
theorem takenE_new (es : List En) (m k : Nat) (row : List En) (h : m + k ≤ es.length) (i : Nat) (hi : k ≤ i) : enA (takenE es m k row) (m + i) = enA row i := by
  have hl : (es.take (m + k)).length = m + k := by rw [List.length_take]; omega
  have e := (enA_app (es.take (m + k)) (row.drop k) (i - k)).2
  rw [hl, show m + k + (i - k) = m + i from by omega] at e
  unfold takenE
  rw [e]
  simp [enA, show k + (i - k) = i from by omega]
theorem takenE_term (L : LG) (m k : Nat) (row : List En) (hs : ∀ j, j < k → Stands L m row j) (hm : m ≤ L.es.length) (i : Nat) : (enA (takenE L.es m k row) (m + i)).term = (enA row i).term := by
  have h := stands_le L m k row hs hm
  by_cases hi : i < k
  · rw [takenE_old L.es m k row h _ (by omega)]
    exact (hs i hi).2
  · rw [takenE_new L.es m k row h i (by omega)]
/-- Taken again, all stand. -/
theorem again_stands (L L' : LG) (m k : Nat) (row : List En) (hk : k ≤ row.length) (hs : ∀ j, j < k → Stands L m row j) (hm : m ≤ L.es.length) (he : L'.es = takenE L.es m k row) (j : Nat) (hj : j < row.length) : Stands L' m row j := by
  refine ⟨?_, ?_⟩
  · rw [he, takenE_len L.es m k row (stands_le L m k row hs hm) hk]; omega
  · rw [he]; exact takenE_term L m k row hs hm j
/-- Where all stand already, Take lays nothing. -/
theorem take_again {S : Nat → Prop} {L : LG} {m : Nat} {row : List En} {w w' : World} {e : Ending} (h : TakeP S L m row w e w') (hs : ∀ j, j < row.length → Stands L m row j) : e = .returned (.tuple #[.int .i64 0, .bool true]) ∧ Ok w w' := by
  obtain ⟨k, hk, _, ⟨_, h2, h3⟩ | ⟨h1, h2, _⟩⟩ := h
  · exact ⟨h2, h3⟩
  · exact absurd (hs k h1) h2
end Go.Proofs.Ytebhcadolnjplaa
