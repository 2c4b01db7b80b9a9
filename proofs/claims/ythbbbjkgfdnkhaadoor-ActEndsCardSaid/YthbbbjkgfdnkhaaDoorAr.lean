/- Texts sorted, each once: mathematics. -/
import Derived.Test.YthbbbjkgfdnkhaaDoorAm
import Derived.Test.YthbbbjkgfdnkhaaDoorShelfB
import Derived.Sort.OwnSorted
import Derived.Lib.RowBridge
namespace Go.Proofs.YthbbbjkgfdnkhaaDoor
open Go.RowKit Go.Sort
abbrev Tx := List UInt8
theorem tx_refl (a : Tx) : a ≤ a := List.le_refl a
theorem tx_trans {a b c : Tx} (h : a ≤ b) (k : b ≤ c) : a ≤ c := List.le_trans h k
theorem tx_anti {a b : Tx} (h : a ≤ b) (k : b ≤ a) : a = b := List.le_antisymm h k
theorem tx_total (a b : Tx) : a ≤ b ∨ b ≤ a := List.le_total a b
def sortT (zs : List Tx) : List Tx := zs.mergeSort fun x y => decide (x ≤ y)
theorem sortT_len (zs : List Tx) : (sortT zs).length = zs.length := by simp [sortT]
theorem sortT_perm (zs : List Tx) : (sortT zs).Perm zs := List.mergeSort_perm _ _
theorem sortT_up (zs : List Tx) : (sortT zs).Pairwise (fun x y => x ≤ y) := by
  have := List.pairwise_mergeSort (le := fun x y : Tx => decide (x ≤ y)) (fun a b c h1 h2 => by simp only [decide_eq_true_eq] at *; exact tx_trans h1 h2) (fun a b => by simp only [Bool.or_eq_true, decide_eq_true_eq]; exact tx_total a b) zs
  simpa [sortT] using this
def Rises (l : List Tx) : Prop := l.Pairwise fun x y => x ≤ y ∧ x ≠ y
theorem keepsT (s : List Tx) (m : Nat) (h : m < s.length) : Lib.keeps s.toArray m = (decide (m = 0) || decide (s.getD m [] ≠ s.getD (m - 1) [])) := by
  unfold Lib.keeps
  by_cases hm : m = 0
  · subst hm; simp
  · have h1 : m - 1 < s.length := by omega
    simp [h, h1]
theorem compact_at (s : List Tx) (m : Nat) (h : m < s.length) : s.toArray[m]! = s.getD m [] := by simp [h]
theorem compact_up (s : List Tx) (hs : s.Pairwise (fun x y => x ≤ y)) (m : Nat) (hm : m ≤ s.length) :
    (∀ x, x ∈ Lib.compactUpTo s.toArray m ↔ x ∈ s.take m) ∧ Rises (Lib.compactUpTo s.toArray m) ∧ (0 < m → ∀ x ∈ Lib.compactUpTo s.toArray m, x ≤ s.getD (m - 1) []) := by
  induction m with
  | zero => exact ⟨fun x => by simp [Lib.compactUpTo], by simp [Lib.compactUpTo, Rises], fun h => by omega⟩
  | succ m ih =>
    obtain ⟨h1, h2, h3⟩ := ih (by omega)
    have hlt : m < s.length := by omega
    have ht : s.take (m + 1) = s.take m ++ [s.getD m []] := by
      rw [List.take_succ_eq_append_getElem hlt]; simp [hlt]
    rw [Lib.compactUpTo_succ, keepsT s m hlt, compact_at s m hlt, ht]
    generalize Lib.compactUpTo s.toArray m = L at *
    by_cases hm0 : m = 0
    · subst hm0
      have hL : L = [] := by
        cases L with
        | nil => rfl
        | cons y r => exact absurd ((h1 y).1 (by simp)) (by simp)
      subst hL
      simp only [decide_true, Bool.true_or, if_true, List.nil_append, List.take_zero, List.mem_singleton]
      exact ⟨by simp, by simp [Rises], fun _ x hx => by subst hx; exact tx_refl _⟩
    · have hle : s.getD (m - 1) [] ≤ s.getD m [] := by
        have := List.pairwise_iff_getElem.1 hs (m - 1) m (by omega) hlt (by omega)
        simpa [List.getD, hlt, show m - 1 < s.length by omega] using this
      have hmem : s.getD (m - 1) [] ∈ s.take m := by
        rw [List.mem_take_iff_getElem]
        exact ⟨m - 1, by omega, by simp [List.getD, show m - 1 < s.length by omega]⟩
      simp only [Nat.add_sub_cancel]
      generalize s.getD m [] = cur at *
      generalize s.getD (m - 1) [] = prev at *
      by_cases hd : cur = prev
      · subst hd
        rw [if_neg (by simp [hm0]), List.append_nil]
        refine ⟨fun x => ⟨fun h => ?_, fun h => ?_⟩, h2, fun _ x hx => ?_⟩
        · exact List.mem_append_left _ ((h1 x).1 h)
        · rcases List.mem_append.1 h with h | h
          · exact (h1 x).2 h
          · rw [List.mem_singleton] at h; subst h; exact (h1 _).2 hmem
        · exact h3 (by omega) x hx
      · rw [if_pos (by simp [hd])]
        refine ⟨fun x => ?_, ?_, fun _ x hx => ?_⟩
        · rw [List.mem_append, List.mem_append]; exact or_congr (h1 x) Iff.rfl
        · unfold Rises at h2 ⊢
          rw [List.pairwise_append]
          refine ⟨h2, by simp, fun x hx y hy => ?_⟩
          rw [List.mem_singleton] at hy; subst hy
          have h4 := h3 (by omega) x hx
          exact ⟨tx_trans h4 hle, fun e => hd (tx_anti (e ▸ h4) hle)⟩
        · rcases List.mem_append.1 hx with hx | hx
          · exact tx_trans (h3 (by omega) x hx) hle
          · rw [List.mem_singleton] at hx; subst hx; exact tx_refl _
/-- The keys of acts: rising, each once. -/
def keysT (l : List Ac) : List Tx := Lib.compact (sortT (l.map fun a => a.key.data.toList))
theorem keysT_len (l : List Ac) : (keysT l).length ≤ l.length := by
  have := Lib.compact_length_le (sortT (l.map fun a => a.key.data.toList))
  rw [sortT_len, List.length_map] at this
  exact this
theorem keysT_facts (l : List Ac) : (∀ x, x ∈ keysT l ↔ ∃ a ∈ l, a.key.data.toList = x) ∧ Rises (keysT l) := by
  obtain ⟨h1, h2, _⟩ := compact_up (sortT (l.map fun a => a.key.data.toList)) (sortT_up _) _ (Nat.le_refl _)
  refine ⟨fun x => ?_, h2⟩
  have h3 := h1 x
  rw [List.take_length, (sortT_perm _).mem_iff, List.mem_map] at h3
  exact h3
theorem rises_lt {zs : List Tx} (h : Rises zs) (i : Nat) (h0 : 0 < i) (hi : i < zs.length) : Op.bytesLess (zs.getD (i - 1) []) (zs.getD i []) = true := by
  have h2 := List.pairwise_iff_getElem.1 h (i - 1) i (by omega) hi (by omega)
  rw [Go.Proofs.bytesLess_eq]
  have e1 : zs.getD (i - 1) [] = zs[i - 1]'(by omega) := by simp [List.getD, show i - 1 < zs.length by omega]
  have e2 : zs.getD i [] = zs[i] := by simp [List.getD, hi]
  rw [e1, e2]
  refine decide_eq_true ?_
  rcases Classical.em (zs[i - 1]'(by omega) < zs[i]) with h3 | h3
  · exact h3
  · exact absurd (tx_anti h2.1 (List.not_lt.1 h3)) h2.2
theorem rises_nodup {zs : List Tx} (h : Rises zs) : zs.Nodup := List.Pairwise.imp (fun h => h.2) h
/-- The acts of a key. -/
def ofL (k : Tx) (l : List Ac) : List Ac := l.filter fun a => decide (a.key.data.toList = k)
/-- How many acts the first keys have. -/
def many (zs : List Tx) (l : List Ac) : Nat := (zs.map fun k => (ofL k l).length).sum
theorem many_le : ∀ (zs : List Tx) (l : List Ac), zs.Nodup → many zs l = (l.filter fun a => decide (a.key.data.toList ∈ zs)).length
  | [], l, _ => (List.length_eq_zero_iff.2 (List.filter_eq_nil_iff.2 (by simp))).symm
  | k :: zs, l, hn => by
    obtain ⟨hk, hn2⟩ := List.nodup_cons.1 hn
    have ih := many_le zs l hn2
    have e : many (k :: zs) l = (ofL k l).length + many zs l := by simp [many]
    rw [e, ih]
    clear ih e hn
    unfold ofL
    induction l with
    | nil => rfl
    | cons a l ih =>
      simp only [List.filter_cons, List.mem_cons]
      by_cases h1 : a.key.data.toList = k
      · have h2 : a.key.data.toList ∉ zs := fun h => hk (h1 ▸ h)
        simp only [h1, decide_true, if_true, true_or, List.length_cons]
        rw [show decide (k ∈ zs) = false from decide_eq_false hk]
        simp only [Bool.false_eq_true, if_false]
        simp only [List.mem_cons] at ih
        omega
      · simp only [h1, decide_false, Bool.false_eq_true, if_false, false_or]
        simp only [List.mem_cons] at ih
        by_cases h2 : a.key.data.toList ∈ zs
        · simp only [h2, decide_true, if_true, List.length_cons]; omega
        · simp only [h2, decide_false, Bool.false_eq_true, if_false]; omega
theorem many_all (l : List Ac) : many (keysT l) l = l.length := by
  obtain ⟨h1, h2⟩ := keysT_facts l
  rw [many_le _ _ (rises_nodup h2)]
  rw [List.filter_eq_self.2 fun a ha => decide_eq_true ((h1 _).2 ⟨a, ha, rfl⟩)]
theorem of_pos (l : List Ac) (i : Nat) (hi : i < (keysT l).length) : 0 < (ofL ((keysT l).getD i []) l).length := by
  obtain ⟨h1, _⟩ := keysT_facts l
  have hm : (keysT l).getD i [] ∈ keysT l := by simp [List.getD, hi]
  obtain ⟨a, ha, e⟩ := (h1 _).1 hm
  refine List.length_pos_iff.2 (List.ne_nil_of_mem (a := a) ?_)
  exact List.mem_filter.2 ⟨ha, decide_eq_true e⟩
theorem many_take (zs : List Tx) (l : List Ac) (i : Nat) (hi : i < zs.length) : many (zs.take (i + 1)) l = many (zs.take i) l + (ofL (zs.getD i []) l).length := by
  unfold many
  rw [List.take_succ_eq_append_getElem hi, List.map_append, List.sum_append]
  simp [List.getD, hi]
theorem many_lim (zs : List Tx) (l : List Ac) (i : Nat) (h : zs.Nodup) : many (zs.take i) l ≤ l.length := by
  rw [many_le _ _ (List.Sublist.nodup (List.take_sublist _ _) h)]
  exact List.length_filter_le _ _
end Go.Proofs.YthbbbjkgfdnkhaaDoor
