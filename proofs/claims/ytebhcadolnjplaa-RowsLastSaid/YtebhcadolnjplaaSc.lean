/- Rows: what a table holds behind a row laid into it, as mathematics. -/
import Derived.Test.YtebhcadolnjplaaSb
namespace Go.Proofs.Ytebhcadolnjplaa
open Go.RowKit

/-- l' is l with the row r laid into it. -/
def Laid (l : List Rw) (r : Rw) (l' : List Rw) : Prop := ∃ k, Place l r.key k ∧ l' = if foundB l r.key k then l.set k r else insR l k r
theorem rwA_mem (l : List Rw) (j : Nat) (h : j < l.length) : rwA l j ∈ l := by
  unfold rwA
  rw [List.getD_eq_getElem?_getD, List.getElem?_eq_getElem h]
  exact List.getElem_mem h
theorem mem_rwA (l : List Rw) (x : Rw) : x ∈ l ↔ ∃ j, j < l.length ∧ rwA l j = x := by
  constructor
  · intro h
    obtain ⟨j, hj, rfl⟩ := List.mem_iff_getElem.1 h
    exact ⟨j, hj, by unfold rwA; rw [List.getD_eq_getElem?_getD, List.getElem?_eq_getElem hj]; rfl⟩
  · rintro ⟨j, hj, rfl⟩
    exact rwA_mem l j hj
theorem rises_nil : Rises [] := fun i j _ h => by cases h
theorem Rises.inj {l : List Rw} (h : Rises l) {i j : Nat} (hi : i < l.length) (hj : j < l.length) (e : (rwA l i).key = (rwA l j).key) : i = j := by
  rcases Nat.lt_trichotomy i j with q | q | q
  · have := h i j q hj
    rw [e, lt_irr] at this; cases this
  · exact q
  · have := h j i q hi
    rw [e, lt_irr] at this; cases this
theorem rwA_ins (l : List Rw) (k : Nat) (r : Rw) (hk : k ≤ l.length) (j : Nat) : rwA (insR l k r) j = if j < k then rwA l j else if j = k then r else rwA l (j - 1) := by
  have hl : (l.take k).length = k := by rw [List.length_take]; omega
  unfold rwA insR
  simp only [List.getD_eq_getElem?_getD]
  by_cases q : j < k
  · rw [if_pos q, List.getElem?_append_left (by omega), List.getElem?_take, if_pos q]
  · rw [if_neg q, List.getElem?_append_right (by omega), hl]
    by_cases e : j = k
    · subst e; simp
    · rw [if_neg e, show j - k = (j - 1 - k) + 1 from by omega, List.getElem?_cons_succ, List.getElem?_drop, show k + (j - 1 - k) = j - 1 from by omega]
theorem rwA_set (l : List Rw) (k : Nat) (r : Rw) (hk : k < l.length) (j : Nat) : rwA (l.set k r) j = if j = k then r else rwA l j := by
  unfold rwA
  simp only [List.getD_eq_getElem?_getD, List.getElem?_set]
  by_cases e : j = k
  · subst e; simp [hk]
  · rw [if_neg e, if_neg (fun q => e q.symm)]
theorem place_no {l : List Rw} {t : Str} {k : Nat} (hr : Rises l) (h : Place l t k) (hf : foundB l t k = false) (j : Nat) (hj : k ≤ j) (hl : j < l.length) : ltB t (rwA l j).key = true := by
  have hk : ltB t (rwA l k).key = true := by
    have h1 := h.high k (Nat.le_refl _) (by omega)
    cases q : ltB t (rwA l k).key with
    | true => rfl
    | false =>
      have := ltB_total h1 q
      unfold foundB at hf
      rw [decide_eq_true (show k < l.length by omega), decide_eq_true this] at hf
      cases hf
  rcases Nat.lt_or_eq_of_le hj with q | q
  · exact ltB_trans hk (hr k j q hl)
  · rw [← q]; exact hk
theorem place_yes {l : List Rw} {t : Str} {k : Nat} (hf : foundB l t k = true) : k < l.length ∧ (rwA l k).key = t := by
  unfold foundB at hf
  rw [Bool.and_eq_true] at hf
  exact ⟨of_decide_eq_true hf.1, of_decide_eq_true hf.2⟩
theorem ne_of_lt {a b : Str} (h : ltB a b = true) : a ≠ b := fun e => by rw [e, lt_irr] at h; cases h
theorem Laid.spec {l l' : List Rw} {r : Rw} (hr : Rises l) (h : Laid l r l') : Rises l' ∧ (∀ x, x ∈ l' ↔ x = r ∨ (x ∈ l ∧ x.key ≠ r.key)) ∧ l'.length ≤ l.length + 1 := by
  obtain ⟨k, hp, rfl⟩ := h
  cases hf : foundB l r.key k with
  | true =>
    obtain ⟨hk, he⟩ := place_yes hf
    have hs := rwA_set l k r hk
    have hkey : ∀ j, (rwA (l.set k r) j).key = (rwA l j).key := fun j => by
      rw [hs]; split
      · rename_i e; rw [e, he]
      · rfl
    rw [if_pos rfl]
    refine ⟨fun i j hij hj => by rw [hkey, hkey]; exact hr i j hij (by simpa using hj), fun x => ?_, by rw [List.length_set]; omega⟩
    constructor
    · intro hx
      obtain ⟨j, hj, rfl⟩ := (mem_rwA _ _).1 hx
      rw [List.length_set] at hj
      rw [hs]
      by_cases e : j = k
      · rw [if_pos e]; exact .inl rfl
      · rw [if_neg e]
        exact .inr ⟨rwA_mem l j hj, fun q => e (hr.inj hj hk (q.trans he.symm))⟩
    · intro hx
      rw [mem_rwA]
      rcases hx with rfl | ⟨hx, hn⟩
      · exact ⟨k, by rw [List.length_set]; exact hk, by rw [hs, if_pos rfl]⟩
      · obtain ⟨j, hj, rfl⟩ := (mem_rwA _ _).1 hx
        have e : j ≠ k := fun e => hn (by rw [e]; exact he)
        exact ⟨j, by rw [List.length_set]; exact hj, by rw [hs, if_neg e]⟩
  | false =>
    rw [if_neg (by decide)]
    have hk := hp.le
    have hi := rwA_ins l k r hk
    have hlen := insR_len l k r l.length rfl hk
    have hno := place_no hr hp hf
    refine ⟨fun i j hij hj => ?_, fun x => ?_, by omega⟩
    · rw [hlen] at hj
      rw [hi i, hi j]
      by_cases c1 : i < k
      · rw [if_pos c1]
        by_cases c2 : j < k
        · rw [if_pos c2]; exact hr i j hij (by omega)
        · rw [if_neg c2]
          by_cases c3 : j = k
          · rw [if_pos c3]; exact hp.low i c1
          · rw [if_neg c3]; exact hr i (j - 1) (by omega) (by omega)
      · rw [if_neg c1, if_neg (by omega : ¬ j < k), if_neg (by omega : ¬ j = k)]
        by_cases c3 : i = k
        · rw [if_pos c3]; exact hno (j - 1) (by omega) (by omega)
        · rw [if_neg c3]; exact hr (i - 1) (j - 1) (by omega) (by omega)
    · constructor
      · intro hx
        obtain ⟨j, hj, rfl⟩ := (mem_rwA _ _).1 hx
        rw [hlen] at hj
        rw [hi j]
        by_cases c1 : j < k
        · rw [if_pos c1]
          exact .inr ⟨rwA_mem l j (by omega), ne_of_lt (hp.low j c1)⟩
        · rw [if_neg c1]
          by_cases c2 : j = k
          · rw [if_pos c2]; exact .inl rfl
          · rw [if_neg c2]
            exact .inr ⟨rwA_mem l _ (by omega), fun e => ne_of_lt (hno (j - 1) (by omega) (by omega)) e.symm⟩
      · intro hx
        rw [mem_rwA]
        rcases hx with rfl | ⟨hx, hn⟩
        · exact ⟨k, by omega, by rw [hi, if_neg (by omega), if_pos rfl]⟩
        · obtain ⟨j, hj, rfl⟩ := (mem_rwA _ _).1 hx
          by_cases c1 : j < k
          · exact ⟨j, by omega, by rw [hi, if_pos c1]⟩
          · exact ⟨j + 1, by omega, by rw [hi, if_neg (by omega), if_neg (by omega)]; rfl⟩
theorem rises_cons {a : Rw} {s : List Rw} (h : Rises (a :: s)) : (∀ x, x ∈ s → ltB a.key x.key = true) ∧ Rises s := by
  refine ⟨fun x hx => ?_, fun i j hij hj => h (i + 1) (j + 1) (by omega) (by simpa using hj)⟩
  obtain ⟨j, hj, rfl⟩ := (mem_rwA _ _).1 hx
  exact h 0 (j + 1) (by omega) (by simpa using hj)
/-- Two that rise and have the same rows are the same. -/
theorem rises_ext : ∀ (l l' : List Rw), Rises l → Rises l' → (∀ x, x ∈ l ↔ x ∈ l') → l = l'
  | [], [], _, _, _ => rfl
  | [], b :: t, _, _, h => absurd ((h b).2 (List.mem_cons_self ..)) (by simp)
  | a :: s, [], _, _, h => absurd ((h a).1 (List.mem_cons_self ..)) (by simp)
  | a :: s, b :: t, h1, h2, h => by
    obtain ⟨a1, a2⟩ := rises_cons h1
    obtain ⟨b1, b2⟩ := rises_cons h2
    have e : a = b := by
      rcases List.mem_cons.1 ((h a).1 (List.mem_cons_self ..)) with e | q
      · exact e
      · rcases List.mem_cons.1 ((h b).2 (List.mem_cons_self ..)) with e | p
        · exact e.symm
        · have := ltB_trans (b1 a q) (a1 b p)
          rw [lt_irr] at this; cases this
    subst e
    have hs := rises_ext s t a2 b2 (fun x => by
      constructor
      · intro hx
        rcases List.mem_cons.1 ((h x).1 (List.mem_cons_of_mem _ hx)) with e | q
        · subst e; exact absurd rfl (ne_of_lt (a1 x hx))
        · exact q
      · intro hx
        rcases List.mem_cons.1 ((h x).2 (List.mem_cons_of_mem _ hx)) with e | q
        · subst e; exact absurd rfl (ne_of_lt (b1 x hx))
        · exact q)
    rw [hs]
end Go.Proofs.Ytebhcadolnjplaa
