/- Disks as mathematics: Cut, Rename, Remove. -/
import Derived.Test.YtfchjdhjbepocaaMv
namespace Go.Proofs.Ytfchjdhjbepocaa
open Go Go.RowKit

/-- So many of the last bytes of k that wait are taken. -/
def sh (k : Str) : List Pc → Nat → List Pc × Nat
  | [], n => ([], n)
  | p :: l, n => if p.1 = k then ((p.1, p.2 - min (sh k l n).2 p.2) :: (sh k l n).1, (sh k l n).2 - min (sh k l n).2 p.2) else (p :: (sh k l n).1, (sh k l n).2)
theorem sh_cons (k : Str) (p : Pc) (l : List Pc) (n : Nat) : sh k (p :: l) n = if p.1 = k then ((p.1, p.2 - min (sh k l n).2 p.2) :: (sh k l n).1, (sh k l n).2 - min (sh k l n).2 p.2) else (p :: (sh k l n).1, (sh k l n).2) := rfl
theorem sh_len (k : Str) (l : List Pc) (n : Nat) : (sh k l n).1.length = l.length := by
  induction l with
  | nil => rfl
  | cons p l ih => rw [sh_cons]; split <;> simp [ih]
theorem sh_zero (k : Str) (l : List Pc) : sh k l 0 = (l, 0) := by
  induction l with
  | nil => rfl
  | cons p l ih => rw [sh_cons, ih]; simp
theorem sh_app (k : Str) (a b : List Pc) (n : Nat) : sh k (a ++ b) n = ((sh k a (sh k b n).2).1 ++ (sh k b n).1, (sh k a (sh k b n).2).2) := by
  induction a with
  | nil => rfl
  | cons p a ih =>
    rw [List.cons_append, sh_cons, sh_cons, ih]
    split <;> rfl
theorem sh_of (k : Str) (l : List Pc) (n : Nat) : ofP (sh k l n).1 k = ofP l k - n ∧ (sh k l n).2 = n - ofP l k := by
  induction l with
  | nil => simp [sh, ofP_nil]
  | cons p l ih =>
    rw [sh_cons, ofP_cons]
    by_cases e : p.1 = k
    · rw [if_pos e, if_pos e, ofP_cons, if_pos e]
      simp only
      omega
    · rw [if_neg e, if_neg e, ofP_cons, if_neg e]
      simp only
      omega
theorem sh_other (k k' : Str) (l : List Pc) (n : Nat) (h : k' ≠ k) : ofP (sh k l n).1 k' = ofP l k' := by
  induction l with
  | nil => rfl
  | cons p l ih =>
    rw [sh_cons, ofP_cons]
    by_cases e : p.1 = k
    · have e2 : ¬ p.1 = k' := by rw [e]; exact fun q => h q.symm
      simp only [if_pos e, ofP_cons, ih, if_neg e2]
    · rw [if_neg e, ofP_cons, ih]
def zB (r : Pc) : Bool := decide (r.2 = 0)
theorem ofP_zB (l : List Pc) (k : Str) : ofP (stay zB l) k = ofP l k := by
  induction l with
  | nil => rfl
  | cons p l ih =>
    unfold stay zB at ih ⊢
    rw [List.filter_cons, ofP_cons]
    by_cases h : p.2 = 0
    · rw [if_neg (by simp [h]), ih, h]; simp
    · rw [if_pos (by simp [h]), ofP_cons, ih]
theorem stay_sub (q : Pc → Bool) (l : List Pc) : (stay q l).length ≤ l.length := List.length_filter_le _ _
def Dk.cut (D : Dk) (k : Str) (n : Nat) : Dk := ⟨D.size, stay zB (sh k D.ps ((D.file k).length - n)).1, D.fs.put k ((D.file k).take n)⟩
theorem file_put (sz : Int) (ps : List Pc) (fs : Tb (List B8)) (k k' : Str) (b : List B8) : (Dk.mk sz ps (fs.put k b)).file k' = if k = k' then b else (fs.at? k').getD [] := by
  unfold Dk.file
  rw [Tb.at_put]
  split <;> rfl
theorem Dk.Inv.cut {D : Dk} (h : D.Inv) (k : Str) (n : Nat) (hn : n ≤ (D.file k).length) : (D.cut k n).Inv := by
  refine ⟨h.once.put _ _, fun p hp => ?_, fun k' => ?_⟩
  · have := (List.mem_filter.1 hp).2
    unfold zB at this
    simp at this
    omega
  · unfold Dk.cut
    rw [ofP_zB, file_put]
    have h1 := h.within k'
    by_cases e : k = k'
    · subst e
      rw [if_pos rfl, (sh_of k D.ps _).1, List.length_take]
      omega
    · rw [if_neg e, sh_other k k' _ _ (fun q => e q.symm)]
      exact h1
/-- Pieces of a given to b. -/
def mvP (a b : Str) (l : List Pc) : List Pc := l.map fun p => if p.1 = a then (b, p.2) else p
theorem mvP_len (a b : Str) (l : List Pc) : (mvP a b l).length = l.length := List.length_map _
theorem ofP_mvP (a b k : Str) (l : List Pc) (hab : a ≠ b) (hb : ofP l b = 0) : ofP (mvP a b l) k = if k = b then ofP l a else if k = a then 0 else ofP l k := by
  induction l with
  | nil => simp [mvP, ofP_nil]
  | cons p l ih =>
    rw [ofP_cons] at hb
    have ih := ih (by omega)
    unfold mvP at ih ⊢
    rw [List.map_cons, ofP_cons, ih, ofP_cons, ofP_cons]
    by_cases e : p.1 = a
    · rw [if_pos e]
      simp only
      by_cases e2 : k = b
      · subst e2; simp [e]
      · rw [if_neg (fun q => e2 q.symm), if_neg e2, if_neg e2]
        by_cases e3 : k = a
        · simp [e3]
        · rw [if_neg e3, if_neg e3, if_neg (by rw [e]; exact fun q => e3 q.symm)]
    · rw [if_neg e, if_neg e]
      by_cases e2 : k = b
      · subst e2
        by_cases e4 : p.1 = k
        · rw [if_pos e4] at hb ⊢; simp; omega
        · simp [e4]
      · rw [if_neg e2, if_neg e2]
        by_cases e3 : k = a
        · rw [if_pos e3, if_pos e3, if_neg (by rw [e3]; exact e)]
        · rw [if_neg e3, if_neg e3]
def Dk.move (D : Dk) (a b : Str) : Dk := ⟨D.size, mvP a b (settle D.ps b), (D.fs.del a).put b (D.file a)⟩
theorem Dk.Inv.move {D : Dk} (h : D.Inv) (a b : Str) (hab : a ≠ b) : (D.move a b).Inv := by
  have hs : ofP (settle D.ps b) b = 0 := by rw [ofP_settle, if_pos rfl]
  refine ⟨(h.once.del a).put _ _, fun p hp => ?_, fun k => ?_⟩
  · obtain ⟨q, hq, e⟩ := List.mem_map.1 hp
    have := h.pos q (List.mem_filter.1 hq).1
    rw [← e]
    split
    · exact this
    · exact this
  · unfold Dk.move
    rw [ofP_mvP a b k _ hab hs, file_put]
    by_cases e : k = b
    · rw [if_pos e, if_pos e.symm, ofP_settle, if_neg (fun q : b = a => hab q.symm)]
      exact h.within a
    · have e' : ¬ b = k := fun q => e q.symm
      rw [if_neg e, if_neg e', Tb.at_del h.once]
      by_cases e2 : k = a
      · rw [if_pos e2]; exact Nat.zero_le _
      · have e2' : ¬ a = k := fun q => e2 q.symm
        rw [if_neg e2, if_neg e2', ofP_settle, if_neg e']
        exact h.within k
def Dk.rem (D : Dk) (k : Str) : Dk := ⟨D.size, settle D.ps k, D.fs.del k⟩
theorem Dk.Inv.rem {D : Dk} (h : D.Inv) (k : Str) : (D.rem k).Inv := by
  refine ⟨h.once.del k, fun p hp => h.pos p (List.mem_filter.1 hp).1, fun k' => ?_⟩
  show ofP (settle D.ps k) k' ≤ (((D.fs.del k).at? k').getD []).length
  rw [ofP_settle, Tb.at_del h.once]
  split
  · exact Nat.zero_le _
  · exact h.within k'
theorem used_del {fs : Tb (List B8)} (ho : Once fs) (k : Str) : used (fs.del k) + ((fs.at? k).getD []).length = used fs := by
  induction fs with
  | nil => rfl
  | cons p l ih =>
    obtain ⟨h1, h2⟩ := List.pairwise_cons.1 ho
    rw [Tb.at?_cons]
    unfold Tb.del
    by_cases e : p.1 = k
    · rw [if_pos e, if_pos e]
      simp only [used, List.map_cons, List.sum_cons, Option.getD_some]
      omega
    · rw [if_neg e, if_neg e]
      have := ih h2
      simp only [used, List.map_cons, List.sum_cons] at this ⊢
      omega
theorem used_cut {D : Dk} (h : D.Inv) (k : Str) (n : Nat) : used (D.cut k n).fs ≤ used D.fs := by
  have := used_put h.once k ((D.file k).take n)
  rw [List.length_take] at this
  show used (D.fs.put k _) ≤ _
  unfold Dk.file at this ⊢
  omega
theorem used_move {D : Dk} (h : D.Inv) (a b : Str) : used (D.move a b).fs ≤ used D.fs := by
  have h1 := used_del h.once a
  have h2 := used_put (h.once.del a) b (D.file a)
  show used ((D.fs.del a).put b _) ≤ _
  unfold Dk.file at h2 ⊢
  omega
theorem used_rem {D : Dk} (h : D.Inv) (k : Str) : used (D.rem k).fs ≤ used D.fs := by
  have h1 := used_del h.once k
  show used (D.fs.del k) ≤ _
  omega
end Go.Proofs.Ytfchjdhjbepocaa
