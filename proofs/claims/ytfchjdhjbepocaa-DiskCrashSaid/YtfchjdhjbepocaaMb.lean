/- Disks as plain mathematics: files, what waits of them, what a crash leaves. -/
import Derived.Test.YtfchjdhjbepocaaMa
namespace Go.Proofs.Ytfchjdhjbepocaa

abbrev B8 := BitVec 8
abbrev Pc := Str × Nat
structure Dk where
  size : Int
  ps : List Pc
  fs : Tb (List B8)
def used (fs : Tb (List B8)) : Nat := (fs.map fun p => p.2.length).sum
def many (ps : List Pc) : Nat := (ps.map Prod.snd).sum
def ofP (ps : List Pc) (k : Str) : Nat := many (ps.filter fun p => p.1 = k)
def settle (ps : List Pc) (k : Str) : List Pc := ps.filter fun p => ¬ p.1 = k
/-- What a file has. -/
def Dk.file (D : Dk) (k : Str) : List B8 := (D.fs.at? k).getD []
def Dk.append (D : Dk) (k : Str) (bs : List B8) : Dk :=
  { D with fs := D.fs.put k (D.file k ++ bs), ps := if bs.length = 0 then D.ps else D.ps ++ [(k, bs.length)] }
def Dk.sync (D : Dk) (k : Str) : Dk := { D with ps := settle D.ps k }
/-- So many are kept of a piece. -/
def kept1 (keep : Int) (n : Nat) : Nat := (min (max keep 0) n).toNat
def keptF : List Pc → Int → Tb Nat → Tb Nat
  | [], _, m => m
  | p :: r, keep, m => keptF r (keep - kept1 keep p.2) (m.put p.1 ((m.at? p.1).getD 0 + kept1 keep p.2))
def left1 (ps : List Pc) (k : Str) (n : Nat) (b : List B8) : List B8 := b.take (b.length - ofP ps k + n)
def keptB (ps : List Pc) (m : Tb Nat) (k : Str) (b : List B8) : List B8 := match m.at? k with | none => b | some n => left1 ps k n b
def crashF (ps : List Pc) (m : Tb Nat) (fs : Tb (List B8)) : Tb (List B8) :=
  fs.map fun f => (f.1, keptB ps m f.1 f.2)
def Dk.crash (D : Dk) (keep : Int) : Dk := { D with fs := crashF D.ps (keptF D.ps keep []) D.fs, ps := [] }
/-- What waits of a file is its end. -/
structure Dk.Inv (D : Dk) : Prop where
  once : Once D.fs
  pos : ∀ p ∈ D.ps, 0 < p.2
  within : ∀ k, ofP D.ps k ≤ (D.file k).length

theorem many_append (a b : List Pc) : many (a ++ b) = many a + many b := by simp [many]
theorem many_cons (p : Pc) (l : List Pc) : many (p :: l) = p.2 + many l := by simp [many]
theorem ofP_append (a b : List Pc) (k : Str) : ofP (a ++ b) k = ofP a k + ofP b k := by simp [ofP, many_append]
theorem ofP_cons (p : Pc) (l : List Pc) (k : Str) : ofP (p :: l) k = (if p.1 = k then p.2 else 0) + ofP l k := by
  unfold ofP
  by_cases h : p.1 = k
  · rw [List.filter_cons, if_pos (by simpa using h), many_cons, if_pos h]
  · rw [List.filter_cons, if_neg (by simpa using h), if_neg h, Nat.zero_add]
theorem ofP_nil (k : Str) : ofP [] k = 0 := rfl
theorem ofP_le (l : List Pc) (k : Str) : ofP l k ≤ many l := by
  induction l with
  | nil => exact Nat.le_refl _
  | cons p l ih => rw [ofP_cons, many_cons]; split <;> omega
theorem ofP_settle (l : List Pc) (k k' : Str) : ofP (settle l k) k' = if k = k' then 0 else ofP l k' := by
  induction l with
  | nil => simp [settle, ofP_nil]
  | cons p l ih =>
    unfold settle at ih ⊢
    by_cases h : p.1 = k
    · rw [List.filter_cons, if_neg (by simpa using h), ih, ofP_cons]
      by_cases h2 : k = k'
      · rw [if_pos h2, if_pos h2]
      · rw [if_neg h2, if_neg h2, if_neg (by rw [h]; exact h2), Nat.zero_add]
    · rw [List.filter_cons, if_pos (by simpa using h), ofP_cons, ih, ofP_cons]
      by_cases h2 : k = k'
      · rw [if_pos h2, if_neg (by rw [← h2]; exact h), if_pos h2]
      · rw [if_neg h2, if_neg h2]
theorem ofP_all {l : List Pc} {k : Str} (h : ∀ p ∈ l, p.1 = k) : ofP l k = many l := by
  unfold ofP
  rw [List.filter_eq_self.2 fun p hp => by simpa using h p hp]
theorem ofP_pos {l : List Pc} {p : Pc} (h : p ∈ l) (hp : 0 < p.2) : 0 < ofP l p.1 := by
  induction l with
  | nil => cases h
  | cons q l ih =>
    rw [ofP_cons]
    rcases List.mem_cons.1 h with rfl | h
    · rw [if_pos rfl]; omega
    · have := ih h; omega
theorem Dk.Inv.new (size : Int) : Dk.Inv ⟨size, [], []⟩ := ⟨List.Pairwise.nil, fun _ h => (by cases h), fun _ => Nat.zero_le _⟩
theorem Dk.file_append (D : Dk) (k k' : Str) (bs : List B8) : (D.append k bs).file k' = if k = k' then D.file k ++ bs else D.file k' := by
  unfold Dk.append Dk.file
  simp only [Tb.at_put]
  by_cases h : k = k'
  · rw [if_pos h, if_pos h]; rfl
  · rw [if_neg h, if_neg h]
theorem Dk.Inv.append {D : Dk} (h : D.Inv) (k : Str) (bs : List B8) : (D.append k bs).Inv := by
  refine ⟨h.once.put _ _, fun p hp => ?_, fun k' => ?_⟩
  · unfold Dk.append at hp
    simp only at hp
    split at hp
    · exact h.pos p hp
    · rcases List.mem_append.1 hp with hp | hp
      · exact h.pos p hp
      · rw [List.mem_singleton.1 hp]; show 0 < bs.length; omega
  · rw [Dk.file_append]
    have h1 : ofP (D.append k bs).ps k' = ofP D.ps k' + if k = k' then bs.length else 0 := by
      unfold Dk.append
      simp only
      split
      · rename_i e; split <;> omega
      · rw [ofP_append, ofP_cons, ofP_nil]; simp
    rw [h1]
    have := h.within k'
    split
    · rename_i e; subst e; rw [List.length_append]; omega
    · omega
theorem Dk.Inv.sync {D : Dk} (h : D.Inv) (k : Str) : (D.sync k).Inv :=
  ⟨h.once, fun p hp => h.pos p (List.mem_filter.1 hp).1, fun k' => by
    show ofP (settle D.ps k) k' ≤ _
    rw [ofP_settle]
    have := h.within k'
    split
    · exact Nat.zero_le _
    · exact this⟩
theorem Dk.Inv.there {D : Dk} (h : D.Inv) {p : Pc} (hp : p ∈ D.ps) : (D.fs.at? p.1).isSome = true := by
  have h1 := ofP_pos hp (h.pos p hp)
  have h2 := h.within p.1
  unfold Dk.file at h2
  cases e : D.fs.at? p.1 with
  | none => rw [e] at h2; simp at h2; omega
  | some v => rfl
theorem kept1_le (keep : Int) (n : Nat) : kept1 keep n ≤ n := by unfold kept1; omega
theorem keptF_once (l : List Pc) (keep : Int) (m : Tb Nat) (h : Once m) : Once (keptF l keep m) := by
  induction l generalizing keep m with
  | nil => exact h
  | cons p l ih => exact ih _ _ (h.put _ _)
theorem keptF_le (l : List Pc) (keep : Int) (m : Tb Nat) (k : Str) : ((keptF l keep m).at? k).getD 0 ≤ (m.at? k).getD 0 + ofP l k := by
  induction l generalizing keep m with
  | nil => exact Nat.le_add_right _ _
  | cons p l ih =>
    have h1 := ih (keep - kept1 keep p.2) (m.put p.1 ((m.at? p.1).getD 0 + kept1 keep p.2))
    have h2 := kept1_le keep p.2
    rw [Tb.at_put] at h1
    rw [ofP_cons]
    show ((keptF l _ _).at? k).getD 0 ≤ _
    by_cases e : p.1 = k
    · rw [if_pos e, Option.getD_some] at h1
      rw [if_pos e, ← e]
      rw [← e] at h1
      omega
    · rw [if_neg e] at h1
      rw [if_neg e]
      omega
theorem keptF_some (l : List Pc) (keep : Int) (m : Tb Nat) (k : Str) : ((keptF l keep m).at? k).isSome = ((m.at? k).isSome || l.any fun p => p.1 = k) := by
  induction l generalizing keep m with
  | nil => simp [keptF]
  | cons p l ih =>
    show ((keptF l _ _).at? k).isSome = _
    rw [ih, Tb.at_put, List.any_cons]
    by_cases e : p.1 = k <;> simp [e]
theorem kept1_two (keep : Int) (a b : Nat) : kept1 keep a + kept1 (keep - kept1 keep a) b = kept1 keep (a + b) := by unfold kept1; omega
theorem keptF_all (l : List Pc) (keep : Int) (m : Tb Nat) (k : Str) (h : ∀ p ∈ l, p.1 = k) : ((keptF l keep m).at? k).getD 0 = (m.at? k).getD 0 + kept1 keep (many l) := by
  induction l generalizing keep m with
  | nil => show (m.at? k).getD 0 = _; simp [many, kept1]; omega
  | cons p l ih =>
    show ((keptF l _ _).at? k).getD 0 = _
    have e := h p (List.mem_cons_self ..)
    rw [ih _ _ fun q hq => h q (List.mem_cons_of_mem _ hq), Tb.at_put, if_pos e, e, many_cons, Option.getD_some, Nat.add_assoc, kept1_two]
theorem Tb.at_map {α β : Type} (l : Tb α) (f : Str → α → β) (k : Str) : Tb.at? (l.map fun p => (p.1, f p.1 p.2)) k = (l.at? k).map (f k) := by
  induction l with
  | nil => rfl
  | cons p l ih =>
    rw [List.map_cons, Tb.at?_cons, Tb.at?_cons, ih]
    by_cases e : p.1 = k
    · rw [if_pos e, if_pos e, e]; rfl
    · rw [if_neg e, if_neg e]
theorem Once.map {α β : Type} {l : Tb α} (h : Once l) (f : Str → α → β) : Once (l.map fun p => (p.1, f p.1 p.2)) := List.pairwise_map.2 (List.Pairwise.imp (fun h => h) h)
theorem crashF_at (ps : List Pc) (m : Tb Nat) (fs : Tb (List B8)) (k : Str) : (crashF ps m fs).at? k = (fs.at? k).map (keptB ps m k) :=
  Tb.at_map fs (keptB ps m) k
theorem Dk.Inv.crash {D : Dk} (h : D.Inv) (keep : Int) : (D.crash keep).Inv :=
  ⟨Once.map h.once (keptB D.ps (keptF D.ps keep [])), fun _ h => (by cases h), fun _ => Nat.zero_le _⟩
theorem used_put {fs : Tb (List B8)} (ho : Once fs) (k : Str) (b : List B8) : used (fs.put k b) + ((fs.at? k).getD []).length = used fs + b.length := by
  induction fs with
  | nil => simp [used, Tb.put, Tb.at?_nil]
  | cons p l ih =>
    obtain ⟨h1, h2⟩ := List.pairwise_cons.1 ho
    have ih := ih h2
    rw [Tb.at?_cons]
    unfold Tb.put
    by_cases e : p.1 = k
    · rw [if_pos e, if_pos e]
      simp only [used, List.map_cons, List.sum_cons, Option.getD_some]
      omega
    · rw [if_neg e, if_neg e]
      simp only [used, List.map_cons, List.sum_cons] at ih ⊢
      omega
theorem used_append {D : Dk} (h : D.Inv) (k : Str) (bs : List B8) : used (D.append k bs).fs = used D.fs + bs.length := by
  have := used_put h.once k (D.file k ++ bs)
  rw [List.length_append] at this
  show used (D.fs.put k (D.file k ++ bs)) = _
  unfold Dk.file at this ⊢
  omega
theorem file_le_used {fs : Tb (List B8)} (k : Str) : ((fs.at? k).getD []).length ≤ used fs := by
  induction fs with
  | nil => exact Nat.zero_le _
  | cons p l ih =>
    rw [Tb.at?_cons]
    simp only [used, List.map_cons, List.sum_cons] at ih ⊢
    split
    · rw [Option.getD_some]; omega
    · omega
theorem mem_le_used {fs : Tb (List B8)} {p : Str × List B8} (h : p ∈ fs) : p.2.length ≤ used fs := by
  induction fs with
  | nil => cases h
  | cons q l ih =>
    simp only [used, List.map_cons, List.sum_cons] at ih ⊢
    rcases List.mem_cons.1 h with rfl | h
    · omega
    · have := ih h; omega
theorem used_crash (ps : List Pc) (m : Tb Nat) (fs : Tb (List B8)) : used (crashF ps m fs) ≤ used fs := by
  induction fs with
  | nil => exact Nat.le_refl _
  | cons p l ih =>
    simp only [used, crashF, List.map_cons, List.sum_cons] at ih ⊢
    have : (keptB ps m p.1 p.2).length ≤ p.2.length := by
      unfold keptB
      split
      · exact Nat.le_refl _
      · unfold left1; rw [List.length_take]; omega
    omega
end Go.Proofs.Ytfchjdhjbepocaa
