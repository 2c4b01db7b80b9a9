/- The document's own Turn, as mathematics: it tells what the program's tells. -/
import Derived.Test.YtdabdkedgigjdaaGreatSm
import Derived.Test.YtdabdkedgigjdaaGreatV
namespace Go.Proofs.YtdabdkedgigjdaaGreat

def eqSh (x y : Sh) : Bool := eqS x.sp y.sp && decide (x.g = y.g) && decide (x.e = y.e)
theorem eqSh_iff (x y : Sh) : eqSh x y = true ↔ x = y := by
  obtain ⟨s, g, e⟩ := x
  obtain ⟨t, h, f⟩ := y
  simp only [eqSh, Bool.and_eq_true, decide_eq_true_eq, eqS_iff, Sh.mk.injEq, and_assoc]
def atsM (i : Sp) : List Str := (if noB i.lo = true then [] else [i.lo]) ++ (if noB i.hi = true then [] else [i.hi])
def stepM (x : Sh) (i : Sp) (g ep : Int) (y : Sh) : List Sh := if eqSh y x = true then (rcutM y.sp (atsM i)).map (pieceM y i g ep) else [y]
def rturnM (ep : Int) (xs : List Sh) (i : Sp) (g : Int) : Int × List Sh :=
  if (sharesB ep xs && rightB i && groupB g) = true then
    match xs.find? (fun x => withinB i x.sp) with
    | none => (6, [])
    | some x => if x.g = g then (7, []) else
      if ep = 1073741824 ∨ 40 < (xs.flatMap (stepM x i g (ep + 1))).length then (8, []) else (0, xs.flatMap (stepM x i g (ep + 1)))
  else (2, [])

theorem ins_no {k : Str} (h : noB k = true) (ps : List Sp) : insM k ps = ps := ins_not ps fun p _ => by simp [hasB, no_key h]
theorem cut_ats (s i : Sp) : rcutM s (atsM i) = cutM s (sortS [i.lo, i.hi]) := by
  rw [← rcut_cut]
  unfold rcutM atsM
  cases h1 : noB i.lo <;> cases h2 : noB i.hi <;> simp [ins_no, h1, h2]
theorem lo_step {ps : List Sp} (h : partsM ps = true) (j : Nat) (hj : j + 1 < ps.length) : ltB (at1 ps j).lo (at1 ps (j + 1)).lo = true := by
  have hp := ((partsM_iff ps).1 h).2.2.2
  have h1 := (hp j (by omega)).1
  have h2 := (hp (j + 1) hj).2 (Nat.succ_pos _)
  rw [Nat.add_sub_cancel] at h2
  rw [← h2.2]
  simp only [rightB, Bool.and_eq_true] at h1
  have h3 := h1.2
  simpa [aboveB, h2.1] using h3
theorem lo_rise {ps : List Sp} (h : partsM ps = true) : ∀ (d j : Nat), j + 1 + d < ps.length → ltB (at1 ps j).lo (at1 ps (j + 1 + d)).lo = true
  | 0, j, hj => lo_step h j hj
  | d + 1, j, hj => ltB_trans (lo_rise h d j (by omega)) (lo_step h (j + 1 + d) (by omega))
theorem shares_apart {ep : Int} {xs : List Sh} (h : sharesB ep xs = true) {j k : Nat} (hj : j < xs.length) (hk : k < xs.length) (hn : j ≠ k) : eqSh (at2 xs j) (at2 xs k) = false := by
  have hp := (shares_parts h).2.2.2.1
  have key : ∀ a b, a < b → b < xs.length → at2 xs a ≠ at2 xs b := by
    intro a b hab hb e
    have h1 := lo_rise hp (b - a - 1) a (by rw [List.length_map]; omega)
    rw [show a + 1 + (b - a - 1) = b from by omega, at1_map xs a (by omega), at1_map xs b hb, e, ltB_irrefl] at h1
    cases h1
  cases he : eqSh (at2 xs j) (at2 xs k) with
  | false => rfl
  | true =>
    rw [eqSh_iff] at he
    rcases Nat.lt_or_gt_of_ne hn with h1 | h1
    · exact absurd he (key j k h1 hk)
    · exact absurd he.symm (key k j h1 hj)
theorem flat_self {α : Type} {f : α → List α} : ∀ {l : List α}, (∀ y ∈ l, f y = [y]) → l.flatMap f = l
  | [], _ => rfl
  | y :: l, h => by
    rw [List.flatMap_cons, h y (by simp), flat_self (fun z hz => h z (by simp [hz]))]; rfl
theorem flat_one' {ep : Int} {xs : List Sh} (h : sharesB ep xs = true) {k : Nat} (hk : k < xs.length) (i : Sp) (g ep' : Int) :
    xs.flatMap (stepM (at2 xs k) i g ep') = xs.take k ++ (cutShM (at2 xs k) i g ep' ++ xs.drop (k + 1)) := by
  have hs := split_at2 xs k hk
  have e1 : (xs.take k).flatMap (stepM (at2 xs k) i g ep') = xs.take k := flat_self fun y hy => by
    obtain ⟨j, hj, rfl⟩ := List.getElem_of_mem hy
    rw [List.length_take] at hj
    rw [List.getElem_take]
    have := shares_apart h (j := j) (k := k) (by omega) hk (by omega)
    rw [at2_get xs j (by omega)] at this
    unfold stepM
    rw [this]; rfl
  have e2 : (xs.drop (k + 1)).flatMap (stepM (at2 xs k) i g ep') = xs.drop (k + 1) := flat_self fun y hy => by
    obtain ⟨j, hj, rfl⟩ := List.getElem_of_mem hy
    rw [List.length_drop] at hj
    rw [List.getElem_drop]
    have := shares_apart h (j := k + 1 + j) (k := k) (by omega) hk (by omega)
    rw [at2_get xs (k + 1 + j) (by omega)] at this
    unfold stepM
    rw [this]; rfl
  have e3 : stepM (at2 xs k) i g ep' (at2 xs k) = cutShM (at2 xs k) i g ep' := by
    unfold stepM
    rw [(eqSh_iff _ _).2 rfl, if_pos rfl, cut_ats]; rfl
  generalize at2 xs k = x at *
  conv => lhs; rw [hs]
  rw [List.flatMap_append, List.flatMap_cons, e1, e2, e3]
theorem rturn_eq (ep : Int) (xs : List Sh) (i : Sp) (g : Int) : rturnM ep xs i g = turnM ep xs i g := by
  unfold rturnM turnM
  by_cases h0 : (sharesB ep xs && rightB i && groupB g) = true
  · rw [if_pos h0, if_pos h0]
    have hs : sharesB ep xs = true := by simp only [Bool.and_eq_true] at h0; exact h0.1.1
    cases h1 : xs.findIdx? (fun x => withinB i x.sp) with
    | none =>
      have h2 : xs.find? (fun x => withinB i x.sp) = none := by
        rw [List.findIdx?_eq_none_iff] at h1
        rw [List.find?_eq_none]
        intro x hx; simp [h1 x hx]
      rw [h2]
    | some k =>
      rw [List.findIdx?_eq_some_iff_getElem] at h1
      obtain ⟨hk, hw, hb⟩ := h1
      have h2 : xs.find? (fun x => withinB i x.sp) = some (at2 xs k) := by
        rw [List.find?_eq_some_iff_getElem, at2_get xs k hk]
        exact ⟨hw, k, hk, rfl, fun j hj => by simpa using hb j hj⟩
      rw [h2]
      simp only
      rw [flat_one' hs hk]
      by_cases h3 : (at2 xs k).g = g
      · rw [if_pos h3, if_pos h3]
      · rw [if_neg h3, if_neg h3]
        have he := (shares_parts hs).2.2.1
        have e4 : (ep = 1073741824 ∨ 40 < (xs.take k ++ (cutShM (at2 xs k) i g (ep + 1) ++ xs.drop (k + 1))).length) ↔ (1073741824 < ep + 1 ∨ 40 < (xs.take k ++ (cutShM (at2 xs k) i g (ep + 1) ++ xs.drop (k + 1))).length) := by
          constructor <;> (rintro (h | h) <;> first | exact .inl (by omega) | exact .inr h)
        simp only [e4]
  · rw [if_neg h0, if_neg h0]
end Go.Proofs.YtdabdkedgigjdaaGreat
