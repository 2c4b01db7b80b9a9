/- Disks: a crash, as mathematics of what is kept. -/
import Derived.Test.YtfchjdhjbepocaaMn
import Derived.Test.YtfchjdhjbepocaaGu
namespace Go.Proofs.Ytfchjdhjbepocaa
open Go Go.RowKit

/-- A map of numbers. -/
def kmv (m : Tb Nat) : Tb Value := m.map fun q => (q.1, .int .i64 (q.2 : Int))
theorem kmv_at (m : Tb Nat) (k : Str) : ((kmv m).at? k).getD (.int .i64 0) = .int .i64 (((m.at? k).getD 0 : Nat) : Int) := by
  have : (kmv m).at? k = (m.at? k).map fun n => .int .i64 (n : Int) := Tb.at_map m (fun _ n => Value.int .i64 (n : Int)) k
  rw [this]
  cases m.at? k <;> rfl
theorem kmv_put (m : Tb Nat) (k : Str) (n : Nat) : kmv (m.put k n) = (kmv m).put k (.int .i64 (n : Int)) := by
  induction m with
  | nil => rfl
  | cons p l ih =>
    show (Tb.put (p :: l) k n).map _ = Tb.put ((p.1, Value.int .i64 (p.2 : Int)) :: kmv l) k _
    unfold Tb.put
    by_cases e : p.1 = k
    · rw [if_pos e, if_pos e]; rfl
    · rw [if_neg e, if_neg e, List.map_cons]; exact congrArg _ ih
theorem once_kmv {m : Tb Nat} (h : Once (kmv m)) : Once m := by
  unfold Once kmv at h
  rw [List.pairwise_map] at h
  exact h
theorem kmv_mid {m : Tb Nat} {A B : Tb Value} {k : Str} {v : Value} (h : kmv m = A ++ (k, v) :: B) : ∃ (A' B' : Tb Nat) (n : Nat), m = A' ++ (k, n) :: B' ∧ A = kmv A' ∧ B = kmv B' ∧ v = .int .i64 (n : Int) := by
  unfold kmv at h
  obtain ⟨A', R, rfl, h1, h2⟩ := List.map_eq_append_iff.1 h
  cases R with
  | nil => cases h2
  | cons q B' =>
    simp only [List.map_cons, List.cons.injEq, Prod.mk.injEq] at h2
    obtain ⟨⟨rfl, rfl⟩, rfl⟩ := h2
    exact ⟨A', B', q.2, rfl, h1.symm, rfl, rfl⟩
theorem kmv_app (A B : Tb Nat) : kmv A ++ kmv B = kmv (A ++ B) := by simp [kmv]
theorem keptF_drop (ps : List Pc) (k : Nat) (h : k < ps.length) (keep : Int) (m : Tb Nat) :
    keptF (ps.drop k) keep m = keptF (ps.drop (k + 1)) (keep - kept1 keep (pcA ps k).2) (m.put (pcA ps k).1 ((m.at? (pcA ps k).1).getD 0 + kept1 keep (pcA ps k).2)) := by
  rw [List.drop_eq_getElem_cons h]
  have : pcA ps k = ps[k] := by unfold pcA; rw [List.getD_eq_getElem?_getD, List.getElem?_eq_getElem h]; rfl
  rw [this]
  rfl
theorem crashF_nil (ps : List Pc) (fs : Tb (List B8)) : crashF ps [] fs = fs := by
  unfold crashF keptB
  simp [Tb.at?_nil]
theorem crashF_put (ps : List Pc) (m : Tb Nat) (fs : Tb (List B8)) (ho : Once fs) (k : Str) (n : Nat) (b : List B8) (hb : fs.at? k = some b) (hm : m.at? k = none) : crashF ps (m ++ [(k, n)]) fs = (crashF ps m fs).put k (left1 ps k n b) := by
  have hat : ∀ k', Tb.at? (m ++ [(k, n)]) k' = if k' = k then some n else m.at? k' := by
    intro k'
    clear hb ho
    induction m with
    | nil =>
      rw [List.nil_append, Tb.at?_cons, Tb.at?_nil]
      by_cases e : k = k'
      · rw [if_pos e, if_pos e.symm]
      · rw [if_neg e, if_neg (fun q => e q.symm)]
    | cons p m ih =>
      rw [Tb.at?_cons] at hm
      by_cases e : p.1 = k
      · rw [if_pos e] at hm; cases hm
      · rw [if_neg e] at hm
        rw [List.cons_append, Tb.at?_cons, Tb.at?_cons, ih hm]
        by_cases e2 : p.1 = k'
        · rw [if_pos e2, if_pos e2, if_neg (fun q => e (e2.trans q))]
        · rw [if_neg e2, if_neg e2]
  have key : ∀ (l : Tb (List B8)), Once l → crashF ps (m ++ [(k, n)]) l = if (l.at? k).isSome then (crashF ps m l).put k (left1 ps k n ((l.at? k).getD [])) else crashF ps m l := by
    intro l
    induction l with
    | nil => intro _; rfl
    | cons p l ih =>
      intro ho
      obtain ⟨h1, h2⟩ := List.pairwise_cons.1 ho
      have e1 : ∀ m', crashF ps m' (p :: l) = (p.1, keptB ps m' p.1 p.2) :: crashF ps m' l := fun _ => rfl
      rw [e1, e1, ih h2, Tb.at?_cons]
      by_cases e : p.1 = k
      · have hno : Tb.at? l k = none := Tb.at?_none fun q hq => by rw [← e]; exact (h1 q hq).symm
        rw [if_pos e, hno]
        simp only [Option.isSome_some, Option.isSome_none, if_true, Bool.false_eq_true, if_false, Option.getD_some]
        unfold Tb.put
        rw [if_pos e]
        congr 1
        unfold keptB
        rw [hat, if_pos e, e]
      · rw [if_neg e]
        have e3 : keptB ps (m ++ [(k, n)]) p.1 p.2 = keptB ps m p.1 p.2 := by unfold keptB; rw [hat, if_neg e]
        rw [e3]
        by_cases hs : (Tb.at? l k).isSome = true
        · rw [if_pos hs, if_pos hs]
          show _ = Tb.put _ _ _
          conv => rhs; unfold Tb.put
          rw [if_neg e]
        · rw [if_neg hs, if_neg hs]
  rw [key fs ho, hb]
  rfl
theorem crashF_congr (ps : List Pc) (m m' : Tb Nat) (fs : Tb (List B8)) (h : ∀ k, m.at? k = m'.at? k) : crashF ps m fs = crashF ps m' fs := by
  unfold crashF keptB
  refine List.map_congr_left fun f _ => ?_
  rw [h]
/-- What has been gone through, and what is left, of a map. -/
structure Part (m mk todo : Tb Nat) : Prop where
  once : Once todo
  sub : ∀ p, p ∈ todo → p ∈ m
  seen : ∀ k, mk.at? k = if (todo.at? k).isSome = true then none else m.at? k
theorem Part.start {m : Tb Nat} (h : Once m) : Part m [] m := ⟨h, fun _ h => h, fun k => by
  rw [Tb.at?_nil]
  cases e : m.at? k <;> simp⟩
theorem Part.done {m mk : Tb Nat} (h : Part m mk []) (k : Str) : mk.at? k = m.at? k := by
  rw [h.seen k, Tb.at?_nil]; simp
theorem at_mid {α : Type} (A B : Tb α) (q : Str) (n : α) (h : Once (A ++ (q, n) :: B)) (k : Str) : (A ++ (q, n) :: B).at? k = if k = q then some n else (A ++ B).at? k := by
  induction A with
  | nil =>
    rw [List.nil_append, List.nil_append, Tb.at?_cons]
    by_cases e : q = k
    · rw [if_pos e, if_pos e.symm]
    · rw [if_neg e, if_neg (fun r => e r.symm)]
  | cons p A ih =>
    obtain ⟨h1, h2⟩ := List.pairwise_cons.1 h
    rw [List.cons_append, List.cons_append, Tb.at?_cons, Tb.at?_cons, ih h2]
    by_cases e : p.1 = k
    · rw [if_pos e, if_pos e, if_neg]
      rintro rfl
      exact h1 (k, n) (by simp) e
    · rw [if_neg e, if_neg e]
theorem Part.step {m mk A B : Tb Nat} {q : Str} {n : Nat} (hm : Once m) (h : Part m mk (A ++ (q, n) :: B)) : Part m (mk ++ [(q, n)]) (A ++ B) ∧ m.at? q = some n ∧ mk.at? q = none := by
  have ho := h.once
  have hsub : (A ++ B).Sublist (A ++ (q, n) :: B) := List.Sublist.append_left (List.sublist_cons_self _ _) A
  have hq := Tb.mem_at hm (h.sub (q, n) (by simp))
  have hno : (A ++ B).at? q = none := Tb.at?_none fun p hp e => by
    have := List.pairwise_append.1 ho
    rcases List.mem_append.1 hp with hp | hp
    · exact this.2.2 p hp (q, n) (List.mem_cons_self ..) e
    · exact (List.pairwise_cons.1 this.2.1).1 p hp e.symm
  have hmk : mk.at? q = none := by rw [h.seen q, at_mid A B q n ho, if_pos rfl]; rfl
  refine ⟨⟨ho.sublist hsub, fun p hp => h.sub p (hsub.subset hp), fun k => ?_⟩, hq, hmk⟩
  have hat : Tb.at? (mk ++ [(q, n)]) k = if k = q then some n else mk.at? k := by
    by_cases e : k = q
    · subst e
      rw [if_pos rfl]
      have : ∀ l : Tb Nat, l.at? k = none → Tb.at? (l ++ [(k, n)]) k = some n := by
        intro l
        induction l with
        | nil => intro _; rw [List.nil_append, Tb.at?_cons, if_pos rfl]
        | cons p l ih =>
          intro hl
          rw [Tb.at?_cons] at hl
          rw [List.cons_append, Tb.at?_cons]
          by_cases e : p.1 = k
          · rw [if_pos e] at hl; cases hl
          · rw [if_neg e] at hl ⊢; exact ih hl
      exact this mk hmk
    · rw [if_neg e]
      have : ∀ l : Tb Nat, Tb.at? (l ++ [(q, n)]) k = l.at? k := by
        intro l
        induction l with
        | nil => rw [List.nil_append, Tb.at?_cons, if_neg (fun r => e r.symm)]
        | cons p l ih => rw [List.cons_append, Tb.at?_cons, Tb.at?_cons, ih]
      exact this mk
  rw [hat, h.seen k, at_mid A B q n ho]
  by_cases e : k = q
  · subst e; rw [if_pos rfl, hno, if_neg (by simp), hq]
  · rw [if_neg e, if_neg e]
theorem kept1_int (keep : Int) (n : Nat) : ((kept1 keep n : Nat) : Int) = min (max keep 0) (n : Int) := by unfold kept1; omega
end Go.Proofs.Ytfchjdhjbepocaa
