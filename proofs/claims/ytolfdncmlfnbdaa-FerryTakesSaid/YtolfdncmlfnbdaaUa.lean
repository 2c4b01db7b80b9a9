/- Configurations, as the document's text takes them apart; the nodes of a configuration: rising, each once. No program is imported. -/
import Derived.Test.YtolfdncmlfnbdaaQa
namespace Go.Proofs.Ytolfdncmlfnbdaa

theorem newsL_nil (v : List Int) : newsL v [] = [] := rfl
theorem newsL_notin (v want : List Int) (x : Int) (h : x ∈ newsL v want) : inB x v = false := by
  unfold newsL at h
  have := (List.mem_filter.1 h).2
  simpa using this
theorem sameB_eq {a b : List Int} (h : sameB a b = true) : a = b := by unfold sameB at h; simpa using h
theorem noB_eq {a : List Int} (h : noB a = true) : a = [] := by unfold noB at h; simpa using h
/-- Has a row one of another one? -/
def anyB (l m : List Int) : Bool := l.any fun x => inB x m
/-- What is right, in the order of the document's text. -/
theorem right_rows4 (c : Cfg) (h : (rowB c.vs && rowB c.os && rowB c.ls && rowB c.ws) = false) : rightB c = false := by unfold rightB; rw [h]; rfl
theorem right_none (c : Cfg) (h1 : rowB c.vs = true) (h2 : rowB c.os = true) (h3 : rowB c.ls = true) (h4 : rowB c.ws = true) (hv : noB c.vs = true) : rightB c = decide (c.os.length + c.ls.length + c.ws.length = 0) := by
  unfold rightB
  rw [h1, h2, h3, h4, hv]
  simp only [Bool.and_true, if_true, noB]
  by_cases a : c.os.length = 0 <;> by_cases b : c.ls.length = 0 <;> by_cases d : c.ws.length = 0 <;> simp [a, b, d] <;> omega
theorem right_some (c : Cfg) (h1 : rowB c.vs = true) (h2 : rowB c.os = true) (h3 : rowB c.ls = true) (h4 : rowB c.ws = true) (hv : noB c.vs = false) :
    rightB c = if anyB c.ls c.vs then false else if noB c.os then (if noB c.ws then noB c.ls else !sameB c.ws c.vs && sameB c.ls (newsL c.vs c.ws)) else sameB c.ws c.vs && noB c.ls := by
  unfold rightB
  rw [h1, h2, h3, h4, hv]
  simp only [Bool.and_true, if_true, wantB]
  cases ha : anyB c.ls c.vs with
  | false =>
    simp only [Bool.false_eq_true, if_false]
    cases ho : noB c.os with
    | true => simp
    | false =>
      cases hw : noB c.ws with
      | false => simp
      | true =>
        have e := noB_eq hw
        have : sameB c.ws c.vs = false := decide_eq_false (fun e2 => by rw [← e2, hw] at hv; cases hv)
        simp [this]
  | true =>
    have hl : noB c.ls = false := by
      cases hl : noB c.ls with
      | false => rfl
      | true => rw [noB_eq hl] at ha; cases ha
    have hn : ∀ w, sameB c.ls (newsL c.vs w) = false := fun w => decide_eq_false (fun e2 => by
      rw [anyB, List.any_eq_true] at ha
      obtain ⟨x, hx, hi⟩ := ha
      rw [e2] at hx
      rw [newsL_notin _ _ _ hx] at hi
      cases hi)
    simp [hl, hn]

theorem anyB_take (l m : List Int) (k : Nat) (h : k < l.length) : anyB (l.take (k + 1)) m = (anyB (l.take k) m || inB (l.getD k 0) m) := by
  rw [List.take_succ_eq_append_getElem h, anyB, anyB, List.any_append]
  simp [h]
theorem anyB_mem (l m : List Int) (k : Nat) (h : k < l.length) (h1 : inB (l.getD k 0) m = true) : anyB l m = true := by
  rw [anyB, List.any_eq_true]
  exact ⟨l.getD k 0, by simp [h], h1⟩

/-- A row rises, each number once. -/
def Rises (l : List Int) : Prop := l.Pairwise (· < ·)
theorem rises_one {a b : List Int} (ha : Rises a) (hb : Rises b) (h : ∀ x, x ∈ a ↔ x ∈ b) : a = b := by
  induction a generalizing b with
  | nil =>
    cases b with
    | nil => rfl
    | cons y r => exact absurd ((h y).2 (by simp)) (by simp)
  | cons x r ih =>
    cases b with
    | nil => exact absurd ((h x).1 (by simp)) (by simp)
    | cons y s =>
      have hx := List.pairwise_cons.1 ha
      have hy := List.pairwise_cons.1 hb
      have e : x = y := by
        have h1 := (h x).1 (by simp)
        have h2 := (h y).2 (by simp)
        rcases List.mem_cons.1 h1 with e | h1
        · exact e
        · rcases List.mem_cons.1 h2 with e | h2
          · exact e.symm
          · have := hy.1 x h1
            have := hx.1 y h2
            omega
      subst e
      rw [ih hx.2 hy.2 fun z => ?_]
      constructor
      · intro hz
        rcases List.mem_cons.1 ((h z).1 (List.mem_cons_of_mem _ hz)) with e | h2
        · have := hx.1 z hz; omega
        · exact h2
      · intro hz
        rcases List.mem_cons.1 ((h z).2 (List.mem_cons_of_mem _ hz)) with e | h2
        · have := hy.1 z hz; omega
        · exact h2
def allL (c : Cfg) : List Int := c.vs ++ (c.os ++ c.ls)
/-- These are the nodes of a configuration. -/
def NodesOf (c : Cfg) (l : List Int) : Prop := Rises l ∧ ∀ x, x ∈ l ↔ x ∈ allL c
theorem nodes_one {c : Cfg} {a b : List Int} (ha : NodesOf c a) (hb : NodesOf c b) : a = b := rises_one ha.1 hb.1 fun x => (ha.2 x).trans (hb.2 x).symm

/-- The least of a row and a number. -/
def leastL (a : Int) (l : List Int) : Int := l.foldl min a
theorem leastL_take (a : Int) (l : List Int) (k : Nat) (h : k < l.length) : leastL a (l.take (k + 1)) = min (leastL a (l.take k)) (l.getD k 0) := by
  rw [List.take_succ_eq_append_getElem h, leastL, List.foldl_append]
  simp [h, leastL]
theorem leastL_le (a : Int) (l : List Int) : leastL a l ≤ a ∧ (∀ x ∈ l, leastL a l ≤ x) ∧ (leastL a l = a ∨ leastL a l ∈ l) := by
  induction l generalizing a with
  | nil => exact ⟨Int.le_refl _, by simp, .inl rfl⟩
  | cons y r ih =>
    obtain ⟨h1, h2, h3⟩ := ih (min a y)
    have e : leastL a (y :: r) = leastL (min a y) r := rfl
    rw [e]
    refine ⟨by omega, fun x hx => ?_, ?_⟩
    · rcases List.mem_cons.1 hx with rfl | hx
      · omega
      · exact h2 x hx
    · rcases h3 with h3 | h3
      · by_cases hay : a ≤ y
        · left; rw [h3]; omega
        · right; rw [h3]; rw [show min a y = y by omega]; simp
      · right; exact List.mem_cons_of_mem _ h3
/-- What is taken out one by one, the least first. -/
theorem step_nodes {all out l : List Int} (hr : Rises out) (hm : ∀ x, x ∈ all ↔ x ∈ out ∨ x ∈ l) (hlt : ∀ x ∈ out, ∀ y ∈ l, x < y) (z : Int) (hz : z ∈ l) (hmin : ∀ y ∈ l, z ≤ y) :
    Rises (out ++ [z]) ∧ (∀ x, x ∈ all ↔ x ∈ out ++ [z] ∨ x ∈ newsL [z] l) ∧ (∀ x ∈ out ++ [z], ∀ y ∈ newsL [z] l, x < y) ∧ (newsL [z] l).length < l.length := by
  have hmem : ∀ y, y ∈ newsL [z] l ↔ y ∈ l ∧ y ≠ z := by
    intro y
    unfold newsL inB
    rw [List.mem_filter]
    simp
  refine ⟨?_, fun x => ?_, fun x hx y hy => ?_, ?_⟩
  · unfold Rises at hr ⊢
    rw [List.pairwise_append]
    exact ⟨hr, by simp, fun x hx y hy => by simp at hy; subst hy; exact hlt x hx y hz⟩
  · rw [hm x, hmem x]
    simp only [List.mem_append, List.mem_singleton]
    constructor
    · rintro (h | h)
      · exact .inl (.inl h)
      · by_cases e : x = z
        · exact .inl (.inr e)
        · exact .inr ⟨h, e⟩
    · rintro ((h | h) | h)
      · exact .inl h
      · exact .inr (h ▸ hz)
      · exact .inr h.1
  · have := (hmem y).1 hy
    have h2 := hmin y this.1
    simp only [List.mem_append, List.mem_singleton] at hx
    rcases hx with hx | rfl
    · have := hlt x hx z hz; omega
    · have := this.2; omega
  · unfold newsL
    have hle := List.length_filter_le (fun x => !inB x [z]) l
    by_cases h : (l.filter fun x => !inB x [z]).length = l.length
    · have := List.length_filter_eq_length_iff.1 h z hz
      simp [inB] at this
    · omega
end Go.Proofs.Ytolfdncmlfnbdaa
