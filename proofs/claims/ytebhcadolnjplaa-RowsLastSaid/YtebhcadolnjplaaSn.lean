/- Rows: what lies in a table behind many rows; the example. -/
import Derived.Test.YtebhcadolnjplaaSm
namespace Go.Proofs.Ytebhcadolnjplaa
open Go.RowKit

theorem LaidAll.inv {l : List Rw} : ∀ {ys l2 : List Rw}, LaidAll l ys l2 → (ys = [] ∧ l2 = l) ∨ ∃ xs l1 r, ys = xs ++ [r] ∧ LaidAll l xs l1 ∧ Laid l1 r l2
  | _, _, .nil => .inl ⟨rfl, rfl⟩
  | _, _, .snoc h1 h2 => .inr ⟨_, _, _, rfl, h1, h2⟩
theorem LaidAll.last {l xs l2 : List Rw} {r : Rw} (h : LaidAll l (xs ++ [r]) l2) : ∃ l1, LaidAll l xs l1 ∧ Laid l1 r l2 := by
  rcases h.inv with ⟨e, _⟩ | ⟨xs', l1, r', e, h1, h2⟩
  · simp at e
  · obtain ⟨rfl, e2⟩ := List.append_inj' e rfl
    simp only [List.cons.injEq, and_true] at e2
    subst e2
    exact ⟨l1, h1, h2⟩
theorem LaidAll.none {l l2 : List Rw} (h : LaidAll l [] l2) : l2 = l := by
  rcases h.inv with ⟨_, e⟩ | ⟨xs', l1, r', e, _, _⟩
  · exact e
  · simp at e
/-- The last of its key. -/
def LastIn (xs : List Rw) (x : Rw) : Prop := ∃ a b, xs = a ++ x :: b ∧ ∀ y, y ∈ b → y.key ≠ x.key
theorem lastIn_snoc (xs : List Rw) (r x : Rw) : LastIn (xs ++ [r]) x ↔ x = r ∨ (LastIn xs x ∧ x.key ≠ r.key) := by
  constructor
  · rintro ⟨a, b, e, h⟩
    rcases List.eq_nil_or_concat b with rfl | ⟨b', y, rfl⟩
    · obtain ⟨-, e2⟩ := List.append_inj' e rfl
      simp only [List.cons.injEq, and_true] at e2
      exact .inl e2.symm
    · rw [List.concat_eq_append] at e h
      rw [show a ++ x :: (b' ++ [y]) = (a ++ x :: b') ++ [y] from by simp] at e
      obtain ⟨e1, e2⟩ := List.append_inj' e rfl
      simp only [List.cons.injEq, and_true] at e2
      subst e2
      exact .inr ⟨⟨a, b', e1, fun y' hy' => h y' (by simp [hy'])⟩, fun q => h r (by simp) q.symm⟩
  · rintro (rfl | ⟨⟨a, b, rfl, h⟩, hn⟩)
    · exact ⟨xs, [], rfl, by simp⟩
    · refine ⟨a, b ++ [r], by simp, fun y hy => ?_⟩
      rcases List.mem_append.1 hy with q | q
      · exact h y q
      · rw [List.mem_singleton.1 q]; exact fun e => hn e.symm
theorem LaidAll.mem {l xs l' : List Rw} (hr : Rises l) (h : LaidAll l xs l') : ∀ x, x ∈ l' ↔ LastIn xs x ∨ (x ∈ l ∧ ∀ y, y ∈ xs → y.key ≠ x.key) := by
  induction h with
  | nil =>
    intro x
    constructor
    · intro hx; exact .inr ⟨hx, by simp⟩
    · rintro (⟨a, b, e, _⟩ | ⟨hx, _⟩)
      · simp at e
      · exact hx
  | snoc h1 h2 ih =>
    intro x
    rw [(h2.spec (h1.spec hr).1).2.1 x, ih x, lastIn_snoc]
    constructor
    · rintro (q | ⟨q | ⟨q1, q2⟩, hn⟩)
      · exact .inl (.inl q)
      · exact .inl (.inr ⟨q, hn⟩)
      · refine .inr ⟨q1, fun y hy => ?_⟩
        rcases List.mem_append.1 hy with z | z
        · exact q2 y z
        · rw [List.mem_singleton.1 z]; exact fun e => hn e.symm
    · rintro ((q | ⟨q, hn⟩) | ⟨q1, q2⟩)
      · exact .inl q
      · exact .inr ⟨.inl q, hn⟩
      · exact .inr ⟨.inr ⟨q1, fun y hy => q2 y (List.mem_append.2 (.inl hy))⟩, fun e => q2 _ (List.mem_append.2 (.inr (List.mem_singleton.2 rfl))) e.symm⟩
/-- The same rows, laid once more, change nothing. -/
theorem laid_again {xs l1 l2 : List Rw} (h1 : LaidAll [] xs l1) (h2 : LaidAll l1 xs l2) : l2 = l1 := by
  have r1 := (h1.spec rises_nil).1
  refine rises_ext _ _ (h2.spec r1).1 r1 (fun x => ?_)
  rw [h2.mem r1 x, h1.mem rises_nil x]
  constructor
  · rintro (q | ⟨q, _⟩)
    · exact .inl q
    · exact q
  · rintro (q | ⟨q, _⟩)
    · exact .inl q
    · cases q
def rb1 : Rw := ⟨⟨#[98]⟩, ⟨#[49]⟩⟩
def ra2 : Rw := ⟨⟨#[97]⟩, ⟨#[50]⟩⟩
def rb3 : Rw := ⟨⟨#[98]⟩, ⟨#[51]⟩⟩
theorem ex_rises : Rises [ra2, rb3] := fun i j hij hj => by
  have hj2 : j < 2 := hj
  have e1 : i = 0 := by omega
  have e2 : j = 1 := by omega
  subst e1; subst e2
  have e : ltB ra2.key rb3.key = true := by kernel_rfl
  exact e
theorem ex_laid {l : List Rw} (h : LaidAll [] [rb1, ra2, rb3] l) : l = [ra2, rb3] := by
  obtain ⟨l2, h2, k3⟩ := LaidAll.last (xs := [rb1, ra2]) h
  obtain ⟨l1, h1, k2⟩ := LaidAll.last (xs := [rb1]) h2
  obtain ⟨l0, h0, k1⟩ := LaidAll.last (xs := []) h1
  obtain rfl := h0.none
  have s1 := k1.spec rises_nil
  have s2 := k2.spec s1.1
  have s3 := k3.spec s2.1
  have n1 : ra2.key ≠ rb3.key := ne_of_lt (by kernel_rfl)
  refine rises_ext _ _ s3.1 ex_rises (fun x => ?_)
  rw [s3.2.1, s2.2.1, s1.2.1]
  constructor
  · rintro (rfl | ⟨rfl | ⟨rfl | ⟨q, _⟩, _⟩, hn⟩)
    · simp
    · simp
    · exact absurd rfl hn
    · cases q
  · intro hx
    rcases List.mem_cons.1 hx with rfl | hx
    · exact .inr ⟨.inl rfl, n1⟩
    · exact .inl (List.mem_singleton.1 hx)
def sAB : Sp := ⟨⟨#[97]⟩, ⟨#[98]⟩⟩
theorem ex_all : meant allS [ra2, rb3] = [ra2, rb3] := by
  have e1 : hasB allS ra2.key = true := by kernel_rfl
  have e2 : hasB allS rb3.key = true := by kernel_rfl
  simp [meant, e1, e2]
theorem ex_ab : meant sAB [ra2, rb3] = [ra2] ∧ stay sAB [ra2, rb3] = [rb3] := by
  have e1 : hasB sAB ra2.key = true := by kernel_rfl
  have e2 : hasB sAB rb3.key = false := by kernel_rfl
  simp [meant, stay, e1, e2]
theorem ex_right : allR [rb1, ra2, rb3] = true := by kernel_rfl
end Go.Proofs.Ytebhcadolnjplaa
