/- Rows: all rows lie in the span of all; as many as the map has. -/
import Derived.Test.YtebhcadolnjplaaSq
namespace Go.Proofs.Ytebhcadolnjplaa
open Go.RowKit

theorem lastIn_mem {xs : List Rw} {x : Rw} (h : LastIn xs x) : x ∈ xs := by
  obtain ⟨a, b, rfl, _⟩ := h
  simp
theorem hasB_all (k : Str) (h : keyB k = true) : hasB allS k = true := by
  have h1 : rightB allS = true := by kernel_rfl
  have h2 : ltB k allS.lo = false := by
    unfold ltB
    have e : allS.lo.toList = [] := by kernel_rfl
    rw [e]
    cases k.toList <;> rfl
  have h3 : noB allS.hi = true := by kernel_rfl
  unfold hasB aboveB
  rw [h1, h, h2, h3]
  rfl
theorem rowB_key {r : Rw} (h : rowB r = true) : keyB r.key = true := by
  unfold rowB at h
  rw [Bool.and_eq_true] at h
  exact h.1
theorem meant_all (l xs : List Rw) (h : LaidAll [] xs l) (hr : allR xs = true) : meant allS l = l := by
  unfold meant
  rw [List.filter_eq_self]
  intro x hx
  rcases (h.mem rises_nil x).1 hx with q | ⟨q, _⟩
  · refine hasB_all _ (rowB_key ?_)
    obtain ⟨j, hj, rfl⟩ := (mem_rwA _ _).1 (lastIn_mem q)
    exact (allR_iff xs).1 hr j hj
  · cases q
theorem Rises.once {l : List Rw} (h : Rises l) : Once l := once_of fun i j hij hj => ne_of_lt (h i j hij hj)
theorem Once.nodup {l : List Rw} (h : Once l) : l.Nodup := List.Pairwise.imp (fun hab e => hab (by rw [e])) h
theorem same_many {l m : List Rw} (hl : Once l) (hm : Once m) (h : ∀ x, x ∈ l ↔ x ∈ m) : l.length = m.length :=
  ((List.perm_ext_iff_of_nodup hl.nodup hm.nodup).2 h).length_eq
end Go.Proofs.Ytebhcadolnjplaa
