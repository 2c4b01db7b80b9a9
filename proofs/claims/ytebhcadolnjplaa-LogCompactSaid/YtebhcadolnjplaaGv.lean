/- A configuration that came in. -/
import Derived.Test.YtebhcadolnjplaaFr
import Derived.Test.YtebhcadolnjplaaGu
namespace Go.Proofs.Ytebhcadolnjplaa
open Go.RowKit

theorem cfg_core {H : Type} {enc : TypeId × Value → H} {W : World} {n : Nat} {v0 v1 v2 v3 : Value} {y : DataW H × List MemPlace} (h2 : DataW.trod enc Try.prog W 0 (fun _ => true) true n 25 [v0, v1, v2, v3] = some y)
    (hp2 : ∀ parts, y.1 = .agg parts → (DataW.weightsEach Try.prog [23, 23, 23, 23] parts).all (· ≤ reachBytes) = true) :
    ∃ (s : S4) (cf : Cfg), v0 = .slice s.A0 s.n0 s.c0 ∧ v1 = .slice s.A1 s.n1 s.c1 ∧ v2 = .slice s.A2 s.n2 s.c2 ∧ v3 = .slice s.A3 s.n3 s.c3 ∧ CfgAt W s cf := by
  obtain ⟨y0, y1, y2, y3, n2, hx2, _, k0, k1, k2, k3⟩ := Joins.trod_struct4 Try.underlying25 h2
  have hp2 := hp2 [y0.1, y1.1, y2.1, y3.1] (by rw [hx2])
  simp only [cells42, List.drop_zero, List.drop_succ_cons, List.take_succ_cons, List.take_zero] at k0 k1 k2 k3
  have e : ∀ (j : Nat) (y : DataW H × List MemPlace) , [y0.1, y1.1, y2.1, y3.1][j]? = some y.1 → ([23, 23, 23, 23] : List TypeId)[j]? = some 23 → ∀ elems spare, y.1 = .slice elems spare → (elems.length + spare.length) * 8 ≤ reachBytes := fun j y hy ht elems spare he => by
    have := sized_slice hp2 (j := j) ht (hy.trans (by rw [he])) Try.underlying23
    rwa [bytes3z] at this
  obtain ⟨x0, i0⟩ := ints_core k0 (e 0 y0 rfl rfl)
  obtain ⟨x1, i1⟩ := ints_core k1 (e 1 y1 rfl rfl)
  obtain ⟨x2, i2⟩ := ints_core k2 (e 2 y2 rfl rfl)
  obtain ⟨x3, i3⟩ := ints_core k3 (e 3 y3 rfl rfl)
  obtain ⟨A0, c0, rfl, -⟩ := i0.form
  obtain ⟨A1, c1, rfl, -⟩ := i1.form
  obtain ⟨A2, c2, rfl, -⟩ := i2.form
  obtain ⟨A3, c3, rfl, -⟩ := i3.form
  exact ⟨⟨A0, x0.length, c0, A1, x1.length, c1, A2, x2.length, c2, A3, x3.length, c3⟩, ⟨x0, x1, x2, x3⟩, rfl, rfl, rfl, rfl, ⟨i0, i1, i2, i3⟩⟩
end Go.Proofs.Ytebhcadolnjplaa
