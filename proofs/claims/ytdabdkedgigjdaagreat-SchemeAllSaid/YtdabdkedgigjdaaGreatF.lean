/- Contracts of few, and of Meet. -/
import Derived.Test.YtdabdkedgigjdaaGreatD
import Derived.Test.YtdabdkedgigjdaaGreatE
namespace Go.Proofs.YtdabdkedgigjdaaGreat
open Go.RowKit




theorem store2 (W : World) (p : Nat) (u0 u1 u v : Value) (h0 : W.cell? ⟨p, 0, none⟩ = some u0) (h1 : W.cell? ⟨p, 1, none⟩ = some u1) :
    ((W.setCell ⟨p, 0, none⟩ u).setCell ⟨p, 1, none⟩ v).cell? ⟨p, 0, none⟩ = some u ∧ ((W.setCell ⟨p, 0, none⟩ u).setCell ⟨p, 1, none⟩ v).cell? ⟨p, 1, none⟩ = some v := by
  constructor
  · exact (World.cell?_setCell_other _ _ _ _ (by simp)).trans (World.cell?_setCell_same _ _ _ h0)
  · exact World.cell?_setCell_same _ _ _ ((World.cell?_setCell_other _ _ _ _ (by simp)).trans h1)
theorem Ok.set {w w' : World} {p : Addr} (h : Ok w w') (hp : w.heap.size ≤ p.block) (v : Value) : Ok w (w'.setCell p v) := Below.setCell h hp v

def meetV (a b : Sp) : Value := .tuple #[spV ((meetB a b).getD allS), .bool (meetB a b).isSome]


end Go.Proofs.YtdabdkedgigjdaaGreat
