/- The look at how much there is: true just where lists and bytes together are more than 20000. -/
import Derived.Test.YtpebnlddmjfomaaDoorRa
namespace Go.Proofs.YtpebnlddmjfomaaDoor
open Go.RowKit

/-- How much: the lists, and the bytes of the first k of them. -/
def tot (ll : List (List B8)) : Nat → Nat
  | 0 => ll.length
  | k + 1 => tot ll k + (ll.getD k []).length
theorem tot_mono (ll : List (List B8)) (k : Nat) : tot ll k ≤ tot ll (k + 1) := by rw [tot]; omega
theorem tot_le (ll : List (List B8)) (k j : Nat) : tot ll k ≤ tot ll (k + j) := by
  induction j with
  | zero => exact Nat.le_refl _
  | succ j ih => exact Nat.le_trans ih (tot_mono ll (k + j))
def SayB (b : Bool) (w : World) (e : Ending) (w' : World) : Prop := e = .returned (.bool b) ∧ w = w'

end Go.Proofs.YtpebnlddmjfomaaDoor
