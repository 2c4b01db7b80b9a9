/- Two tables that are one are equal. -/
import Derived.Test.YticmpkpopfkhnaaDoorT
namespace Go.Proofs.YticmpkpopfkhnaaDoor
theorem eqTab (w : World) : (binOp .eql 35 (.agg (tc 256)) (.agg (tc 256))).run Tryd.prog w = .ok (.bool true) w := by kernel_rfl
theorem grdTab (w : World) (x y : Operand) : (eqGuard .eql 35 x y (.agg (tc 256)) (.agg (tc 256))).run Tryd.prog w = .ok () w := by kernel_rfl
end Go.Proofs.YticmpkpopfkhnaaDoor
