/- What the laid table gives the walks, and how a law's row is shut: its argument places read as before, it returned true, nothing that was there has turned. -/
import Derived.Test.YticmpkpopfkhnaaDoorA
import Derived.ProofKit
import Derived.LaidMore
import Derived.OpenShut
import Derived.Stop.Joined
namespace Go.Proofs.YticmpkpopfkhnaaDoor
open Go.ChangeShapes Go.WideShapes Go.ChangeAt Go.RowKit

theorem own : ownKnob Tryd.prog.godebug = none := by kernel_rfl
theorem laidOut : laidOutB Tryd.prog = true := by kernel_rfl
theorem gSteps : Tryd.prog.globalNamed "watershed/sum.steps" = some 0 := by kernel_rfl
theorem tSteps : (Tryd.prog.globals[0]?).map (·.type) = some 56 := by kernel_rfl
def steps0 {H : Type} : List (DataW H) := tabL.map fun v => .lit (.int .u32 (u v))
theorem steps_eq {H : Type} : (Rows.laid_watershed_sum_steps : DataW H) = .agg steps0 := by kernel_rfl
theorem c23 : Tryd.prog.cellsOf 23 = 1 := by kernel_rfl
theorem c56 : Tryd.prog.cellsOf 56 = 16 := by kernel_rfl

theorem steps_get {H : Type} (k : Nat) (hk : k < 16) : (steps0 (H := H))[k]? = some (.lit (.int .u32 (u (T k)))) := by
  have hl : k < tabL.length := hk
  simp [steps0, T, List.getElem?_eq_getElem hl]

theorem tab_of_laid {W : World} (h : laidMetH Tryd.prog [("watershed/sum.steps", Rows.laid_watershed_sum_steps)] W) : Tab W := by
  rw [MakeChecks.laidMetH_plain _ _ _ (by kernel_rfl)] at h
  obtain ⟨ps, ⟨g0, t0, cs0, f0, p0, q0, hg0, ht0, hv0, hd0, _⟩, _⟩ := h
  obtain rfl := Option.some.inj (gSteps.symm.trans hg0)
  obtain rfl := Option.some.inj (tSteps.symm.trans ht0)
  obtain ⟨xs, m1, rfl, hx1, hlen, hn, hel⟩ := DataW.trod_array Tryd.underlying56 hd0
  rw [steps_eq] at hx1
  simp only [Prod.mk.injEq, DataW.agg.injEq] at hx1
  rw [c23] at hel
  rw [c56] at hlen
  intro k hk
  have hk1 := hel k hk
  have hkx : k < xs.length := by omega
  rw [List.getElem?_eq_getElem hkx] at hk1
  obtain ⟨n, e1, e2, _⟩ := DataW.trod_int Tryd.underlying23 hk1
  have hs := steps_get (H := Unit) k hk
  rw [hx1.1] at hs
  simp only [List.getElem?_map, List.getElem?_eq_getElem hkx, Option.map_some, Option.some.injEq] at hs
  rw [e2] at hs
  simp only [DataW.lit.injEq, Lit.int.injEq, true_and] at hs
  subst hs
  have hc := World.var?_cell hg0 hv0 k
  have hck : cs0.toList[k]? = some (.int .u32 (u (T k))) := by
    have := congrArg (fun l : List Value => l[0]?) e1
    simpa [List.getElem?_take, List.getElem?_drop] using this
  rw [hc]
  simpa using hck

theorem door_met (os : Os) (args : Array Value) : laidMetH Tryd.prog [("watershed/sum.steps", Rows.laid_watershed_sum_steps)] ((World.doorLaid Tryd.prog 400 os).forCall (fun _ _ => 0) ⟨#[], args, []⟩).memory :=
  laidMetH_of_parts3 (fuel := 8) (laidMet_of_run' 8 (by kernel_rfl) (by kernel_rfl)) (by kernel_rfl) (by kernel_rfl)

end Go.Proofs.YticmpkpopfkhnaaDoor
