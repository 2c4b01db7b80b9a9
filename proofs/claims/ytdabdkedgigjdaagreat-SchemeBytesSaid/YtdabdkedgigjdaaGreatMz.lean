/- Great, of one span. -/
import Derived.Test.YtdabdkedgigjdaaGreatYi
namespace Go.Proofs.YtdabdkedgigjdaaGreat
open Go.RowKit
/-- Great, of one span: if it tells false, the span's texts are short. -/
def GrS (w : World) (a b : Nat) : Ending → World → Prop := fun e w' => (∃ r, e = .returned (.bool r) ∧ (r = false → a + b ≤ 100)) ∧ Ok w w'
theorem GrS.mk {w w' : World} {a b : Nat} {e : Ending} (r : Bool) (he : e = .returned (.bool r)) (h : r = false → a + b ≤ 100) (ho : Ok w w') : GrS w a b e w' := ⟨⟨r, he, h⟩, ho⟩
set_option maxRecDepth 100000 in
set_option maxHeartbeats 4000000 in
theorem greatS_w (ep : Int) (A : Option Addr) (n c g : Nat) (xs : List Sh) (sp : Sp) (hn : xs.length = n) (hs : Short xs) (hl : sp.lo.size ≤ 140737488355328) (hh : sp.hi.size ≤ 140737488355328) (w : World) (hI : SharesAt w A xs)
    (h0 : w.cell? ⟨g, 0, none⟩ = some (.string sp.lo)) (h1 : w.cell? ⟨g, 1, none⟩ = some (.string sp.hi)) :
    Calls Tryz.prog 28 #[.agg #[.int .i64 ep, .slice A n c], .slice (some ⟨g, 0, none⟩) 1 1] w (GrS w sp.lo.size sp.hi.size) := by
  have HO := Lib.hid (fun w' (k : Ok w w') => sharesOf_w ep A n c xs hn hs w' (hI.ok k))
  clear hI hn hs
  obtain ⟨lo, hi⟩ := sp
  simp only at hl hh h0 h1
  go_enter Tryz.func28, Tryz.ntmps28
  have oW : Ok w (w.alloc (.cells #[.int .i64 ep, .slice A n c] 24)) := Ok.alloc (Ok.refl w) _
  have B0 : (w.alloc (.cells #[.int .i64 ep, .slice A n c] 24)).cell? ⟨w.heap.size, 0, none⟩ = some (.int .i64 ep) := by go_cell
  have B1 : (w.alloc (.cells #[.int .i64 ep, .slice A n c] 24)).cell? ⟨w.heap.size, 1, none⟩ = some (.slice A n c) := by go_cell
  have C0 := Ok.cell oW h0
  have C1 := Ok.cell oW h1
  go_wp2_with fail
  generalize w.alloc (.cells #[.int .i64 ep, .slice A n c] 24) = W at oW B0 B1 C0 C1 ⊢
  go_loopw [5] (fun i wr => ∃ k : Nat, k ≤ 1 ∧ i = .int .i64 k ∧ Ok W wr ∧ (k = 1 → lo.size + hi.size ≤ 100)) (fun i _ => 1 - (intOf i).toNat)
  case atStart => exact ⟨0, Nat.zero_le _, rfl, Ok.refl _, fun h => by cases h⟩
  case round =>
    obtain ⟨k, hk, rfl, okr, hks⟩ := hrel
    have HKS := Lib.hid hks
    clear hks
    have OKR := Lib.hid okr
    have HOKR := Lib.hid (Ok.call oW okr)
    replace B0 := Ok.cell okr B0
    replace B1 := Ok.cell okr B1
    replace C0 := Ok.cell okr C0
    replace C1 := Ok.cell okr C1
    clear okr
    by_cases hlt : k = 0
    · subst hlt
      go_wp2_with fail
      go_quiet (fail)
      go_wp2
      · go_ret
        exact GrS.mk true rfl (fun h => by cases h) (Below.trans HOKR.out ⟨rfl, rfl, rfl, Nat.le_refl _, fun _ _ => rfl⟩)
      · refine ⟨⟨1, Nat.le_refl _, rfl, Below.trans OKR.out ⟨rfl, rfl, rfl, Nat.le_refl _, fun _ _ => rfl⟩, fun _ => by omega⟩, ?_⟩
        decide
    · obtain rfl : k = 1 := by omega
      go_wp2_with fail
      refine (HO.out _ HOKR.out).mono ?_
      rintro _ w3 ⟨⟨r, rfl, hr⟩, o3⟩
      have HR := Lib.hid hr
      clear hr
      by_cases h4 : r ≤ 400
      · have d4 : decide (400 < r) = false := decide_eq_false (by omega)
        go_wp2
        go_ret
        exact GrS.mk false rfl (fun _ => HKS.out trivial) (Ok.call HOKR.out o3)
      · have d4 : decide (400 < r) = true := decide_eq_true (by omega)
        go_wp2
        go_ret
        exact GrS.mk true rfl (fun h => by cases h) (Ok.call HOKR.out o3)
end Go.Proofs.YtdabdkedgigjdaaGreat
