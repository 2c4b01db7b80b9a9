/- Great, of shares and two spans. -/
import Derived.Test.YtdabdkedgigjdaaGreatYi
import Derived.BigQuiet
namespace Go.Proofs.YtdabdkedgigjdaaGreat
open Go.RowKit

set_option maxRecDepth 100000 in
set_option maxHeartbeats 4000000 in
theorem great2_w (ep : Int) (A : Option Addr) (n c g : Nat) (xs : List Sh) (sp sq : Sp) (hn : xs.length = n) (hs : Short xs) (hl : sp.lo.size ≤ maxLen) (hh : sp.hi.size ≤ maxLen) (hl2 : sq.lo.size ≤ maxLen) (hh2 : sq.hi.size ≤ maxLen) (w : World) (hI : SharesAt w A xs)
    (h0 : w.cell? ⟨g, 0, none⟩ = some (.string sp.lo)) (h1 : w.cell? ⟨g, 1, none⟩ = some (.string sp.hi)) (h2 : w.cell? ⟨g, 2, none⟩ = some (.string sq.lo)) (h3 : w.cell? ⟨g, 3, none⟩ = some (.string sq.hi)) :
    Calls Tryz.prog 28 #[.agg #[.int .i64 ep, .slice A n c], .slice (some ⟨g, 0, none⟩) 2 2] w (GrP w n) := by
  have HO := Lib.hid (fun w' (k : Ok w w') => sharesOf_w ep A n c xs hn hs w' (hI.ok k))
  clear hI hn hs
  obtain ⟨lo, hi⟩ := sp
  obtain ⟨lo2, hi2⟩ := sq
  simp only at hl hh h0 h1 hl2 hh2 h2 h3
  unfold maxLen at hl hh hl2 hh2
  go_enter Tryz.func28, Tryz.ntmps28
  have oW : Ok w (w.alloc (.cells #[.int .i64 ep, .slice A n c] 24)) := Ok.alloc (Ok.refl w) _
  have B0 : (w.alloc (.cells #[.int .i64 ep, .slice A n c] 24)).cell? ⟨w.heap.size, 0, none⟩ = some (.int .i64 ep) := by go_cell
  have B1 : (w.alloc (.cells #[.int .i64 ep, .slice A n c] 24)).cell? ⟨w.heap.size, 1, none⟩ = some (.slice A n c) := by go_cell
  have C0 := Ok.cell oW h0
  have C1 := Ok.cell oW h1
  have C2 := Ok.cell oW h2
  have C3 := Ok.cell oW h3
  go_wp2_with fail
  generalize w.alloc (.cells #[.int .i64 ep, .slice A n c] 24) = W at oW B0 B1 C0 C1 C2 C3 ⊢
  go_loopw [5] (fun i wr => ∃ k : Nat, k ≤ 2 ∧ i = .int .i64 k ∧ Ok W wr) (fun i _ => 2 - (intOf i).toNat)
  case atStart => exact ⟨0, Nat.zero_le _, rfl, Ok.refl _⟩
  case round =>
    obtain ⟨k, hk, rfl, okr⟩ := hrel
    have OKR := Lib.hid okr
    have HOKR := Lib.hid (Ok.call oW okr)
    replace B0 := Ok.cell okr B0
    replace B1 := Ok.cell okr B1
    replace C0 := Ok.cell okr C0
    replace C1 := Ok.cell okr C1
    replace C2 := Ok.cell okr C2
    replace C3 := Ok.cell okr C3
    clear okr
    by_cases hlt : k = 0
    · subst hlt
      go_wp2_with fail
      go_quiet (fail)
      go_wp2
      · go_ret
        exact GrP.mk true rfl (fun h => by cases h) (Below.trans HOKR.out ⟨rfl, rfl, rfl, Nat.le_refl _, fun _ _ => rfl⟩)
      · refine ⟨⟨1, by decide, rfl, Below.trans OKR.out ⟨rfl, rfl, rfl, Nat.le_refl _, fun _ _ => rfl⟩⟩, ?_⟩
        decide
    by_cases hlt1 : k = 1
    · subst hlt1
      go_wp2_with fail
      go_quiet (fail)
      go_wp2
      · go_ret
        exact GrP.mk true rfl (fun h => by cases h) (Below.trans HOKR.out ⟨rfl, rfl, rfl, Nat.le_refl _, fun _ _ => rfl⟩)
      · refine ⟨⟨2, by decide, rfl, Below.trans OKR.out ⟨rfl, rfl, rfl, Nat.le_refl _, fun _ _ => rfl⟩⟩, ?_⟩
        decide
    · obtain rfl : k = 2 := by omega
      go_wp2_with fail
      refine (HO.out _ HOKR.out).mono ?_
      rintro _ w3 ⟨⟨r, rfl, hr⟩, o3⟩
      have HR := Lib.hid hr
      clear hr
      by_cases h4 : r ≤ 400
      · have d4 : decide (400 < r) = false := decide_eq_false (by omega)
        go_wp2
        go_ret
        exact GrP.mk false rfl (fun _ => HR.out h4) (Ok.call HOKR.out o3)
      · have d4 : decide (400 < r) = true := decide_eq_true (by omega)
        go_wp2
        go_ret
        exact GrP.mk true rfl (fun h => by cases h) (Ok.call HOKR.out o3)
end Go.Proofs.YtdabdkedgigjdaaGreat
