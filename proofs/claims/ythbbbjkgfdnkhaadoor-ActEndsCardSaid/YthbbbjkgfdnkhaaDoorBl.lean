/- Acts that came in: nil has no room. The guard with two texts. -/
import Derived.Test.YthbbbjkgfdnkhaaDoorAm
import Derived.Deep.Slices
import Derived.ProofKit
namespace Go.Proofs.YthbbbjkgfdnkhaaDoor
open Go.ChangeShapes Go.WideShapes Go.ChangeAt Go.RowKit
theorem acts_none {H : Type} {enc : TypeId × Value → H} {W : World} {A : Option Addr} {n c : Nat} {d : DataW H} {p : List MemPlace}
    (h : DataW.Trod enc Tryd.prog W 0 (fun _ => true) true 22 (.slice A n c) d p) : A = none → c = 0 := by
  rintro rfl
  obtain ⟨fuel, hf⟩ := h
  rcases Deep.open_slice Tryd.underlying22 hf with ⟨hcs, _⟩ | ⟨a, len, cap, m, q, D, Pl, hcs, _⟩
  · simp [Value.cells] at hcs
    exact hcs.2
  · simp [Value.cells] at hcs
/-- Two texts in a block that was made last. -/
theorem strs_two (w : World) (s t : Str) : StrsAt (w.alloc (.cells #[.string s, .string t] 9)) (some ⟨w.heap.size, 0, none⟩) [s, t] := fun j hj => by
  have h := blk_new (w := w) (o := .cells #[.string s, .string t] 9) rfl
  have hj2 : j < 2 := hj
  refine ⟨_, 0, rfl, ?_⟩
  obtain rfl | rfl : j = 0 ∨ j = 1 := by omega
  · rw [cell_of_heap h]; rfl
  · rw [cell_of_heap h]; rfl
theorem lims_two {s t : Str} (h : LimS [s, t] [s, t].length) : s.size ≤ 60 ∧ t.size ≤ 60 := ⟨h 0 (Nat.succ_pos 1), h 1 (Nat.lt_succ_self 1)⟩
end Go.Proofs.YthbbbjkgfdnkhaaDoor
