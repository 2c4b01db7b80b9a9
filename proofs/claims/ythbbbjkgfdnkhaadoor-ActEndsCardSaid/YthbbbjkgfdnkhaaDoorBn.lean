/- Rows of texts of the call's own: cut, and texts of any address appended. -/
import Derived.Test.YthbbbjkgfdnkhaaDoorBk
import Derived.Test.YthbbbjkgfdnkhaaDoorBd
namespace Go.Proofs.YthbbbjkgfdnkhaaDoor
open Go.RowKit
theorem el39 : Tryd.prog.elem 39 = 9 := by kernel_rfl
theorem un39 : Tryd.prog.underlying 39 = some (.slice (Tryd.prog.elem 39)) := by rw [el39]; exact Tryd.underlying39
theorem OwnT.empty (w : World) : OwnT (w.alloc (.cells #[] 9)) w.heap.size (some ⟨w.heap.size, 0, none⟩) 0 0 [] :=
  ⟨⟨rfl, .inr ⟨w.heap.size, 0, #[], rfl, Nat.le_refl _, heap_alloc_new w _, Nat.le_refl _, Nat.zero_le _, rfl, rfl⟩⟩, rfl⟩
theorem OwnT.cap {w : World} {B : Nat} {A : Option Addr} {n c : Nat} {zs : List Tx} (h : OwnT w B A n c zs) : n ≤ c := by
  obtain ⟨h1, rfl⟩ := h
  rcases h1.2 with ⟨e, h5⟩ | ⟨g, cap, cur, e, r1, r2, r3, r4, r5⟩
  · omega
  · simp only [Value.slice.injEq] at e
    obtain ⟨-, -, rfl⟩ := e
    exact r3
/-- The front of a row is the call's own too. -/
theorem OwnT.take {w : World} {B : Nat} {A : Option Addr} {n c : Nat} {zs : List Tx} (h : OwnT w B A n c zs) (q : Nat) (hq : q ≤ n) : OwnT w B A q c (zs.take q) := by
  obtain ⟨h1, rfl⟩ := h
  have hl : (zs.take q).length = q := by rw [List.length_take]; omega
  rcases h1.2 with ⟨e, h5⟩ | ⟨g, cap, cur, e, r1, r2, r3, r4, r5, r6⟩
  · simp only [Value.slice.injEq] at e
    obtain ⟨rfl, -, rfl⟩ := e
    obtain rfl : q = 0 := by omega
    exact ⟨World.ownsRow_nil _ _ _ _, rfl⟩
  · simp only [Value.slice.injEq] at e
    obtain ⟨rfl, -, rfl⟩ := e
    refine ⟨?_, hl.symm⟩
    rw [hl]
    refine ⟨by rw [List.length_map, hl, Nat.mul_one], .inr ⟨g, c, cur, rfl, r1, r2, by omega, r4, r5, ?_⟩⟩
    have h2 : (cur.toList.take (zs.length * 1)).take (q * 1) = (zs.map encStr).take (q * 1) := by rw [r6]
    rw [List.take_take, Nat.min_eq_left (by omega)] at h2
    rw [h2, List.map_take, Nat.mul_one]
theorem sliceT_low (A : Option Addr) (n c : Nat) (w : World) (B : Nat) (zs : List Tx) (h : OwnT w B A n c zs) (q : Nat) (hq : q ≤ n) (wx : World) : (Instr.slice 39 (.slice A n c) none (some (.int .i64 (q : Int))) none).run Tryd.prog wx = .ok (.slice A q c) wx := by
  have hc := h.cap
  rw [run_slice_h wx 39 A n c un39 .i64 (q : Int) (Int.natCast_nonneg _) (by omega), el39, Tryd.sizeOf9]
  have e : A.map (·.add (0 * 1)) = A := by
    obtain ⟨h1, _⟩ := h
    rcases h1.2 with ⟨e, _⟩ | ⟨g, cap, cur, e, _⟩
    · simp only [Value.slice.injEq] at e
      rw [e.1]; rfl
    · simp only [Value.slice.injEq] at e
      rw [e.1, Option.map_some, show (0 * 1 : Nat) = 0 from rfl]
      have e2 : (⟨g, 0, none⟩ : Addr).add 0 = ⟨g, 0, none⟩ := by unfold Addr.add; rfl
      rw [e2]
  simp only [Result.andThen, sliced, e]
  simp
theorem sliceT_high (A : Option Addr) (n c : Nat) (w : World) (B : Nat) (zs : List Tx) (h : OwnT w B A n c zs) (q : Nat) (hq : q ≤ n) :
    ∃ A', (∀ wx : World, (Instr.slice 39 (.slice A n c) (some (.int .i64 (q : Int))) none none).run Tryd.prog wx = .ok (.slice A' (n - q) (c - q)) wx) ∧ (A' = none → c - q = 0) ∧ ∀ w', Ok w w' → TxAt w' A' (zs.drop q) := by
  have hc := h.cap
  have hat := h.at
  have hn := h.2
  refine ⟨if c = q then A else A.map (·.add (q * 1)), fun wx => ?_, fun hA => ?_, fun w' k j hj => ?_⟩
  · rw [run_slice_l wx 39 A n c un39 .i64 (q : Int) (Int.natCast_nonneg _) (by omega), el39, Tryd.sizeOf9]
    simp [Result.andThen, sliced]
  · by_cases hcq : c = q
    · omega
    · rw [if_neg hcq] at hA
      obtain ⟨h1, _⟩ := h
      rcases h1.2 with ⟨e, _⟩ | ⟨g, cap, cur, e, _⟩
      · simp only [Value.slice.injEq] at e
        omega
      · simp only [Value.slice.injEq] at e
        rw [e.1] at hA
        cases hA
  · rw [List.length_drop] at hj
    obtain ⟨b, off, rfl, h0⟩ := (hat.ok k) (q + j) (by omega)
    refine ⟨b, off + q, ?_, ?_⟩
    · rw [if_neg (by omega), Option.map_some, Nat.mul_one]
      have e2 : (⟨b, off, none⟩ : Addr).add q = ⟨b, off + q, none⟩ := by unfold Addr.add; split <;> simp_all
      rw [e2]
    · have e : (zs.drop q).getD j [] = zs.getD (q + j) [] := by simp [List.getD]
      rw [e, Nat.add_assoc]
      exact h0
end Go.Proofs.YthbbbjkgfdnkhaaDoor
