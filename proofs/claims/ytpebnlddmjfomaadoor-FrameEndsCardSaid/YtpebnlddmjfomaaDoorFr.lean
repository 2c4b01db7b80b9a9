/- Places drawn, bytes turned, frames cut: for the law FrameBack. -/
import Derived.Test.YtpebnlddmjfomaaDoorFo
namespace Go.Proofs.YtpebnlddmjfomaaDoor
open Go.RowKit
theorem pick_w (x : Int) (n : Nat) (hn : 0 < n) (hn6 : n ≤ 1000000) (w : World) :
    Calls Tryd.prog 21 #[.int .i64 x, .int .i64 (n : Int)] w fun e w' => (∃ k : Nat, k < n ∧ e = .returned (.int .i64 (k : Int))) ∧ w = w' := by
  have d1 : decide ((n : Int) < 1) = false := decide_eq_false (by omega)
  have hz : ¬ ((n : Int) = 0) := by omega
  have b1 : -(n : Int) < x.tmod (n : Int) := by
    have := Int.lt_tmod_of_pos x (b := (n : Int)) (by omega); exact this
  have b2 : x.tmod (n : Int) < (n : Int) := Int.tmod_lt_of_pos x (by omega)
  by_cases hx : x.tmod (n : Int) < 0
  · have d2 : decide (x.tmod (n : Int) < 0) = true := decide_eq_true hx
    go_enter Tryd.func21, Tryd.ntmps21
    go_wp2
    go_ret
    exact ⟨⟨(x.tmod (n : Int) + n).toNat, by omega, by rw [Int.toNat_of_nonneg (by omega)]; rfl⟩, rfl⟩
  · have d2 : decide (x.tmod (n : Int) < 0) = false := decide_eq_false hx
    go_enter Tryd.func21, Tryd.ntmps21
    go_wp2
    go_ret
    exact ⟨⟨(x.tmod (n : Int)).toNat, by omega, by rw [Int.toNat_of_nonneg (by omega)]; rfl⟩, rfl⟩
theorem ofInt_ub' (v : B8) : BitVec.ofInt 8 (ub v) = v := by
  rw [ub, BitVec.ofInt_natCast, BitVec.ofNat_toNat, BitVec.setWidth_eq]
theorem xor8b_v (a b : B8) : bits .xor .u8 (ub a) (ub b) = ub (a ^^^ b) := by
  show IntKind.u8.wrap ((BitVec.ofInt 8 (ub a) ^^^ BitVec.ofInt 8 (ub b)).toNat : Int) = _
  rw [ofInt_ub', ofInt_ub', IntKind.wrap_u8, ub]; have := (a ^^^ b).isLt; omega

theorem shl_v (n : Nat) (h : n < 8) : ((2 : Int) ^ n % 256) = ub (1#8 <<< n) := by
  have : ∀ n : Fin 8, ((2 : Int) ^ n.1 % 256) = ub (1#8 <<< n.1) := by decide
  exact this ⟨n, h⟩
theorem flip_v (y : B8) (k : Nat) : bits .xor .u8 (ub y) ((2 : Int) ^ (k % 8) % 256) = ub (y ^^^ 1#8 <<< (k % 8)) := by
  rw [shl_v _ (Nat.mod_lt _ (by decide)), xor8b_v]


theorem el22 : Tryd.prog.elem 22 = 28 := by kernel_rfl
theorem un22 : Tryd.prog.underlying 22 = some (.slice (Tryd.prog.elem 22)) := by rw [el22]; exact Tryd.underlying22
theorem low22 (A : Option Addr) (n c q : Nat) (hq : q ≤ c) (wx : World) : (Instr.slice 22 (.slice A n c) none (some (.int .i64 (q : Int))) none).run Tryd.prog wx = .ok (.slice A q c) wx := by
  rw [run_slice_h wx 22 A n c un22 .i64 (q : Int) (Int.natCast_nonneg _) (by omega), el22, Tryd.sizeOf28]
  have e : A.map (·.add (0 * 2)) = A := by cases A <;> simp [Addr.add]
  simp only [Result.andThen, sliced, e]
  simp
theorem atF_take (l : List Fr) (k j : Nat) (h : j < k) : atF (l.take k) j = atF l j := by
  simp [atF, List.getD, h]
theorem FramesAt.take {w : World} {A : Option Addr} {l : List Fr} (h : FramesAt w A l) (k : Nat) : FramesAt w A (l.take k) := fun j hj => by
  rw [List.length_take] at hj
  obtain ⟨b, off, e, h0⟩ := h j (by omega)
  rw [atF_take l k j (by omega)]
  exact ⟨b, off, e, h0⟩
theorem OwnN.store {w : World} {B g c n : Nat} {xs : List B8} (h : OwnN w B (.slice (some ⟨g, 0, none⟩) n c) xs) (j : Nat) (y : B8) : OwnN (w.setCell ⟨g, j, none⟩ (.int .u8 (ub y))) B (.slice (some ⟨g, 0, none⟩) n c) (xs.set j y) ∧ Below B w (w.setCell ⟨g, j, none⟩ (.int .u8 (ub y))) := by
  obtain rfl := h.len
  have hg := (h.below g rfl).1
  refine ⟨?_, (Below.refl _ _).setCell hg _⟩
  have := (World.ownsRow.stored h j (.int .u8 (ub y))).1
  unfold OwnN
  rw [List.length_set, List.map_set]
  exact this
theorem OwnN.cell {w : World} {B g c n : Nat} {xs : List B8} (h : OwnN w B (.slice (some ⟨g, 0, none⟩) n c) xs) (j : Nat) (hj : j < xs.length) : w.cell? ⟨g, j, none⟩ = some (.int .u8 (ub (xs.getD j 0#8))) ∧ w.frozen? ⟨g, j, none⟩ = false := by
  obtain rfl := h.len
  refine ⟨?_, World.ownsRow.frozenAt h j⟩
  rw [World.ownsRow.cellAt h j (by omega)]
  simp [hj, bv]
theorem OwnN.form2 {w : World} {B : Nat} {A : Option Addr} {n c : Nat} {xs : List B8} (h : OwnN w B (.slice A n c) xs) (h0 : 0 < xs.length) : ∃ g, A = some ⟨g, 0, none⟩ := by
  rcases h.2 with ⟨_, h1⟩ | ⟨g, cap, cur, e, _⟩
  · omega
  · simp only [Value.slice.injEq] at e
    exact ⟨g, e.1⟩
theorem OwnF.cap {w : World} {B : Nat} {A : Option Addr} {n c : Nat} {xs : List Fr} (h : OwnF w B A n c xs) : n ≤ c := by
  obtain ⟨_, cs, h1, _⟩ := h
  rcases h1.2 with ⟨e2, h0⟩ | ⟨g, cap, cur, e2, _, _, h3, _⟩
  · omega
  · simp only [Value.slice.injEq] at e2
    obtain ⟨-, -, rfl⟩ := e2
    exact h3
theorem own_empty (w : World) : OwnN (w.alloc (.cells #[] 5)) w.heap.size (.slice (some ⟨w.heap.size, 0, none⟩) 0 0) [] := own_new w [] 0 rfl (by decide)
end Go.Proofs.YtpebnlddmjfomaaDoor
