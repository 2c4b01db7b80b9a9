/- The law WireReads: what any calls read of any bytes is what the document tells. First its pieces. -/
import Derived.Test.YtolfdncmlfnbdaaHj
namespace Go.Proofs.Ytolfdncmlfnbdaa
open Go.RowKit

theorem OwnN.capm {w : World} {B g n c : Nat} {xs : List B8} (h : OwnN w B (.slice (some ⟨g, 0, none⟩) n c) xs) : c ≤ 9223372036854775807 := by
  rcases h.2 with ⟨e, _⟩ | ⟨g', cap, cur, e, r1, r2, r3, r4, r5, r6⟩
  · cases e
  · simp only [Value.slice.injEq, Option.some.injEq, Addr.mk.injEq, and_true] at e
    obtain ⟨rfl, -, rfl⟩ := e
    unfold maxLen at r4; omega
/-- A new reader: its bytes lie in a row of their own. -/
def NewRdP (W : World) (xs : List B8) (e : Ending) (w' : World) : Prop :=
  ∃ g A c, e = .returned (.pointer (some ⟨g, 0, none⟩)) ∧ W.heap.size ≤ g ∧ g < w'.heap.size ∧ Ok W w' ∧ OwnN w' W.heap.size (.slice A xs.length c) xs ∧ (∀ b, (Value.slice A xs.length c).ownBlock = some b → b < g) ∧
    w'.heap[g]? = some (.cells #[.slice A xs.length c, .bool false, .bool true] 69 (0, 0))
set_option maxRecDepth 100000 in
set_option maxHeartbeats 1000000 in
theorem newReader_z (W : World) (v : Value) (xs : List B8) (h : BytesIn W v xs) :
    Calls Try.prog 24 #[v] W (NewRdP W xs) := by
  obtain ⟨A, c, rfl, hxm⟩ := h.form
  have HB := Lib.hid h
  have HON : Hid (OwnN W W.heap.size (.slice none 0 0) []) := Lib.hid (World.ownsRow_nil _ _ _ _)
  clear h
  go_enter Try.func24, Try.ntmps24
  go_wp2_with (at_builtin; go_must (refine wpList_app rfl (.const (.slice none 0 0)) (.tmp 3) rfl W.heap.size (.slice none 0 0) [] xs (.slice A xs.length c) rfl rfl HON.out HB.out (by simp; omega) (Nat.le_refl _) ?_; intro A' c' w2 hown2 hbel2; simp only [List.nil_append, List.length_nil, Nat.zero_add] at hown2 ⊢; have HOWN2 := Lib.hid hown2; have HBEL2 := Lib.hid hbel2; clear hown2 hbel2))
  go_ret
  exact ⟨w2.heap.size, A', c', rfl, HBEL2.out.size, by simp, Ok.alloc HBEL2.out _, World.ownsRow.alloc HOWN2.out _, fun b hb => (HOWN2.out.lt b hb).2, heap_alloc_new _ _⟩
/-- Rows of bytes in a row, each in a block of its own. -/
def RowsO (B : Nat) (w : World) (A : Option Addr) (r c : Nat) : Prop :=
  ∃ (dv : Nat → Value) (cont : Nat → List B8), w.ownsRow B 26 1 (.slice A r c) r ((List.range r).map dv) ∧ (∀ j, j < r → OwnN w B (dv j) (cont j) ∧ (cont j).length ≤ 1000000) ∧
    ∀ i j b, i < j → j < r → (dv i).ownBlock = some b → (dv j).ownBlock ≠ some b
theorem RowsO.nil (B : Nat) (w : World) : RowsO B w none 0 0 := ⟨fun _ => .slice none 0 0, fun _ => [], World.ownsRow_nil _ _ _ _, fun _ hj => absurd hj (Nat.not_lt_zero _), fun _ _ _ _ hj => absurd hj (Nat.not_lt_zero _)⟩
/-- From block B on all is as it was. -/
def Up (B : Nat) (w w' : World) : Prop := w.heap.size ≤ w'.heap.size ∧ ∀ b, B ≤ b → b < w.heap.size → w'.heap[b]? = w.heap[b]?
theorem Up.alo {B g : Nat} {w w' : World} (h : Alo g w w') (hg : g < B) : Up B w w' := ⟨h.size, fun b hb hs => h.block b (by omega) hs⟩
theorem Up.only {B g : Nat} {w w' : World} (h : Only g w w') (hg : g < B) : Up B w w' := Up.alo (Alo.only h) hg
theorem Up.ok {B : Nat} {w w' : World} (h : Ok w w') : Up B w w' := ⟨h.size, fun b _ hs => h.block b hs⟩
theorem Up.trans {B : Nat} {a b c : World} (h : Up B a b) (k : Up B b c) : Up B a c := ⟨Nat.le_trans h.1 k.1, fun i hi hs => (k.2 i hi (Nat.lt_of_lt_of_le hs h.1)).trans (h.2 i hi hs)⟩
theorem RowsO.up {B : Nat} {w w' : World} {A : Option Addr} {r c : Nat} (h : RowsO B w A r c) (k : Up B w w') : RowsO B w' A r c := by
  obtain ⟨dv, cont, h1, h2, h3⟩ := h
  exact ⟨dv, cont, own_stays h1 fun b hb => k.2 b (World.ownsRow.lt h1 b hb).1 (World.ownsRow.lt h1 b hb).2, fun j hj => ⟨own_stays (h2 j hj).1 fun b hb => k.2 b ((h2 j hj).1.lt b hb).1 ((h2 j hj).1.lt b hb).2, (h2 j hj).2⟩, h3⟩
theorem RowsO.snoc {B : Nat} {w w0 w' : World} {A A' : Option Addr} {r c c' : Nat} {v : Value} {zs : List B8} {dv : Nat → Value} {cont : Nat → List B8}
    (h1 : w.ownsRow B 26 1 (.slice A r c) r ((List.range r).map dv)) (h2 : ∀ j, j < r → OwnN w B (dv j) (cont j) ∧ (cont j).length ≤ 1000000) (h3 : ∀ i j b, i < j → j < r → (dv i).ownBlock = some b → (dv j).ownBlock ≠ some b)
    (hv : OwnN w B v zs) (hz : zs.length ≤ 1000000) (hold : ∀ j b, j < r → (dv j).ownBlock = some b → b < w0.heap.size) (hnew : ∀ b, v.ownBlock = some b → w0.heap.size ≤ b)
    (g1 : w'.ownsRow B 26 1 (.slice A' (r + 1) c') (r + 1) ((List.range r).map dv ++ [v])) (hg : w.grownBy w' (Value.slice A r c).ownBlock) : RowsO B w' A' (r + 1) c' := by
  refine ⟨fun j => if j = r then v else dv j, fun j => if j = r then zs else cont j, ?_, fun j hj => ?_, fun i j b hij hj e1 e2 => ?_⟩
  · have e : (List.range (r + 1)).map (fun j => if j = r then v else dv j) = (List.range r).map dv ++ [v] := by
      rw [List.range_succ, List.map_append]
      congr 1
      · apply List.map_congr_left
        intro j hj
        rw [if_neg (by have := List.mem_range.1 hj; omega)]
      · simp
    rw [e]; exact g1
  · dsimp only
    by_cases h : j = r
    · rw [if_pos h, if_pos h]; exact ⟨row_keep hv h1 (by decide) hg, hz⟩
    · rw [if_neg h, if_neg h]; exact ⟨row_keep (h2 j (by omega)).1 h1 (by decide) hg, (h2 j (by omega)).2⟩
  · dsimp only at e1 e2
    by_cases h : j = r
    · rw [if_pos h] at e2
      rw [if_neg (by omega)] at e1
      have q1 := hold i b (by omega) e1
      have q2 := hnew b e2
      omega
    · rw [if_neg h] at e2
      rw [if_neg (by omega)] at e1
      exact h3 i j b hij (by omega) e1 e2
/-- The two readers, side by side. -/
structure Inv (W W0 : World) (g q m : Nat) (w : World) (ys : List B8) (f : Bool) : Prop where
  rd : Rd W0 g w ys f
  rf : RfS q m w ys f
  ok : Ok W w
structure Pos (W W0 : World) (g q m : Nat) : Prop where
  wg : W.heap.size ≤ g
  gm : g < m
  qg : q ≠ g
theorem Inv.step {W W0 w1 w2 w : World} {g q m : Nat} {ys ys' : List B8} {f f' : Bool} (h : Inv W W0 g q m w ys f) (p : Pos W W0 g q m) (h1 : Rd W0 g w1 ys' f') (k1 : Alo g w w1) (h2 : RfS q m w2 ys' f') (k2 : Alo m w1 w2) : Inv W W0 g q m w2 ys' f' :=
  ⟨h1.alo k2 p.gm, h2, Below.trans h.ok (Below.trans (k1.below p.wg h.ok.size) (k2.below (Nat.le_trans p.wg (Nat.le_of_lt p.gm)) (Nat.le_trans h.ok.size k1.size)))⟩
theorem Inv.to {W W0 w w' : World} {g q m : Nat} {ys : List B8} {f : Bool} (h : Inv W W0 g q m w ys f) (k : Ok w w') : Inv W W0 g q m w' ys f := ⟨h.rd.ok k, h.rf.ok k, Ok.trans h.ok k⟩
theorem Inv.rf1 {W W0 w w1 : World} {g q m : Nat} {ys : List B8} {f : Bool} (h : Inv W W0 g q m w ys f) (p : Pos W W0 g q m) (k : Alo g w w1) : RfS q m w1 ys f := h.rf.alo k p.qg (by have := p.gm; omega)
/-- The calls, in memory. -/
structure Cl where
  kind : Int
  most : Int
def CallsAt (w : World) (A : Option Addr) (l : List Cl) : Prop := ∀ k, k < l.length → ∃ b o, A = some ⟨b, o, none⟩ ∧ w.cell? ⟨b, o + k * 2, none⟩ = some (.int .i64 (l.getD k ⟨0, 0⟩).kind) ∧ w.cell? ⟨b, o + k * 2 + 1, none⟩ = some (.int .i64 (l.getD k ⟨0, 0⟩).most)
theorem CallsAt.ok {w w' : World} {A : Option Addr} {l : List Cl} (h : CallsAt w A l) (k : Ok w w') : CallsAt w' A l := fun j hj =>
  let ⟨b, o, e, h1, h2⟩ := h j hj
  ⟨b, o, e, k.cell h1, k.cell h2⟩
theorem OwnN.cut {w : World} {B g : Nat} {v : Value} {xs : List B8} (h : OwnN w B v xs) (k : ∀ b, v.ownBlock = some b → b < g) : OwnN (cutW w g) B v xs := own_stays h fun b hb => cutW_at w g b (k b hb)
end Go.Proofs.Ytolfdncmlfnbdaa
