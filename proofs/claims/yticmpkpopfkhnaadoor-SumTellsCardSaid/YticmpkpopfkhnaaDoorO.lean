/- Small facts on worlds below whose old blocks nothing has turned, and on lists of bytes that lie in them. -/
import Derived.Test.YticmpkpopfkhnaaDoorA
namespace Go.Proofs.YticmpkpopfkhnaaDoor
open Go.RowKit

/-- Below the blocks of w nothing has turned. -/
def Ok (w w' : World) : Prop := Below w.heap.size w w'
theorem Ok.refl (w : World) : Ok w w := Below.refl _ _
theorem Ok.drew {w w' : World} (h : Ok w w') : Ok w w'.drew := Below.drew h
theorem Ok.alloc {w w' : World} (h : Ok w w') (o : Obj) : Ok w (w'.alloc o) := Below.alloc h (Below.size h) o
theorem Ok.call {w w' w'' : World} (h : Ok w w') (k : Below w'.heap.size w' w'') : Ok w w'' := Below.trans h (k.mono (Below.size h))
theorem Ok.trans {w w' w'' : World} (h : Ok w w') (k : Ok w' w'') : Ok w w'' := h.call k
theorem Ok.cell {w w' : World} {a : Addr} {v : Value} (h : Ok w w') (hc : w.cell? a = some v) : w'.cell? a = some v := by
  rw [Below.cell h (World.block_lt_of_cell? _ _ hc)]; exact hc
theorem Ok.tab {w w' : World} (h : Ok w w') (t : Tab w) : Tab w' := fun k hk => h.cell (t k hk)
theorem Ok.bytes {w w' : World} {v : Value} {xs : List B8} (h : Ok w w') (t : BytesIn w v xs) : BytesIn w' v xs := t.below h

/-- The same, for a region's own condition: no other rule meets it. -/
def OkS (w w' : World) : Prop := Ok w w'
theorem OkS.mk {w w' : World} (h : Ok w w') : OkS w w' := h
theorem S_of {wr X : World} {a : Addr} {v : Value} (hc : wr.cell? a = some v) (h : Ok wr X) : X.cell? a = some v ∧ Ok wr X := ⟨h.cell hc, h⟩

theorem rows1_of (w : World) (v : Value) (xs : List B8) (g c : Nat) (hc : w.cell? ⟨g, 0, none⟩ = some v) (h : BytesIn w v xs) :
    RowsIn w (.slice (some ⟨g, 0, none⟩) 1 c) [xs] :=
  .inr ⟨g, 0, c, rfl, by simp, fun r hr => match r, hr with | 0, _ => ⟨v, hc, h⟩⟩
theorem rows2_of (w : World) (v v' : Value) (xs xs' : List B8) (g c : Nat) (hc : w.cell? ⟨g, 0, none⟩ = some v) (hc' : w.cell? ⟨g, 1, none⟩ = some v') (h : BytesIn w v xs) (h' : BytesIn w v' xs') :
    RowsIn w (.slice (some ⟨g, 0, none⟩) 2 c) [xs, xs'] :=
  .inr ⟨g, 0, c, rfl, by simp, fun r hr => match r, hr with | 0, _ => ⟨v, hc, h⟩ | 1, _ => ⟨v', hc', h'⟩⟩
theorem rows3_of (w : World) (v v' v'' : Value) (xs xs' xs'' : List B8) (g c : Nat) (hc : w.cell? ⟨g, 0, none⟩ = some v) (hc' : w.cell? ⟨g, 1, none⟩ = some v') (hc'' : w.cell? ⟨g, 2, none⟩ = some v'') (h : BytesIn w v xs) (h' : BytesIn w v' xs') (h'' : BytesIn w v'' xs'') :
    RowsIn w (.slice (some ⟨g, 0, none⟩) 3 c) [xs, xs', xs''] :=
  .inr ⟨g, 0, c, rfl, by simp, fun r hr => match r, hr with | 0, _ => ⟨v, hc, h⟩ | 1, _ => ⟨v', hc', h'⟩ | 2, _ => ⟨v'', hc'', h''⟩⟩

/-- What a cell holds: behind a draw, behind a new block, in a new block, behind a call. -/
theorem C.drew {w : World} {a : Addr} {v : Value} (h : w.cell? a = some v) : w.drew.cell? a = some v := h
theorem C.old {w : World} {a : Addr} {v : Value} (o : Obj) (h : w.cell? a = some v) : (w.alloc o).cell? a = some v := (Ok.refl w).alloc o |>.cell h
theorem C.new {w : World} (g i : Nat) (cs : Array Value) (t : TypeId) (fz : Nat × Nat) {v : Value} (hg : g = w.heap.size) (h : cs[i]? = some v) : (w.alloc (.cells cs t fz)).cell? ⟨g, i, none⟩ = some v := by
  subst hg; rw [cell_of_row _ _ _ _ _ _ (heap_alloc_new w _), h]
theorem C.call {w w' : World} {a : Addr} {v : Value} (k : Ok w w') (h : w.cell? a = some v) : w'.cell? a = some v := k.cell h

end Go.Proofs.YticmpkpopfkhnaaDoor
