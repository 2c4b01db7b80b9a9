/- Contracts of the document's examples, and of the look at how much there is. -/
import Derived.Test.YticmpkpopfkhnaaDoorT
import Derived.Lib.SlBytesConst
namespace Go.Proofs.YticmpkpopfkhnaaDoor
open Go.RowKit

/-- Bytes in a block that was made last. -/
theorem bytes_new (w : World) (xs : List B8) (cells : Array Value) (t : TypeId) (fz : Nat × Nat) (g n c : Nat) (hg : g = w.heap.size) (hn : n = xs.length) (h : xs.length ≤ 140737488351232) (hc : cells.toList = xs.map fun b => Value.int .u8 (ub b)) :
    BytesIn (w.alloc (.cells cells t fz)) (.slice (some ⟨g, 0, none⟩) n c) xs := by
  subst hg; subst hn
  refine .inr ⟨w.heap.size, 0, c, rfl, h, fun i hi => ?_⟩
  rw [cell_of_row _ _ _ _ _ _ (heap_alloc_new w _), ← Array.getElem?_toList, hc]
  simp [hi]
theorem BytesIn.alloc {w : World} {v : Value} {xs : List B8} (h : BytesIn w v xs) (o : Obj) : BytesIn (w.alloc o) v xs :=
  h.below ((Below.refl _ _).alloc (Nat.le_refl _) _)
theorem BytesIn.nil (w : World) : BytesIn w (.slice none 0 0) [] := .inl ⟨rfl, _, _, rfl, fun _ => rfl⟩
/-- Lists of bytes, held in a block that was made last. -/
theorem rows1_new (w : World) (v : Value) (xs : List B8) (t : TypeId) (g c : Nat) (hg : g = w.heap.size) (h : BytesIn w v xs) :
    RowsIn (w.alloc (.cells #[v] t)) (.slice (some ⟨g, 0, none⟩) 1 c) [xs] := by
  subst hg
  refine .inr ⟨w.heap.size, 0, c, rfl, by simp, fun r hr => ?_⟩
  match r, hr with
  | 0, _ => exact ⟨v, by rw [World.cell?_alloc_at _ _ _ _ rfl]; rfl, h.alloc _⟩
theorem rows2_new (w : World) (v v' : Value) (xs xs' : List B8) (t : TypeId) (g c : Nat) (hg : g = w.heap.size) (h : BytesIn w v xs) (h' : BytesIn w v' xs') :
    RowsIn (w.alloc (.cells #[v, v'] t)) (.slice (some ⟨g, 0, none⟩) 2 c) [xs, xs'] := by
  subst hg
  refine .inr ⟨w.heap.size, 0, c, rfl, by simp, fun r hr => ?_⟩
  match r, hr with
  | 0, _ => exact ⟨v, by rw [World.cell?_alloc_at _ _ _ _ rfl]; rfl, h.alloc _⟩
  | 1, _ => exact ⟨v', by rw [World.cell?_alloc_at _ _ _ _ rfl]; rfl, h'.alloc _⟩
theorem rows3_new (w : World) (v v' v'' : Value) (xs xs' xs'' : List B8) (t : TypeId) (g c : Nat) (hg : g = w.heap.size) (h : BytesIn w v xs) (h' : BytesIn w v' xs') (h'' : BytesIn w v'' xs'') :
    RowsIn (w.alloc (.cells #[v, v', v''] t)) (.slice (some ⟨g, 0, none⟩) 3 c) [xs, xs', xs''] := by
  subst hg
  refine .inr ⟨w.heap.size, 0, c, rfl, by simp, fun r hr => ?_⟩
  match r, hr with
  | 0, _ => exact ⟨v, by rw [World.cell?_alloc_at _ _ _ _ rfl]; rfl, h.alloc _⟩
  | 1, _ => exact ⟨v', by rw [World.cell?_alloc_at _ _ _ _ rfl]; rfl, h'.alloc _⟩
  | 2, _ => exact ⟨v'', by rw [World.cell?_alloc_at _ _ _ _ rfl]; rfl, h''.alloc _⟩
theorem RowsIn.nil (w : World) : RowsIn w (.slice none 0 0) [] := .inl ⟨rfl, _, _, rfl⟩

def ex9 : List B8 := [49#8, 50#8, 51#8, 52#8, 53#8, 54#8, 55#8, 56#8, 57#8]
theorem more9 : (u (more 0#32 [ex9]) == 3421780262) = true := by decide +kernel
theorem more_nil : (u (more 0#32 []) == 0) = true := by decide +kernel
theorem tv1 : (u (tv 1) == 1996959894) = true := by decide +kernel
theorem index1 (w : World) : (Instr.index 35 (.agg (tc 256)) (.int .i64 1)).run Tryd.prog w = .ok (.int .u32 (u (tv 1))) w := by kernel_rfl

theorem two_below (w : World) (o o' : Obj) : Below w.heap.size w ((w.alloc o).alloc o') := ((Below.refl _ _).alloc (Nat.le_refl _) _).alloc (by simp) _

set_option maxRecDepth 100000 in
set_option maxHeartbeats 1000000 in
theorem awake_v (W : World) (ht : Tab W) :
    Calls Tryd.prog 8 #[] W fun e w' => e = .returned (.bool true) ∧ Below W.heap.size W w' := by
  have h0 : 0 < W.heap.size := World.block_lt_of_cell? W _ (ht 0 (by decide))
  have HT := Lib.hid ht
  clear ht
  have kc := fun (w : World) (C : Array Value) (n c : Nat) => Lib.run_convert_bytes_const (P := Tryd.prog) w 34 5 C n c Tryd.underlying34 Tryd.underlying5
  have e9 := more9
  have en := more_nil
  have e1 := tv1
  generalize hv9 : u (more 0#32 [ex9]) = v9 at e9
  generalize hvn : u (more 0#32 []) = vn at en
  have H9 := Lib.hid hv9
  have HN := Lib.hid hvn
  clear hv9 hvn
  have hix := index1
  generalize u (tv 1) = v1 at e1 hix
  generalize htc : tc 256 = cs at hix
  have HCS := Lib.hid htc
  clear htc
  go_enter Tryd.func8, Tryd.ntmps8
  go_wp2_with fail
  refine (sum0_v _ [ex9] _ (rows1_new _ _ ex9 34 _ 1 (by simp) (bytes_new W ex9 _ 5 (9, 10) _ _ 9 rfl rfl (by decide) rfl)) (HT.out.below (two_below _ _ _) h0)).mono ?_
  rintro e w1 ⟨rfl, hb1⟩
  have HB1 := Lib.hid ((two_below _ _ _).trans (hb1.mono (by simp; omega)))
  clear hb1
  rw [H9.out]
  go_wp2_with fail
  refine (sum0_v _ [] _ (RowsIn.nil _) (HT.out.below HB1.out h0)).mono ?_
  rintro e w2 ⟨rfl, hb2⟩
  have HB2 := Lib.hid (HB1.out.trans (hb2.mono HB1.out.size))
  clear hb2
  rw [HN.out]
  go_wp2_with fail
  refine (table_v _ (HT.out.below HB2.out h0)).mono ?_
  rintro e w3 ⟨rfl, hb3⟩
  have HB3 := Lib.hid (HB2.out.trans (hb3.mono HB2.out.size))
  clear hb3
  rw [HCS.out]
  go_wp2_with fail
  go_ret
  exact ⟨rfl, HB3.out⟩

end Go.Proofs.YticmpkpopfkhnaaDoor
