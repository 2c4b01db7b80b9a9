/- The law SumBytes, walked: called at a world in which the table is as the text lays it, it returns true, and turns nothing that was there. -/
import Derived.Test.YticmpkpopfkhnaaDoorA
import Derived.Test.YticmpkpopfkhnaaDoorE
import Derived.Deep.RegionHeld3
namespace Go.Proofs.YticmpkpopfkhnaaDoor
open Go.RowKit

/-- Below the blocks of w nothing has turned. -/
def Ok (w w' : World) : Prop := Below w.heap.size w w'
theorem Ok.refl (w : World) : Ok w w := Below.refl _ _
theorem Ok.drew {w w' : World} (h : Ok w w') : Ok w w'.drew := Below.drew h
theorem Ok.alloc {w w' : World} (h : Ok w w') (o : Obj) : Ok w (w'.alloc o) := Below.alloc h (Below.size h) o
theorem Ok.call {w w' w'' : World} (h : Ok w w') (k : Below w'.heap.size w' w'') : Ok w w'' := Below.trans h (k.mono (Below.size h))
theorem Ok.trans {w w' w'' : World} (h : Ok w w') (k : Ok w' w'') : Ok w w'' := h.call k
theorem Ok.cell {w w' : World} {a : Addr} {v : Value} (h : Ok w w') (hc : w.cell? a = some v) : w'.cell? a = some v := by
  rw [Below.cell h (World.block_lt_of_cell? _ _ hc)]; exact hc
theorem Ok.tab {w w' : World} (h : Ok w w') (t : Tab w) : Tab w' := fun k hk => h.cell (t k hk)
theorem Ok.bytes {w w' : World} {v : Value} {xs : List B8} (h : Ok w w') (t : BytesIn w v xs) : BytesIn w' v xs := t.below h

theorem S_of {wr X : World} {a : Addr} {v : Value} (hc : wr.cell? a = some v) (h : Ok wr X) : X.cell? a = some v ∧ Ok wr X := ⟨h.cell hc, h⟩

theorem rows1_of (w : World) (v : Value) (xs : List B8) (g c : Nat) (hc : w.cell? ⟨g, 0, none⟩ = some v) (h : BytesIn w v xs) :
    RowsIn w (.slice (some ⟨g, 0, none⟩) 1 c) [xs] :=
  .inr ⟨g, 0, c, rfl, by simp, fun r hr => match r, hr with | 0, _ => ⟨v, hc, h⟩⟩
theorem rows2_of (w : World) (v v' : Value) (xs xs' : List B8) (g c : Nat) (hc : w.cell? ⟨g, 0, none⟩ = some v) (hc' : w.cell? ⟨g, 1, none⟩ = some v') (h : BytesIn w v xs) (h' : BytesIn w v' xs') :
    RowsIn w (.slice (some ⟨g, 0, none⟩) 2 c) [xs, xs'] :=
  .inr ⟨g, 0, c, rfl, by simp, fun r hr => match r, hr with | 0, _ => ⟨v, hc, h⟩ | 1, _ => ⟨v', hc', h'⟩⟩
theorem rows3_of (w : World) (v v' v'' : Value) (xs xs' xs'' : List B8) (g c : Nat) (hc : w.cell? ⟨g, 0, none⟩ = some v) (hc' : w.cell? ⟨g, 1, none⟩ = some v') (hc'' : w.cell? ⟨g, 2, none⟩ = some v'') (h : BytesIn w v xs) (h' : BytesIn w v' xs') (h'' : BytesIn w v'' xs'') :
    RowsIn w (.slice (some ⟨g, 0, none⟩) 3 c) [xs, xs', xs''] :=
  .inr ⟨g, 0, c, rfl, by simp, fun r hr => match r, hr with | 0, _ => ⟨v, hc, h⟩ | 1, _ => ⟨v', hc', h'⟩ | 2, _ => ⟨v'', hc'', h''⟩⟩

/-- What a cell holds: behind a draw, behind a new block, in a new block, behind a call. -/
theorem C.drew {w : World} {a : Addr} {v : Value} (h : w.cell? a = some v) : w.drew.cell? a = some v := h
theorem C.old {w : World} {a : Addr} {v : Value} (o : Obj) (h : w.cell? a = some v) : (w.alloc o).cell? a = some v := (Ok.refl w).alloc o |>.cell h
theorem C.new {w : World} (g i : Nat) (cs : Array Value) (t : TypeId) (fz : Nat × Nat) {v : Value} (hg : g = w.heap.size) (h : cs[i]? = some v) : (w.alloc (.cells cs t fz)).cell? ⟨g, i, none⟩ = some v := by
  subst hg; rw [cell_of_row _ _ _ _ _ _ (heap_alloc_new w _), h]
theorem C.call {w w' : World} {a : Addr} {v : Value} (k : Ok w w') (h : w.cell? a = some v) : w'.cell? a = some v := k.cell h

/-- The sums of the law. -/
def sL : List B32 := [0#32, 1#32, 2147483648#32, 4294967295#32, 3988292384#32, 3736805603#32]
def sCells : Array Value := #[.int .u32 0, .int .u32 1, .int .u32 2147483648, .int .u32 4294967295, .int .u32 3988292384, .int .u32 3736805603]
theorem sCell (w : World) (t : TypeId) (k : Nat) (hk : k < 6) : (w.alloc (.cells sCells t)).cell? ⟨w.heap.size, k, none⟩ = some (.int .u32 (u (sL.getD k 0#32))) := by
  rw [cell_of_row _ _ _ _ _ _ (heap_alloc_new w _)]
  match k, hk with
  | 0, _ => rfl
  | 1, _ => rfl
  | 2, _ => rfl
  | 3, _ => rfl
  | 4, _ => rfl
  | 5, _ => rfl
theorem ofNat_ub (k : Nat) (h : k < 256) : (k : Int) = ub (BitVec.ofNat 8 k) := by
  rw [ub, BitVec.toNat_ofNat]; omega
theorem twice (s : B32) (xs : List B8) : more s [xs, [], xs] = more s [xs, xs] := by simp [more, fdss, fds]

set_option maxRecDepth 100000 in
set_option maxHeartbeats 20000000 in
theorem sumBytes_v (W : World) (ht : Tab W) :
    Calls Tryd.prog 4 #[] W fun e w' => e = .returned (.bool true) ∧ Below W.heap.size W w' := by
  have h0 : 0 < W.heap.size := World.block_lt_of_cell? W _ (ht 0 (by decide))
  have HW1 : Hid (Below W.heap.size W (W.alloc (.cells sCells 23))) := Lib.hid ((Below.refl _ _).alloc (Nat.le_refl _) _)
  have HS := Lib.hid (sCell W 23)
  have HT : Hid (Tab (W.alloc (.cells sCells 23))) := Lib.hid (ht.below HW1.out h0)
  clear ht
  go_enter Tryd.func4, Tryd.ntmps4
  go_wp2_with fail
  have hW1 : W.alloc (.cells sCells 23) = W.alloc (.cells #[.int .u32 0, .int .u32 1, .int .u32 2147483648, .int .u32 4294967295, .int .u32 3988292384, .int .u32 3736805603] 23) := rfl
  rw [← hW1]
  clear hW1
  have hsz : W.heap.size < (W.alloc (.cells sCells 23)).heap.size := by simp
  generalize W.alloc (.cells sCells 23) = W1 at *
  go_loopw [2] (fun i wr => ∃ k : Nat, k ≤ 256 ∧ i = .int .i64 k ∧ Ok W1 wr) (fun i _ => 256 - (intOf i).toNat)
  case atStart => exact ⟨0, Nat.zero_le _, rfl, Ok.refl _⟩
  case round =>
    obtain ⟨k, hk, rfl, hok⟩ := hrel
    by_cases hlt : k < 256
    · have hdec : decide ((k : Int) < 256) = true := decide_eq_true (by omega)
      have HU := Lib.hid (ofNat_ub k hlt)
      have HBY : Hid (BytesIn (wr.alloc (.cells #[.int .u8 k] 5)) (.slice (some ⟨wr.heap.size, 0, none⟩) 1 1) [BitVec.ofNat 8 k]) :=
        Lib.hid (bytes_new wr _ _ 5 _ _ _ 1 rfl rfl (by simp) (by simp [← HU.out]))
      have HOK := Lib.hid (hok.alloc (.cells #[.int .u8 k] 5))
      clear hok
      go_wp2_with fail
      generalize wr.alloc (.cells #[.int .u8 k] 5) = W2 at *
      generalize wr.heap.size = g at *
      generalize [BitVec.ofNat 8 k] = xs at *
      clear HU
      go_loopw [4] (fun i wr => ∃ j : Nat, j ≤ 6 ∧ i = .int .i64 j ∧ Ok W2 wr) (fun i _ => 6 - (intOf i).toNat)
      case atStart => exact ⟨0, Nat.zero_le _, rfl, Ok.refl _⟩
      case round =>
        obtain ⟨j, hj, rfl, hok⟩ := hrel
        by_cases hlj : j < 6
        · have hcell : wr.cell? ⟨W.heap.size, j, none⟩ = some (.int .u32 (u (sL.getD j 0#32))) := hok.cell (HOK.out.cell (HS.out j hlj))
          have HT2 := Lib.hid (hok.tab (HOK.out.tab HT.out))
          have HB2 := Lib.hid (hok.bytes HBY.out)
          have H2 := Lib.hid (twice (sL.getD j 0#32) xs)
          have HO := Lib.hid hok
          clear hok
          generalize sL.getD j 0#32 = s at *
          go_wp2_with fail
          go_region_held3 (fun w' => w'.cell? ⟨W.heap.size, j, none⟩ = some (.int .u32 (u s)) ∧ Ok wr w')
            ((refine S_of hcell ?_; repeat (first | (with_reducible exact Ok.refl _) | (with_reducible refine Ok.drew ?_) | (with_reducible refine Ok.alloc ?_ _) | (with_reducible refine Ok.trans ?_ (by assumption)))))
            (first
              | (go_at_call 12; (with_reducible refine (more_v s _ [xs] _ (rows1_of _ (.slice (some ⟨g, 0, none⟩) 1 1) xs _ _ ?_ ?_) ?_).mono ?_); (repeat (first | ((with_reducible refine C.new _ _ _ _ _ ?_ ?_) <;> (first | rfl | (simp; done))) | (with_reducible refine C.drew ?_) | (with_reducible refine C.old _ ?_) | (with_reducible refine C.call (by assumption) ?_))); (refine Ok.bytes (w := wr) ?_ HB2.out; repeat (first | (with_reducible exact Ok.refl _) | (with_reducible refine Ok.drew ?_) | (with_reducible refine Ok.alloc ?_ _) | (with_reducible refine Ok.trans ?_ (by assumption)))); (refine Ok.tab (w := wr) ?_ HT2.out; repeat (first | (with_reducible exact Ok.refl _) | (with_reducible refine Ok.drew ?_) | (with_reducible refine Ok.alloc ?_ _) | (with_reducible refine Ok.trans ?_ (by assumption)))); rintro e w1 ⟨rfl, hb⟩; replace hb : Ok _ _ := hb)
              | (go_at_call 12; (with_reducible refine (more_v s _ [xs, [], xs] _ (rows3_of _ (.slice (some ⟨g, 0, none⟩) 1 1) (.slice none 0 0) (.slice (some ⟨g, 0, none⟩) 1 1) xs [] xs _ _ ?_ ?_ ?_ ?_ ?_ ?_) ?_).mono ?_); (repeat (first | ((with_reducible refine C.new _ _ _ _ _ ?_ ?_) <;> (first | rfl | (simp; done))) | (with_reducible refine C.drew ?_) | (with_reducible refine C.old _ ?_) | (with_reducible refine C.call (by assumption) ?_))); (repeat (first | ((with_reducible refine C.new _ _ _ _ _ ?_ ?_) <;> (first | rfl | (simp; done))) | (with_reducible refine C.drew ?_) | (with_reducible refine C.old _ ?_) | (with_reducible refine C.call (by assumption) ?_))); (repeat (first | ((with_reducible refine C.new _ _ _ _ _ ?_ ?_) <;> (first | rfl | (simp; done))) | (with_reducible refine C.drew ?_) | (with_reducible refine C.old _ ?_) | (with_reducible refine C.call (by assumption) ?_))); (refine Ok.bytes (w := wr) ?_ HB2.out; repeat (first | (with_reducible exact Ok.refl _) | (with_reducible refine Ok.drew ?_) | (with_reducible refine Ok.alloc ?_ _) | (with_reducible refine Ok.trans ?_ (by assumption)))); exact BytesIn.nil _; (refine Ok.bytes (w := wr) ?_ HB2.out; repeat (first | (with_reducible exact Ok.refl _) | (with_reducible refine Ok.drew ?_) | (with_reducible refine Ok.alloc ?_ _) | (with_reducible refine Ok.trans ?_ (by assumption)))); (refine Ok.tab (w := wr) ?_ HT2.out; repeat (first | (with_reducible exact Ok.refl _) | (with_reducible refine Ok.drew ?_) | (with_reducible refine Ok.alloc ?_ _) | (with_reducible refine Ok.trans ?_ (by assumption)))); rintro e w1 ⟨rfl, hb⟩; rw [H2.out]; replace hb : Ok _ _ := hb)
              | (go_at_call 13; (with_reducible refine (rmore_v s _ [xs] _ (rows1_of _ (.slice (some ⟨g, 0, none⟩) 1 1) xs _ _ ?_ ?_)).mono ?_); (repeat (first | ((with_reducible refine C.new _ _ _ _ _ ?_ ?_) <;> (first | rfl | (simp; done))) | (with_reducible refine C.drew ?_) | (with_reducible refine C.old _ ?_) | (with_reducible refine C.call (by assumption) ?_))); (refine Ok.bytes (w := wr) ?_ HB2.out; repeat (first | (with_reducible exact Ok.refl _) | (with_reducible refine Ok.drew ?_) | (with_reducible refine Ok.alloc ?_ _) | (with_reducible refine Ok.trans ?_ (by assumption)))); rintro e w1 ⟨rfl, rfl⟩)
              | (go_at_call 13; (with_reducible refine (rmore_v s _ [xs, xs] _ (rows2_of _ (.slice (some ⟨g, 0, none⟩) 1 1) (.slice (some ⟨g, 0, none⟩) 1 1) xs xs _ _ ?_ ?_ ?_ ?_)).mono ?_); (repeat (first | ((with_reducible refine C.new _ _ _ _ _ ?_ ?_) <;> (first | rfl | (simp; done))) | (with_reducible refine C.drew ?_) | (with_reducible refine C.old _ ?_) | (with_reducible refine C.call (by assumption) ?_))); (repeat (first | ((with_reducible refine C.new _ _ _ _ _ ?_ ?_) <;> (first | rfl | (simp; done))) | (with_reducible refine C.drew ?_) | (with_reducible refine C.old _ ?_) | (with_reducible refine C.call (by assumption) ?_))); (refine Ok.bytes (w := wr) ?_ HB2.out; repeat (first | (with_reducible exact Ok.refl _) | (with_reducible refine Ok.drew ?_) | (with_reducible refine Ok.alloc ?_ _) | (with_reducible refine Ok.trans ?_ (by assumption)))); (refine Ok.bytes (w := wr) ?_ HB2.out; repeat (first | (with_reducible exact Ok.refl _) | (with_reducible refine Ok.drew ?_) | (with_reducible refine Ok.alloc ?_ _) | (with_reducible refine Ok.trans ?_ (by assumption)))); rintro e w1 ⟨rfl, rfl⟩))
          all_goals go_wp2_with fail
          all_goals exact ⟨⟨j + 1, by omega, by go_num, HO.out.trans (by repeat (first | (with_reducible exact Ok.refl _) | (with_reducible refine Ok.drew ?_) | (with_reducible refine Ok.alloc ?_ _) | (with_reducible refine Ok.trans ?_ (by assumption))))⟩, by simp [intOf]; omega⟩
        · have : j = 6 := by omega
          subst this
          go_wp2_with fail
          go_roundw
          case rel => exact ⟨k + 1, by omega, by go_num, HOK.out.trans hok⟩
          case measure => simp [intOf]; omega
    · have : k = 256 := by omega
      subst this
      have HT2 := Lib.hid (hok.tab HT.out)
      have HO := Lib.hid hok
      clear hok
      have heq := eqTab
      have hgd := grdTab
      generalize htc : tc 256 = cs at *
      have HCS := Lib.hid htc
      clear htc
      go_wp2_with fail
      refine (table_v _ HT2.out).mono ?_
      rintro e w1 ⟨rfl, hb⟩
      have HO1 := Lib.hid (HO.out.call hb)
      have HT3 := Lib.hid (Ok.tab hb HT2.out)
      clear hb
      rw [HCS.out]
      go_wp2_with fail
      refine (rtable_v _).mono ?_
      rintro e w2 ⟨rfl, hb⟩
      have HO2 := Lib.hid (HO1.out.call hb)
      have HT4 := Lib.hid (Ok.tab hb HT3.out)
      clear hb
      rw [HCS.out]
      go_wp2_with fail
      refine (awake_v _ HT4.out).mono ?_
      rintro e w3 ⟨rfl, hb⟩
      have HO3 := Lib.hid (HO2.out.call hb)
      clear hb
      go_wp2_with fail
      go_ret
      exact ⟨rfl, HW1.out.trans (Below.mono HO3.out (by omega))⟩

end Go.Proofs.YticmpkpopfkhnaaDoor
