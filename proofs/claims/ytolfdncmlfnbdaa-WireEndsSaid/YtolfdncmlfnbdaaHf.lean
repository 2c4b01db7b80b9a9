/- The document's examples hold; rows that lie apart, a few of them. -/
import Derived.Test.YtolfdncmlfnbdaaHe
namespace Go.Proofs.Ytolfdncmlfnbdaa
open Go.RowKit

set_option maxRecDepth 100000 in
set_option maxHeartbeats 1000000 in
theorem texts_w (g : Nat) (v : Value) (xs : List B8) (s : ByteArray) (W : World) (hw : Wr g W v xs) (hs : s.size ≤ 1000000000) (hx : xs.length ≤ 140000000000000) (b o c : Nat) (hc : W.cell? ⟨b, o, none⟩ = some (.string s)) :
    Calls Try.prog 16 #[.pointer (some ⟨g, 0, none⟩), .slice (some ⟨b, o, none⟩) 1 c] W (WrPost g W (.pointer (some ⟨g, 0, none⟩)) (xs ++ enc s.size ++ ofStr s)) := by
  have HW := Lib.hid hw
  clear hw
  go_enter Try.func16, Try.ntmps16
  go_wp2_with fail
  refine (none_w g v xs _ HW.out).mono ?_
  rintro e w1 ⟨rfl, rfl⟩
  go_wp2_with fail
  refine wp_loop_rounds 2 ?_
  rw [rounds_succ]
  go_wp2_with fail
  refine (text_w g v xs s _ HW.out hs hx).mono ?_
  rintro e w2 ⟨rfl, hwx, hb2⟩
  have HWX := Lib.hid hwx
  have HB2 := Lib.hid hb2
  clear hwx hb2 hc
  go_wp2_with fail
  rw [rounds_succ]
  go_wp2_with fail
  go_ret
  exact ⟨rfl, HWX.out, HB2.out⟩

theorem Wr.alloc {g : Nat} {w : World} {v : Value} {xs : List B8} (h : Wr g w v xs) (o : Obj) : Wr g (w.alloc o) v xs :=
  have hk : Ok w (w.alloc o) := (Ok.refl w).alloc o
  ⟨hk.cell h.1, World.ownsRow.alloc h.2.1 o, hk.cell h.2.2.1, hk.cell h.2.2.2.1, by rw [Below.frozen hk (p := ⟨g, 0, none⟩) h.size]; exact h.2.2.2.2⟩
theorem cell_new (w : World) (v : Value) (t : TypeId) : (w.alloc (.cells #[v] t)).cell? ⟨w.heap.size, 0, none⟩ = some v := by
  rw [World.cell?_alloc_at _ _ _ _ rfl]; rfl

def exS : ByteArray := { data := #[97, 98] }
theorem ex_a : [] ++ encs [300] ++ enc exS.size ++ ofStr exS = [172#8, 2#8, 2#8, 97#8, 98#8] := by decide +kernel
theorem ex_b : rd 9 [128#8, 0#8] = none := by decide +kernel
theorem one300 (w : World) (g : Nat) : ∀ k, k < 1 → ∃ b o, (some (⟨w.heap.size, 0, none⟩ : Addr)) = some ⟨b, o, none⟩ ∧ (w.alloc (.cells #[.int .i64 300] 3)).cell? ⟨b, o + k, none⟩ = some (.int .i64 (([300].getD k 0 : Nat) : Int)) ∧ [300].getD k 0 ≤ 4611686018427387903 ∧ (0 < k → b < g) := by
  intro k hk
  obtain rfl : k = 0 := by omega
  exact ⟨_, 0, rfl, cell_new w _ 3, by decide, fun h => by omega⟩

set_option maxRecDepth 100000 in
set_option maxHeartbeats 2000000 in
theorem awake_v (W : World) : Calls Try.prog 11 #[] W fun e w' => e = .returned (.bool true) ∧ Ok W w' := by
  go_enter Try.func11, Try.ntmps11
  go_wp2_with fail
  refine (newWriter_w _).mono ?_
  rintro e w1 ⟨rfl, ⟨A, c, hw1⟩, hb1, hsz1⟩
  have HW1 := Lib.hid hw1
  have HB1 : Hid (Ok W w1) := Lib.hid hb1
  clear hw1 hb1 hsz1
  generalize hg : W.heap.size = g at *
  have HG := Lib.hid hg
  clear hg
  go_wp2_with fail
  refine (numbers_w g _ [] _ (HW1.out.alloc _) [300] (some ⟨w1.heap.size, 0, none⟩) 1 1 rfl (by decide) (by decide) (one300 w1 g)).mono ?_
  rintro e w2 ⟨rfl, ⟨A2, c2, hw2⟩, hb2⟩
  have HW2 := Lib.hid hw2
  have HB2 : Hid (Ok W w2) := Lib.hid (Below.trans (HB1.out.alloc _) (hb2.mono (Nat.le_of_eq HG.out)))
  clear hw2 hb2
  go_wp2_with fail
  refine (texts_w g _ ([] ++ encs [300]) exS _ (HW2.out.alloc _) (by decide) (by decide) w2.heap.size 0 1 (cell_new w2 _ 9)).mono ?_
  rintro e w3 ⟨rfl, ⟨A3, c3, hw3⟩, hb3⟩
  rw [ex_a] at hw3
  have HW3 := Lib.hid hw3
  have HB3 : Hid (Ok W w3) := Lib.hid (Below.trans (HB2.out.alloc _) (hb3.mono (Nat.le_of_eq HG.out)))
  clear hw3 hb3
  go_wp2_with fail
  refine (done_w g _ _ _ HW3.out (by decide)).mono ?_
  rintro e w4 ⟨⟨A4, c4, rfl, hby⟩, hok4, _⟩
  have HBY := Lib.hid hby
  have HB4 : Hid (Ok W w4) := Lib.hid (HB3.out.trans hok4)
  clear hby hok4
  simp only [List.length_cons, List.length_nil, Nat.zero_add] at HBY ⊢
  go_wp2_with fail
  refine (newReader_r _ _ [128#8, 0#8] (bytes_new w4 _ _ 5 _ _ _ 2 rfl rfl (by decide) (by decide) rfl) (by decide)).mono ?_
  rintro e w5 ⟨W0, g5, rfl, hrd, hok5, _⟩
  have HRD := Lib.hid hrd
  have HOK5 := Lib.hid hok5
  clear hrd hok5
  go_wp2_with fail
  have hnum : Calls Try.prog 27 #[.pointer (some ⟨g5, 0, none⟩), .int .i64 9] w5 (RdPost W0 g5 w5 (.int .i64 0) [] true) := by
    have h := Number_r W0 g5 w5 [128#8, 0#8] 9 (by decide) HRD.out
    rw [ex_b] at h
    exact h
  refine hnum.mono ?_
  clear hnum
  rintro e w6 ⟨rfl, hr6, ho6⟩
  have HR6 := Lib.hid hr6
  have HB6 : Hid (Ok w4 w6) := Lib.hid (((Ok.refl w4).alloc _).trans (HOK5.out.trans hr6.2.1))
  clear hr6 ho6
  go_wp2_with fail
  refine (sameBytes_v _ _ [172#8, 2#8, 2#8, 97#8, 98#8] _ ((HB6.out.alloc _).bytes HBY.out) (bytes_new w6 _ _ 5 _ _ _ 5 rfl rfl (by decide) (by decide) rfl)).mono ?_
  rintro e w7 ⟨rfl, hok7⟩
  have HR7 : Hid (Rd W0 g5 w7 [] true) := Lib.hid (HR6.out.ok (((Ok.refl w6).alloc _).trans hok7))
  have HB7 : Hid (Ok W w7) := Lib.hid (HB4.out.trans ((HB6.out.alloc _).trans hok7))
  clear hok7
  have he4 : endOf [] true = 4 := rfl
  go_wp2_with fail
  refine (end_r W0 g5 _ [] true HR7.out).mono ?_
  rintro e w8 ⟨rfl, rfl⟩
  rw [he4]
  go_wp2_with fail
  go_ret
  exact ⟨rfl, HB7.out⟩
def tsum (l : List ByteArray) (k : Nat) : Nat := ((l.take k).map ByteArray.size).sum
def rsum (l : List (List B8)) (k : Nat) : Nat := ((l.take k).map List.length).sum
theorem tsum_succ (l : List ByteArray) (k : Nat) (h : k < l.length) : tsum l (k + 1) = tsum l k + (l.getD k { data := #[] }).size := by
  unfold tsum; rw [List.take_succ_eq_append_getElem h, List.map_append, List.sum_append]; simp [h]
theorem rsum_succ (l : List (List B8)) (k : Nat) (h : k < l.length) : rsum l (k + 1) = rsum l k + (l.getD k []).length := by
  unfold rsum; rw [List.take_succ_eq_append_getElem h, List.map_append, List.sum_append]; simp [h]
theorem tsum_le (l : List ByteArray) : ∀ (d k : Nat), k + d ≤ l.length → tsum l k ≤ tsum l (k + d)
  | 0, k, _ => Nat.le_refl _
  | d + 1, k, h => Nat.le_trans (tsum_le l d k (by omega)) (by rw [← Nat.add_assoc, tsum_succ l (k + d) (by omega)]; omega)
theorem rsum_le (l : List (List B8)) : ∀ (d k : Nat), k + d ≤ l.length → rsum l k ≤ rsum l (k + d)
  | 0, k, _ => Nat.le_refl _
  | d + 1, k, h => Nat.le_trans (rsum_le l d k (by omega)) (by rw [← Nat.add_assoc, rsum_succ l (k + d) (by omega)]; omega)
theorem size_le_tsum (l : List ByteArray) (k : Nat) (h : k < l.length) : (l.getD k { data := #[] }).size ≤ tsum l l.length := by
  have h1 := tsum_succ l k h
  have h2 := tsum_le l (l.length - (k + 1)) (k + 1) (by omega)
  rw [show k + 1 + (l.length - (k + 1)) = l.length by omega] at h2
  omega
theorem len_le_rsum (l : List (List B8)) (k : Nat) (h : k < l.length) : (l.getD k []).length ≤ rsum l l.length := by
  have h1 := rsum_succ l k h
  have h2 := rsum_le l (l.length - (k + 1)) (k + 1) (by omega)
  rw [show k + 1 + (l.length - (k + 1)) = l.length by omega] at h2
  omega


theorem own0 {w : World} {B : Nat} {v : Value} {xs : List B8} (h : OwnN w B v xs) : w.ownsRow 0 5 1 v xs.length (xs.map bv) := h.mono (Nat.zero_le _)
/-- Rows of bytes in blocks of their own lie apart. -/
theorem fl_k {W : World} {k : Nat} {dv : Nat → Value} {cont : Nat → List B8} (hd : ∀ j, j < k → OwnN W 0 (dv j) (cont j)) (hdis : ∀ i j b, i < j → j < k → (dv i).ownBlock = some b → (dv j).ownBlock ≠ some b) :
    Fl 5 1 k dv (fun j => (cont j).length) (fun j => (cont j).map bv) 0 dv (fun j => (cont j).length) (fun j => (cont j).map bv) W := by
  refine ⟨fun j hj => own0 (hd j hj), fun j hj => absurd hj (Nat.not_lt_zero _), Nat.zero_le _, fun i j b hi hj h1 h2 => ?_⟩
  have e1 : (dv i).ownBlock = some b := by
    rcases h1 with q | ⟨q, _⟩
    · exact q
    · exact absurd q (Nat.not_lt_zero _)
  have e2 : (dv j).ownBlock = some b := by
    rcases h2 with q | ⟨q, _⟩
    · exact q
    · exact absurd q (Nat.not_lt_zero _)
  rcases Nat.lt_trichotomy i j with h | h | h
  · exact absurd e2 (hdis i j b h hj e1)
  · exact h
  · exact absurd e1 (hdis j i b h hi e2)
theorem Kv.low {W w' : World} {vs : Nat → Value} {m N : Nat} (h : Kv vs m W w') (hv : ∀ j b, j < m → (vs j).ownBlock = some b → N ≤ b) (hN : N ≤ W.heap.size) : Below N W w' :=
  ⟨h.os, h.tape, h.output, h.size, fun b hb => h.block b (by omega) (fun j hj e => by have := hv j b hj e; omega)⟩
theorem OwnN.lt {w : World} {B : Nat} {v : Value} {xs : List B8} (h : OwnN w B v xs) : ∀ b, v.ownBlock = some b → B ≤ b ∧ b < w.heap.size := fun b hb => World.ownsRow.lt h b hb
end Go.Proofs.Ytolfdncmlfnbdaa
