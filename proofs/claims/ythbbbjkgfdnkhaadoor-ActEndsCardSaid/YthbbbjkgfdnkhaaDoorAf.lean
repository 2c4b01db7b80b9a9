/- Acts done at a place: one act of each kind. -/
import Derived.Test.YthbbbjkgfdnkhaaDoorAe
import Derived.Deep.RegionHeld3
import Derived.Deep.RegionWith
namespace Go.Proofs.YthbbbjkgfdnkhaaDoor
open Go.RowKit
/-- The table stays, whatever turns at p or behind it. -/
def Tq (p : Nat) (w : World) : Prop := ∀ w', Below p w w' → Tb w'
theorem Tq.on {p : Nat} {w w' : World} (h : Tq p w) (k : Below p w w') : Tq p w' := fun v hv => h v (k.trans hv)
theorem Tq.of {w : World} (h : Tb w) : Tq w.heap.size w := Lib.tabBelow_of_tabIs h
structure Ac where
  kind : Int
  key : Str
  value : Str
  num : Int
def acV (a : Ac) : Value := .agg #[.int .u8 a.kind, .string a.key, .string a.value, .int .i64 a.num]
theorem numV_in (l : Chs) : -1073741824 ≤ numV l ∧ numV l ≤ 1073741824 := by
  rw [numV_eq]
  split
  · rename_i h
    split <;> omega
  · omega
def sumV (val : Str) (num : Int) : Str := valueT (numV val.data.toList + boundM num 2147483648)
set_option maxHeartbeats 1000000 in
theorem stand_w (p : Nat) (w : World) (A : Option Addr) (n c : Nat) (rs : List Rd) (is : Bool) (val : Str) (put : Bool) (h : Pl p w A n c rs is val put) (v : Str) :
    Calls Tryd.prog 48 #[.pointer (some ⟨p, 0, none⟩), .string v] w (PlP p w rs true v true) := by
  have HG : Hid (PlP p w rs true v true (.returned (.tuple #[])) (((w.setCell ⟨p, 1, none⟩ (.bool true)).setCell ⟨p, 2, none⟩ (.string v)).setCell ⟨p, 3, none⟩ (.bool true))) := Lib.hid (by
    obtain ⟨h0, ho, h1, h2, h3, g0, g1, g2, g3⟩ := h
    refine ⟨rfl, ⟨A, n, c, ?_⟩, (((Below.refl p w).setCell (p := ⟨p, 1, none⟩) (Nat.le_refl _) _).setCell (p := ⟨p, 2, none⟩) (Nat.le_refl _) _).setCell (p := ⟨p, 3, none⟩) (Nat.le_refl _) _, fun b hb _ _ => by rw [Below.heap_setCell _ _ _ _ hb, Below.heap_setCell _ _ _ _ hb, Below.heap_setCell _ _ _ _ hb]⟩
    exact ⟨by go_simp, ((ho.set (Nat.lt_succ_self p) _ _).set (Nat.lt_succ_self p) _ _).set (Nat.lt_succ_self p) _ _, by go_simp, by go_simp, by go_simp, by go_simp, by go_simp, by go_simp, by go_simp⟩)
  obtain ⟨h0, ho, h1, h2, h3, g0, g1, g2, g3⟩ := h
  clear ho
  go_enter Tryd.func48, Tryd.ntmps48
  go_wp2
  go_end0
  exact HG.out
theorem Kq.ok {p : Nat} {w V w' : World} (k : Ok w V) (h : Kq p V w') : Kq p w w' := fun b hb hlt hty => by
  rw [h b hb (Nat.lt_of_lt_of_le hlt k.size) (fun cs fz e => hty cs fz (by rw [← k.block b hlt]; exact e))]
  exact k.block b hlt
theorem Kq.trans {p : Nat} {w V w' : World} (k : Kq p w V) (hs : w.heap.size ≤ V.heap.size) (h : Kq p V w') : Kq p w w' := fun b hb hlt hty => by
  have e1 := k b hb hlt hty
  rw [h b hb (Nat.lt_of_lt_of_le hlt hs) (fun cs fz e => hty cs fz (by rw [← e1]; exact e))]
  exact e1
theorem Kq.cell {p : Nat} {w w' : World} (k : Kq p w w') {b : Nat} (hb : b ≠ p) {cs : Array Value} {ty : TypeId} {fz : Nat × Nat} (ht : ty ≠ 57) (h : w.heap[b]? = some (.cells cs ty fz)) : w'.heap[b]? = some (.cells cs ty fz) :=
  (k b hb (Array.getElem?_eq_some_iff.1 h).1 (fun cs' fz' e => by rw [h] at e; cases e; exact ht rfl)).trans h
theorem cell_of_heap {w : World} {b ty : Nat} {cs : Array Value} {fz : Nat × Nat} (h : w.heap[b]? = some (.cells cs ty fz)) (i : Nat) : w.cell? ⟨b, i, none⟩ = cs[i]? := by
  simp [World.cell?, h]
theorem blk_new {w : World} {n : Nat} {o : Obj} (h : w.heap.size = n) : (w.alloc o).heap[n]? = some o := h ▸ heap_alloc_new w o
theorem blk_ok {w w' : World} {n : Nat} {o : Obj} (k : Ok w w') (h : w.heap[n]? = some o) : w'.heap[n]? = some o := by
  rw [k.block n (Array.getElem?_eq_some_iff.1 h).1]; exact h
set_option maxHeartbeats 1000000 in
theorem doPut_w (p : Nat) (w : World) (A : Option Addr) (n c : Nat) (rs : List Rd) (is : Bool) (val : Str) (put : Bool) (h : Pl p w A n c rs is val put) (a : Ac) :
    Calls Tryd.prog 35 #[.pointer (some ⟨p, 0, none⟩), acV a] w (PlP p w rs true a.value true) := by
  obtain ⟨kind, key, value, num⟩ := a
  unfold acV
  simp only
  have hp := h.lt
  have oa := (Ok.refl w).alloc (.cells #[.int .u8 kind, .string key, .string value, .int .i64 num] 52)
  have HA := Lib.hid oa
  have HP := Lib.hid (stand_w p _ A n c rs is val put (h.ok oa) value)
  clear oa h
  go_enter Tryd.func35, Tryd.ntmps35
  go_wp2_with fail
  (with_reducible refine HP.out.mono ?_)
  rintro _ w2 ⟨rfl, hpl, hb, hkq⟩
  have HKQ : Hid (Kq p w w2) := Lib.hid (Kq.ok HA.out hkq)
  clear hkq
  have HB := Lib.hid (Below.trans (Below.mono HA.out (Nat.le_of_lt hp)) hb)
  have HPL := Lib.hid hpl
  clear hpl hb
  go_wp2_with fail
  go_end0
  exact ⟨rfl, HPL.out, HB.out, HKQ.out⟩
set_option maxHeartbeats 1000000 in
theorem doGet_w (p : Nat) (w : World) (A : Option Addr) (n c : Nat) (rs : List Rd) (is : Bool) (val : Str) (put : Bool) (h : Pl p w A n c rs is val put) (hl : rs.length ≤ 10000) (a : Ac) :
    Calls Tryd.prog 34 #[.pointer (some ⟨p, 0, none⟩), acV a] w (PlP p w (rs ++ [⟨a.key, is, val⟩]) is val put) := by
  obtain ⟨kind, key, value, num⟩ := a
  unfold acV
  simp only
  have hp := h.lt
  have oa := (Ok.refl w).alloc (.cells #[.int .u8 kind, .string key, .string value, .int .i64 num] 52)
  have HA := Lib.hid oa
  have HBP := Lib.hid (Below.mono oa (Nat.le_of_lt hp))
  have HQ := Lib.hid (blk_new (w := w) (o := .cells #[.int .u8 kind, .string key, .string value, .int .i64 num] 52) rfl)
  have h1 := h.ok oa
  have HP := Lib.hid (fun V (k : Ok (w.alloc (.cells #[.int .u8 kind, .string key, .string value, .int .i64 num] 52)) V) => tell_w p V A n c rs is val put (h1.ok k) hl ⟨key, is, val⟩)
  have C1 := h1.c1
  have C2 := h1.c2
  clear oa h h1
  go_enter Tryd.func34, Tryd.ntmps34
  go_wp2_with fail
  generalize w.heap.size = q at *
  generalize w.alloc (.cells #[.int .u8 kind, .string key, .string value, .int .i64 num] 52) = V at *
  have K1 : V.cell? ⟨q, 1, none⟩ = some (.string key) := by rw [cell_of_heap HQ.out]; rfl
  have hqp : q ≠ p := by omega
  go_region_held3 (fun w' => w'.cell? ⟨q, 1, none⟩ = some (.string key) ∧ w'.cell? ⟨p, 1, none⟩ = some (.bool is) ∧ w'.cell? ⟨p, 2, none⟩ = some (.string val))
    ((first | exact hs2 | (refine ⟨?_, ?_, ?_⟩ <;> (refine Ok.cell ?_ (by assumption); (repeat (first | (with_reducible exact Ok.refl _) | (with_reducible assumption) | (with_reducible refine Ok.drew ?_) | (with_reducible refine Ok.alloc ?_ _) | ((with_reducible apply Ok.trans); rotate_left; (with_reducible assumption)))); done))))
    ((go_at_call 47; (with_reducible refine (HP.out _ ?_).mono ?_); (focus ((repeat (first | (with_reducible exact Ok.refl _) | (with_reducible assumption) | (with_reducible refine Ok.drew ?_) | (with_reducible refine Ok.alloc ?_ _) | ((with_reducible apply Ok.trans); rotate_left; (with_reducible assumption)))); done)); rintro e w2 ⟨rfl, hpl, hb, hkq⟩; have hs2 := (show w2.cell? ⟨q, 1, none⟩ = some (.string key) ∧ w2.cell? ⟨p, 1, none⟩ = some (.bool is) ∧ w2.cell? ⟨p, 2, none⟩ = some (.string val) from ⟨(cell_of_heap (Kq.cell (Kq.ok (Ok.drew (Ok.refl V)) hkq) hqp (by decide) HQ.out) 1).trans rfl, hpl.choose_spec.choose_spec.choose_spec.c1, hpl.choose_spec.choose_spec.choose_spec.c2⟩)))
  go_wp2_with fail
  go_end0
  exact ⟨rfl, hpl, Below.trans (Below.drew HBP.out) hb, Kq.ok (Ok.drew HA.out) hkq⟩
set_option maxRecDepth 100000 in
set_option maxHeartbeats 2000000 in
theorem doAdd_w (p : Nat) (w : World) (ht : Tq p w) (A : Option Addr) (n c : Nat) (rs : List Rd) (is : Bool) (val : Str) (put : Bool) (h : Pl p w A n c rs is val put) (hl : rs.length ≤ 10000) (hv : val.size ≤ 1000000) (a : Ac) :
    Calls Tryd.prog 36 #[.pointer (some ⟨p, 0, none⟩), acV a] w (PlP p w (rs ++ [⟨a.key, is, val⟩]) true (sumV val a.num) true) := by
  obtain ⟨kind, key, value, num⟩ := a
  unfold acV
  simp only
  have hp := h.lt
  have oa := (Ok.refl w).alloc (.cells #[.int .u8 kind, .string key, .string value, .int .i64 num] 52)
  have HA := Lib.hid oa
  have HBP := Lib.hid (Below.mono oa (Nat.le_of_lt hp))
  have HQ := Lib.hid (blk_new (w := w) (o := .cells #[.int .u8 kind, .string key, .string value, .int .i64 num] 52) rfl)
  have HT := Lib.hid ht
  have h1 := h.ok oa
  have HP := Lib.hid (fun V (k : Ok (w.alloc (.cells #[.int .u8 kind, .string key, .string value, .int .i64 num] 52)) V) => tell_w p V A n c rs is val put (h1.ok k) hl ⟨key, is, val⟩)
  have C1 := h1.c1
  have C2 := h1.c2
  obtain ⟨x0, x1⟩ := numV_in val.data.toList
  obtain ⟨y0, y1⟩ := boundM_in num 2147483648 (by decide)
  have HNU := Lib.hid (fun V => number_w val V hv)
  have HBO := Lib.hid (fun V => bound_w num 2147483648 (by decide) V)
  have HSV : Hid (sumV val num = valueT (numV val.data.toList + boundM num 2147483648)) := Lib.hid rfl
  clear oa h h1 ht
  generalize sumV val num = sv at *
  generalize numV val.data.toList = x at *
  generalize boundM num 2147483648 = y at *
  have HWR : Hid (IntKind.i64.wrap (x + y) = x + y) := Lib.hid (by rw [IntKind.wrap_i64]; omega)
  go_enter Tryd.func36, Tryd.ntmps36
  go_wp2_with fail
  generalize w.heap.size = q at *
  generalize w.alloc (.cells #[.int .u8 kind, .string key, .string value, .int .i64 num] 52) = V at *
  have K1 : V.cell? ⟨q, 1, none⟩ = some (.string key) := by rw [cell_of_heap HQ.out]; rfl
  have hqp : q ≠ p := by omega
  go_region_held3 (fun w' => w'.cell? ⟨q, 1, none⟩ = some (.string key) ∧ w'.cell? ⟨p, 1, none⟩ = some (.bool is) ∧ w'.cell? ⟨p, 2, none⟩ = some (.string val))
    ((first | exact hs2 | (refine ⟨?_, ?_, ?_⟩ <;> (refine Ok.cell ?_ (by assumption); (repeat (first | (with_reducible exact Ok.refl _) | (with_reducible assumption) | (with_reducible refine Ok.drew ?_) | (with_reducible refine Ok.alloc ?_ _) | ((with_reducible apply Ok.trans); rotate_left; (with_reducible assumption)))); done))))
    ((go_at_call 47; (with_reducible refine (HP.out _ ?_).mono ?_); (focus ((repeat (first | (with_reducible exact Ok.refl _) | (with_reducible assumption) | (with_reducible refine Ok.drew ?_) | (with_reducible refine Ok.alloc ?_ _) | ((with_reducible apply Ok.trans); rotate_left; (with_reducible assumption)))); done)); rintro e w2 ⟨rfl, hpl, hb, hkq⟩; have hs2 := (show w2.cell? ⟨q, 1, none⟩ = some (.string key) ∧ w2.cell? ⟨p, 1, none⟩ = some (.bool is) ∧ w2.cell? ⟨p, 2, none⟩ = some (.string val) from ⟨(cell_of_heap (Kq.cell (Kq.ok (Ok.drew (Ok.refl V)) hkq) hqp (by decide) HQ.out) 1).trans rfl, hpl.choose_spec.choose_spec.choose_spec.c1, hpl.choose_spec.choose_spec.choose_spec.c2⟩)))
  clear hs2 C1 C2 K1
  have HB2 := Lib.hid (Below.trans (Below.drew HBP.out) hb)
  have HK2 := Lib.hid (Kq.ok (Ok.drew HA.out) hkq)
  have hq2 := Kq.cell (Kq.ok (Ok.drew (Ok.refl V)) hkq) hqp (by decide) HQ.out
  have HT2 : Hid (Tb w2) := Lib.hid (HT.out w2 HB2.out)
  have hpw2 : Hid (p ≤ w2.heap.size) := Lib.hid (by obtain ⟨A2, n2, c2, h⟩ := hpl; exact Nat.le_of_lt h.lt)
  have hws : Hid (w.heap.size ≤ w2.heap.size) := Lib.hid HB2.out.size
  obtain ⟨A2, n2, c2, hpl⟩ := hpl
  have HPL := Lib.hid hpl
  have D2 := hpl.c2
  have K3 : w2.cell? ⟨q, 3, none⟩ = some (.int .i64 num) := by rw [cell_of_heap hq2]; rfl
  clear hpl hb hkq hq2
  go_wp2_with fail
  go_region_with (first
      | (go_at_call 27; (with_reducible refine (HNU.out _).mono ?_); rintro e wa ⟨rfl, rfl⟩)
      | (go_at_call 45; (with_reducible refine (HBO.out _).mono ?_); rintro e wb ⟨rfl, rfl⟩)
      | (go_at_call 30; (with_reducible refine (value_w _ _ (HT2.out.ok ?_)).mono ?_); (focus ((repeat (first | (with_reducible exact Ok.refl _) | (with_reducible assumption) | (with_reducible refine Ok.drew ?_) | (with_reducible refine Ok.alloc ?_ _) | ((with_reducible apply Ok.trans); rotate_left; (with_reducible assumption)))); done)); rintro e w3 ⟨rfl, o3⟩)
      | (go_at_call 48; (with_reducible refine (stand_w p _ A2 n2 c2 _ _ _ _ (HPL.out.ok ?_) _).mono ?_); (focus ((repeat (first | (with_reducible exact Ok.refl _) | (with_reducible assumption) | (with_reducible refine Ok.drew ?_) | (with_reducible refine Ok.alloc ?_ _) | ((with_reducible apply Ok.trans); rotate_left; (with_reducible assumption)))); done)); rintro e w4 ⟨rfl, hpl4, hb4, hkq4⟩))
  all_goals
    have ok : Ok w2 w3 := by (repeat (first | (with_reducible exact Ok.refl _) | (with_reducible assumption) | (with_reducible refine Ok.drew ?_) | (with_reducible refine Ok.alloc ?_ _) | ((with_reducible apply Ok.trans); rotate_left; (with_reducible assumption))))
    go_end0
    rw [HWR.out, ← HSV.out] at hpl4
    exact ⟨rfl, hpl4, Below.trans HB2.out (Below.trans (Below.mono ok hpw2.out) hb4), Kq.trans HK2.out hws.out (Kq.ok ok hkq4)⟩
end Go.Proofs.YthbbbjkgfdnkhaaDoor
