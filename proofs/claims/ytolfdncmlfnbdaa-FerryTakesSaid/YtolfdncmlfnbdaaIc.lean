/- Copies: of configurations, entries, bases, letters. -/
import Derived.Test.YtolfdncmlfnbdaaIb
namespace Go.Proofs.Ytolfdncmlfnbdaa
open Go.RowKit

/-- From block B on, what was there is as it was. -/
def Hi (B : Nat) (w w' : World) : Prop := w.heap.size ≤ w'.heap.size ∧ ∀ b, B ≤ b → b < w.heap.size → w'.heap[b]? = w.heap[b]?
theorem Hi.refl (B : Nat) (w : World) : Hi B w w := ⟨Nat.le_refl _, fun _ _ _ => rfl⟩
theorem Hi.ok {B : Nat} {w w' : World} (k : Ok w w') : Hi B w w' := ⟨k.size, fun b _ h => k.block b h⟩
theorem Hi.trans {B : Nat} {a b c : World} (h : Hi B a b) (k : Hi B b c) : Hi B a c := ⟨Nat.le_trans h.1 k.1, fun j h1 h2 => (k.2 j h1 (Nat.lt_of_lt_of_le h2 h.1)).trans (h.2 j h1 h2)⟩
theorem Hi.up {B B' : Nat} {w w' : World} (h : Hi B w w') (k : B ≤ B') : Hi B' w w' := ⟨h.1, fun b h1 h2 => h.2 b (Nat.le_trans k h1) h2⟩
theorem Hi.set' {B p : Nat} {w0 w : World} (h : Hi B w0 w) (hp : p < B) (o : Nat) (x : Value) : Hi B w0 (w.setCell ⟨p, o, none⟩ x) :=
  ⟨by rw [World.size_setCell]; exact h.1, fun b h1 h2 => (heap_setCell_other w ⟨p, o, none⟩ b x (by show b ≠ p; omega)).trans (h.2 b h1 h2)⟩
theorem set_blk {w : World} {g ty : Nat} {cs : Array Value} {fz : Nat × Nat} (h : w.heap[g]? = some (.cells cs ty fz)) (k : Nat) (v : Value) : (w.setCell ⟨g, k, none⟩ v).heap[g]? = some (.cells (cs.setIfInBounds k v) ty fz) := by
  simp [World.setCell, Array.getElem?_modify, h]
theorem set_far {w : World} {g p : Nat} {o : Obj} (h : w.heap[p]? = some o) (hp : g ≠ p) (k : Nat) (v : Value) : (w.setCell ⟨g, k, none⟩ v).heap[p]? = some o :=
  (heap_setCell_other w ⟨g, k, none⟩ p v (fun e => hp e.symm)).trans h
theorem own_hi {w w' : World} {B e sz n : Nat} {v : Value} {xs : List Value} (h : w.ownsRow B e sz v n xs) (k : Hi B w w') : w'.ownsRow B e sz v n xs := by
  refine ⟨h.1, ?_⟩
  rcases h.2 with q | ⟨g, cap, cur, e1, e2, e3, e4⟩
  · exact .inl q
  · exact .inr ⟨g, cap, cur, e1, e2, by rw [k.2 g e2 (Array.getElem?_eq_some_iff.1 e3).1]; exact e3, e4⟩
theorem own_mono {w : World} {B B' e sz n : Nat} {v : Value} {xs : List Value} (h : w.ownsRow B e sz v n xs) (k : B' ≤ B) : w.ownsRow B' e sz v n xs := by
  refine ⟨h.1, ?_⟩
  rcases h.2 with q | ⟨g, cap, cur, e1, e2, r⟩
  · exact .inl q
  · exact .inr ⟨g, cap, cur, e1, Nat.le_trans k e2, r⟩
def OwnM (w : World) (B : Nat) (v : Value) (xs : List Int) : Prop := OwnZ w B v xs ∧ xs.length ≤ 100000
def Fine (c : Cfg) : Prop := c.vs.length ≤ 100000 ∧ c.os.length ≤ 100000 ∧ c.ls.length ≤ 100000 ∧ c.ws.length ≤ 100000
def CopyMP (W : World) (xs : List Int) (e : Ending) (w' : World) : Prop := ∃ A cc, e = .returned (.slice A xs.length cc) ∧ OwnM w' W.heap.size (.slice A xs.length cc) xs ∧ Ok W w'
set_option maxHeartbeats 1000000 in
theorem copyIntsM_w (v : Value) (xs : List Int) (W : World) (h : InI W v xs) (hl : xs.length ≤ 100000) :
    Calls Try.prog 107 #[v] W (CopyMP W xs) := by
  obtain ⟨A, c, rfl, hm⟩ := h.form
  have HX := Lib.hid h
  have HO := Lib.hid (OwnZ.nil W W.heap.size)
  have HFIN : Hid (∀ A cc e w', e = .returned (.slice A xs.length cc) → OwnZ w' W.heap.size (.slice A xs.length cc) xs → Ok W w' → CopyMP W xs e w') := Lib.hid fun A cc e w' he ho hk => ⟨A, cc, he, ⟨ho, hl⟩, hk⟩
  clear h
  generalize hL : xs.length = L at *
  have HL := Lib.hid hL
  clear hL
  go_enter Try.func107, Try.ntmps107
  go_wp2_with (at_builtin; go_must (refine wpList_appZ rfl (.tmp 4) (.tmp 5) rfl W.heap.size (.slice none 0 0) [] xs (.slice A L c) rfl rfl HO.out HX.out (by rw [HL.out]; simp; omega) (Nat.le_refl _) ?_; intro A' c' w2 hown2 hbel2; simp only [List.nil_append, List.length_nil, Nat.zero_add] at hown2 ⊢; have HOWN2 := Lib.hid hown2; have HBEL2 := Lib.hid hbel2; clear hown2 hbel2; rw [HL.out]))
  go_ret
  exact HFIN.out _ _ _ _ rfl (by have := HOWN2.out; rwa [HL.out] at this) HBEL2.out
theorem OwnM.hi {w w' : World} {B : Nat} {v : Value} {xs : List Int} (h : OwnM w B v xs) (k : Hi B w w') : OwnM w' B v xs := ⟨own_hi h.1 k, h.2⟩
theorem OwnM.mono {w : World} {B B' : Nat} {v : Value} {xs : List Int} (h : OwnM w B v xs) (k : B' ≤ B) : OwnM w B' v xs := ⟨own_mono h.1 k, h.2⟩
theorem OwnN.hi {w w' : World} {B : Nat} {v : Value} {xs : List B8} (h : OwnN w B v xs) (k : Hi B w w') : OwnN w' B v xs := own_hi h k
theorem OwnN.mono' {w : World} {B B' : Nat} {v : Value} {xs : List B8} (h : OwnN w B v xs) (k : B' ≤ B) : OwnN w B' v xs := own_mono h k
/-- A configuration whose rows are the call's own. -/
structure CfgN (w : World) (B : Nat) (s : S4) (c : Cfg) : Prop where
  h0 : OwnM w B (.slice s.A0 s.n0 s.c0) c.vs
  h1 : OwnM w B (.slice s.A1 s.n1 s.c1) c.os
  h2 : OwnM w B (.slice s.A2 s.n2 s.c2) c.ls
  h3 : OwnM w B (.slice s.A3 s.n3 s.c3) c.ws
theorem CfgN.hi {w w' : World} {B : Nat} {s : S4} {c : Cfg} (h : CfgN w B s c) (k : Hi B w w') : CfgN w' B s c := ⟨h.h0.hi k, h.h1.hi k, h.h2.hi k, h.h3.hi k⟩
theorem CfgN.mono {w : World} {B B' : Nat} {s : S4} {c : Cfg} (h : CfgN w B s c) (k : B' ≤ B) : CfgN w B' s c := ⟨h.h0.mono k, h.h1.mono k, h.h2.mono k, h.h3.mono k⟩
theorem OwnM.ints' {w : World} {B : Nat} {v : Value} {xs : List Int} (h : OwnM w B v xs) : InI w v xs := h.1.ints (Nat.le_trans h.2 (by decide))
theorem CfgN.cfg {w : World} {B : Nat} {s : S4} {c : Cfg} (h : CfgN w B s c) : CfgIn w s.v c := ⟨_, _, _, _, rfl, h.h0.ints', h.h1.ints', h.h2.ints', h.h3.ints'⟩
theorem CfgIn.parts {w : World} {s : S4} {c : Cfg} (h : CfgIn w s.v c) : InI w (.slice s.A0 s.n0 s.c0) c.vs ∧ InI w (.slice s.A1 s.n1 s.c1) c.os ∧ InI w (.slice s.A2 s.n2 s.c2) c.ls ∧ InI w (.slice s.A3 s.n3 s.c3) c.ws := by
  obtain ⟨a, b, d, e, he, h1, h2, h3, h4⟩ := h
  simp only [S4.v, Value.agg.injEq, Array.mk.injEq, List.cons.injEq, and_true] at he
  obtain ⟨rfl, rfl, rfl, rfl⟩ := he
  exact ⟨h1, h2, h3, h4⟩
def CopyCP (W : World) (c : Cfg) (e : Ending) (w' : World) : Prop := ∃ s : S4, e = .returned s.v ∧ CfgN w' W.heap.size s c ∧ Ok W w'
set_option maxRecDepth 100000 in
set_option maxHeartbeats 8000000 in
theorem copyConfig_w (s : S4) (c : Cfg) (W : World) (h : CfgIn W s.v c) (hs : Fine c) : Calls Try.prog 170 #[s.v] W (CopyCP W c) := by
  have HCI := Lib.hid h.parts
  have HS := Lib.hid hs
  clear h hs
  unfold S4.v
  have HX0 := Lib.hid (blk2 W (.cells #[.slice s.A0 s.n0 s.c0, .slice s.A1 s.n1 s.c1, .slice s.A2 s.n2 s.c2, .slice s.A3 s.n3 s.c3] 71) (.cells #[.slice none 0 0, .slice none 0 0, .slice none 0 0, .slice none 0 0] 71)).1
  have HR0 := Lib.hid (blk2 W (.cells #[.slice s.A0 s.n0 s.c0, .slice s.A1 s.n1 s.c1, .slice s.A2 s.n2 s.c2, .slice s.A3 s.n3 s.c3] 71) (.cells #[.slice none 0 0, .slice none 0 0, .slice none 0 0, .slice none 0 0] 71)).2
  have HO0 : Hid (Ok W ((W.alloc (.cells #[.slice s.A0 s.n0 s.c0, .slice s.A1 s.n1 s.c1, .slice s.A2 s.n2 s.c2, .slice s.A3 s.n3 s.c3] 71)).alloc (.cells #[.slice none 0 0, .slice none 0 0, .slice none 0 0, .slice none 0 0] 71))) := Lib.hid (((Ok.refl W).alloc _).alloc _)
  have HZ0 : Hid (W.heap.size + 2 ≤ ((W.alloc (.cells #[.slice s.A0 s.n0 s.c0, .slice s.A1 s.n1 s.c1, .slice s.A2 s.n2 s.c2, .slice s.A3 s.n3 s.c3] 71)).alloc (.cells #[.slice none 0 0, .slice none 0 0, .slice none 0 0, .slice none 0 0] 71)).heap.size) := Lib.hid (by simp [World.size_alloc])
  go_enter Try.func170, Try.ntmps170
  go_wp2_with fail
  generalize ((W.alloc (.cells #[.slice s.A0 s.n0 s.c0, .slice s.A1 s.n1 s.c1, .slice s.A2 s.n2 s.c2, .slice s.A3 s.n3 s.c3] 71)).alloc (.cells #[.slice none 0 0, .slice none 0 0, .slice none 0 0, .slice none 0 0] 71)) = W0 at *
  obtain ⟨g, hg⟩ : ∃ g, W.heap.size = g := ⟨_, rfl⟩
  have HG := Lib.hid hg
  rw [hg] at HX0 HR0 HZ0 ⊢
  clear hg
  refine (copyIntsM_w (.slice s.A0 s.n0 s.c0) c.vs W0 (HO0.out.ints HCI.out.1) HS.out.1).mono ?_
  rintro _ w1 ⟨E0, k0, rfl, hown, hok⟩
  have HX1 : Hid ((w1.setCell ⟨g, 0, none⟩ (.slice E0 c.vs.length k0)).heap[g]? = some (.cells #[.slice E0 c.vs.length k0, .slice s.A1 s.n1 s.c1, .slice s.A2 s.n2 s.c2, .slice s.A3 s.n3 s.c3] 71 (0, 0))) := Lib.hid (set_blk (blk_ok hok HX0.out) 0 (.slice E0 c.vs.length k0))
  have HR1 : Hid ((w1.setCell ⟨g, 0, none⟩ (.slice E0 c.vs.length k0)).heap[g + 1]? = some (.cells #[.slice none 0 0, .slice none 0 0, .slice none 0 0, .slice none 0 0] 71 (0, 0))) := Lib.hid (set_far (blk_ok hok HR0.out) (by omega : g ≠ g + 1) 0 (.slice E0 c.vs.length k0))
  have HO1 : Hid (Ok W (w1.setCell ⟨g, 0, none⟩ (.slice E0 c.vs.length k0))) := Lib.hid (Below.setCell (HO0.out.trans hok) (Nat.le_of_eq HG.out) _)
  have HI1 : Hid (Hi (g + 2) w1 (w1.setCell ⟨g, 0, none⟩ (.slice E0 c.vs.length k0))) := Lib.hid (Hi.set' (Hi.refl _ _) (by omega) _ _)
  have HZ1 : Hid (g + 2 ≤ (w1.setCell ⟨g, 0, none⟩ (.slice E0 c.vs.length k0)).heap.size) := Lib.hid (Nat.le_trans (Nat.le_trans HZ0.out hok.size) HI1.out.1)
  have HP0_1 := Lib.hid ((hown.mono HZ0.out).hi HI1.out)
  have hx := blk_ok hok HX0.out
  have c0 : w1.cell? ⟨g, 0, none⟩ = some (.slice s.A0 s.n0 s.c0) := (cell_of_heap hx 0).trans rfl
  have c1 : w1.cell? ⟨g, 1, none⟩ = some (.slice s.A1 s.n1 s.c1) := (cell_of_heap hx 1).trans rfl
  have c2 : w1.cell? ⟨g, 2, none⟩ = some (.slice s.A2 s.n2 s.c2) := (cell_of_heap hx 2).trans rfl
  have c3 : w1.cell? ⟨g, 3, none⟩ = some (.slice s.A3 s.n3 s.c3) := (cell_of_heap hx 3).trans rfl
  have f0 : w1.frozen? ⟨g, 0, none⟩ = false := frz_raw hx 0
  clear hx hown hok
  go_wp2_with fail
  clear c0 c1 c2 c3 f0 HX0 HR0 HO0 HZ0 HI1
  generalize (w1.setCell ⟨g, 0, none⟩ (.slice E0 c.vs.length k0)) = W1 at *
  refine (copyIntsM_w (.slice s.A1 s.n1 s.c1) c.os W1 (HO1.out.ints HCI.out.2.1) HS.out.2.1).mono ?_
  rintro _ w2 ⟨E1, k1, rfl, hown, hok⟩
  have HX2 : Hid ((w2.setCell ⟨g, 1, none⟩ (.slice E1 c.os.length k1)).heap[g]? = some (.cells #[.slice E0 c.vs.length k0, .slice E1 c.os.length k1, .slice s.A2 s.n2 s.c2, .slice s.A3 s.n3 s.c3] 71 (0, 0))) := Lib.hid (set_blk (blk_ok hok HX1.out) 1 (.slice E1 c.os.length k1))
  have HR2 : Hid ((w2.setCell ⟨g, 1, none⟩ (.slice E1 c.os.length k1)).heap[g + 1]? = some (.cells #[.slice none 0 0, .slice none 0 0, .slice none 0 0, .slice none 0 0] 71 (0, 0))) := Lib.hid (set_far (blk_ok hok HR1.out) (by omega : g ≠ g + 1) 1 (.slice E1 c.os.length k1))
  have HO2 : Hid (Ok W (w2.setCell ⟨g, 1, none⟩ (.slice E1 c.os.length k1))) := Lib.hid (Below.setCell (HO1.out.trans hok) (Nat.le_of_eq HG.out) _)
  have HI2 : Hid (Hi (g + 2) w2 (w2.setCell ⟨g, 1, none⟩ (.slice E1 c.os.length k1))) := Lib.hid (Hi.set' (Hi.refl _ _) (by omega) _ _)
  have HZ2 : Hid (g + 2 ≤ (w2.setCell ⟨g, 1, none⟩ (.slice E1 c.os.length k1)).heap.size) := Lib.hid (Nat.le_trans (Nat.le_trans HZ1.out hok.size) HI2.out.1)
  have HP0_2 := Lib.hid ((HP0_1.out.hi (Hi.ok hok)).hi HI2.out)
  have HP1_2 := Lib.hid ((hown.mono HZ1.out).hi HI2.out)
  have hx := blk_ok hok HX1.out
  have c0 : w2.cell? ⟨g, 0, none⟩ = some (.slice E0 c.vs.length k0) := (cell_of_heap hx 0).trans rfl
  have c1 : w2.cell? ⟨g, 1, none⟩ = some (.slice s.A1 s.n1 s.c1) := (cell_of_heap hx 1).trans rfl
  have c2 : w2.cell? ⟨g, 2, none⟩ = some (.slice s.A2 s.n2 s.c2) := (cell_of_heap hx 2).trans rfl
  have c3 : w2.cell? ⟨g, 3, none⟩ = some (.slice s.A3 s.n3 s.c3) := (cell_of_heap hx 3).trans rfl
  have f1 : w2.frozen? ⟨g, 1, none⟩ = false := frz_raw hx 1
  clear hx hown hok
  go_wp2_with fail
  clear c0 c1 c2 c3 f1 HX1 HR1 HO1 HZ1 HI2 HP0_1
  generalize (w2.setCell ⟨g, 1, none⟩ (.slice E1 c.os.length k1)) = W2 at *
  refine (copyIntsM_w (.slice s.A2 s.n2 s.c2) c.ls W2 (HO2.out.ints HCI.out.2.2.1) HS.out.2.2.1).mono ?_
  rintro _ w3 ⟨E2, k2, rfl, hown, hok⟩
  have HX3 : Hid ((w3.setCell ⟨g, 2, none⟩ (.slice E2 c.ls.length k2)).heap[g]? = some (.cells #[.slice E0 c.vs.length k0, .slice E1 c.os.length k1, .slice E2 c.ls.length k2, .slice s.A3 s.n3 s.c3] 71 (0, 0))) := Lib.hid (set_blk (blk_ok hok HX2.out) 2 (.slice E2 c.ls.length k2))
  have HR3 : Hid ((w3.setCell ⟨g, 2, none⟩ (.slice E2 c.ls.length k2)).heap[g + 1]? = some (.cells #[.slice none 0 0, .slice none 0 0, .slice none 0 0, .slice none 0 0] 71 (0, 0))) := Lib.hid (set_far (blk_ok hok HR2.out) (by omega : g ≠ g + 1) 2 (.slice E2 c.ls.length k2))
  have HO3 : Hid (Ok W (w3.setCell ⟨g, 2, none⟩ (.slice E2 c.ls.length k2))) := Lib.hid (Below.setCell (HO2.out.trans hok) (Nat.le_of_eq HG.out) _)
  have HI3 : Hid (Hi (g + 2) w3 (w3.setCell ⟨g, 2, none⟩ (.slice E2 c.ls.length k2))) := Lib.hid (Hi.set' (Hi.refl _ _) (by omega) _ _)
  have HZ3 : Hid (g + 2 ≤ (w3.setCell ⟨g, 2, none⟩ (.slice E2 c.ls.length k2)).heap.size) := Lib.hid (Nat.le_trans (Nat.le_trans HZ2.out hok.size) HI3.out.1)
  have HP0_3 := Lib.hid ((HP0_2.out.hi (Hi.ok hok)).hi HI3.out)
  have HP1_3 := Lib.hid ((HP1_2.out.hi (Hi.ok hok)).hi HI3.out)
  have HP2_3 := Lib.hid ((hown.mono HZ2.out).hi HI3.out)
  have hx := blk_ok hok HX2.out
  have c0 : w3.cell? ⟨g, 0, none⟩ = some (.slice E0 c.vs.length k0) := (cell_of_heap hx 0).trans rfl
  have c1 : w3.cell? ⟨g, 1, none⟩ = some (.slice E1 c.os.length k1) := (cell_of_heap hx 1).trans rfl
  have c2 : w3.cell? ⟨g, 2, none⟩ = some (.slice s.A2 s.n2 s.c2) := (cell_of_heap hx 2).trans rfl
  have c3 : w3.cell? ⟨g, 3, none⟩ = some (.slice s.A3 s.n3 s.c3) := (cell_of_heap hx 3).trans rfl
  have f2 : w3.frozen? ⟨g, 2, none⟩ = false := frz_raw hx 2
  clear hx hown hok
  go_wp2_with fail
  clear c0 c1 c2 c3 f2 HX2 HR2 HO2 HZ2 HI3 HP0_2 HP1_2
  generalize (w3.setCell ⟨g, 2, none⟩ (.slice E2 c.ls.length k2)) = W3 at *
  refine (copyIntsM_w (.slice s.A3 s.n3 s.c3) c.ws W3 (HO3.out.ints HCI.out.2.2.2) HS.out.2.2.2).mono ?_
  rintro _ w4 ⟨E3, k3, rfl, hown, hok⟩
  have HX4 : Hid ((w4.setCell ⟨g, 3, none⟩ (.slice E3 c.ws.length k3)).heap[g]? = some (.cells #[.slice E0 c.vs.length k0, .slice E1 c.os.length k1, .slice E2 c.ls.length k2, .slice E3 c.ws.length k3] 71 (0, 0))) := Lib.hid (set_blk (blk_ok hok HX3.out) 3 (.slice E3 c.ws.length k3))
  have HR4 : Hid ((w4.setCell ⟨g, 3, none⟩ (.slice E3 c.ws.length k3)).heap[g + 1]? = some (.cells #[.slice none 0 0, .slice none 0 0, .slice none 0 0, .slice none 0 0] 71 (0, 0))) := Lib.hid (set_far (blk_ok hok HR3.out) (by omega : g ≠ g + 1) 3 (.slice E3 c.ws.length k3))
  have HO4 : Hid (Ok W (w4.setCell ⟨g, 3, none⟩ (.slice E3 c.ws.length k3))) := Lib.hid (Below.setCell (HO3.out.trans hok) (Nat.le_of_eq HG.out) _)
  have HI4 : Hid (Hi (g + 2) w4 (w4.setCell ⟨g, 3, none⟩ (.slice E3 c.ws.length k3))) := Lib.hid (Hi.set' (Hi.refl _ _) (by omega) _ _)
  have HZ4 : Hid (g + 2 ≤ (w4.setCell ⟨g, 3, none⟩ (.slice E3 c.ws.length k3)).heap.size) := Lib.hid (Nat.le_trans (Nat.le_trans HZ3.out hok.size) HI4.out.1)
  have HP0_4 := Lib.hid ((HP0_3.out.hi (Hi.ok hok)).hi HI4.out)
  have HP1_4 := Lib.hid ((HP1_3.out.hi (Hi.ok hok)).hi HI4.out)
  have HP2_4 := Lib.hid ((HP2_3.out.hi (Hi.ok hok)).hi HI4.out)
  have HP3_4 := Lib.hid ((hown.mono HZ3.out).hi HI4.out)
  have hx := blk_ok hok HX3.out
  have c0 : w4.cell? ⟨g, 0, none⟩ = some (.slice E0 c.vs.length k0) := (cell_of_heap hx 0).trans rfl
  have c1 : w4.cell? ⟨g, 1, none⟩ = some (.slice E1 c.os.length k1) := (cell_of_heap hx 1).trans rfl
  have c2 : w4.cell? ⟨g, 2, none⟩ = some (.slice E2 c.ls.length k2) := (cell_of_heap hx 2).trans rfl
  have c3 : w4.cell? ⟨g, 3, none⟩ = some (.slice s.A3 s.n3 s.c3) := (cell_of_heap hx 3).trans rfl
  have f3 : w4.frozen? ⟨g, 3, none⟩ = false := frz_raw hx 3
  clear hx hown hok
  go_upto_region 5 with fail
  clear c0 c1 c2 c3 f3 HX3 HR3 HO3 HZ3 HI4 HP0_3 HP1_3 HP2_3
  generalize (w4.setCell ⟨g, 3, none⟩ (.slice E3 c.ws.length k3)) = W4 at *
  have hx := HX4.out
  have hy := HR4.out
  have c0 : W4.cell? ⟨g, 0, none⟩ = some (.slice E0 c.vs.length k0) := (cell_of_heap hx 0).trans rfl
  have c1 : W4.cell? ⟨g, 1, none⟩ = some (.slice E1 c.os.length k1) := (cell_of_heap hx 1).trans rfl
  have c2 : W4.cell? ⟨g, 2, none⟩ = some (.slice E2 c.ls.length k2) := (cell_of_heap hx 2).trans rfl
  have c3 : W4.cell? ⟨g, 3, none⟩ = some (.slice E3 c.ws.length k3) := (cell_of_heap hx 3).trans rfl
  have b0 : W4.cell? ⟨(g + 1), 0, none⟩ = some (.slice none 0 0) := (cell_of_heap hy 0).trans rfl
  have b1 : W4.cell? ⟨(g + 1), 1, none⟩ = some (.slice none 0 0) := (cell_of_heap hy 1).trans rfl
  have b2 : W4.cell? ⟨(g + 1), 2, none⟩ = some (.slice none 0 0) := (cell_of_heap hy 2).trans rfl
  have b3 : W4.cell? ⟨(g + 1), 3, none⟩ = some (.slice none 0 0) := (cell_of_heap hy 3).trans rfl
  have h0 : W4.frozen? ⟨g + 1, 0, none⟩ = false := frz_raw hy 0
  have h1 : W4.frozen? ⟨g + 1, 1, none⟩ = false := frz_raw hy 1
  have h2 : W4.frozen? ⟨g + 1, 2, none⟩ = false := frz_raw hy 2
  have h3 : W4.frozen? ⟨g + 1, 3, none⟩ = false := frz_raw hy 3
  clear hx hy
  go_wp2_with fail
  refine bodyPost_ret (v := .agg #[.slice E0 c.vs.length k0, .slice E1 c.os.length k1, .slice E2 c.ls.length k2, .slice E3 c.ws.length k3]) (by simp [results, Try.results170, go_sem, b0, b1, b2, b3]; try rfl) rfl ?_
  clear c0 b0 h0 c1 b1 h1 c2 b2 h2 c3 b3 h3
  have hg2 : W.heap.size ≤ g + 1 := by have := HG.out; omega
  have hg3 : W.heap.size ≤ g + 2 := by have := HG.out; omega
  refine ⟨⟨E0, c.vs.length, k0, E1, c.os.length, k1, E2, c.ls.length, k2, E3, c.ws.length, k3⟩, rfl, ?_, ?_⟩
  · refine CfgN.mono (B := g + 2) ?_ hg3
    refine CfgN.hi (w := W4) ⟨HP0_4.out, HP1_4.out, HP2_4.out, HP3_4.out⟩ ?_
    (repeat (refine Hi.set' ?_ (by omega) _ _))
    exact Hi.refl _ _
  · show Below W.heap.size W _
    repeat refine Below.setCell ?_ hg2 _
    exact HO4.out
structure EnLe (e : En) : Prop where
  cmd : e.cmd.length ≤ 1000000
  cfg : Fine e.cfg
/-- An entry whose rows are the call's own. -/
structure EnN (w : World) (B : Nat) (r : ER) (e : En) : Prop where
  cmd : OwnN w B (.slice r.A r.n r.c) e.cmd
  cfg : CfgN w B r.s e.cfg
theorem EnN.hi {w w' : World} {B : Nat} {r : ER} {e : En} (h : EnN w B r e) (k : Hi B w w') : EnN w' B r e := ⟨h.cmd.hi k, h.cfg.hi k⟩
theorem EnN.mono {w : World} {B B' : Nat} {r : ER} {e : En} (h : EnN w B r e) (k : B' ≤ B) : EnN w B' r e := ⟨own_mono h.cmd k, h.cfg.mono k⟩
theorem EnN.at {w : World} {B : Nat} {r : ER} {e : En} (h : EnN w B r e) (hl : EnLe e) : EnAt w r e := ⟨h.cmd.bytes (Nat.le_trans hl.cmd (by decide)), h.cfg.cfg⟩
def CopyEP (W : World) (e : En) (x : Ending) (w' : World) : Prop := ∃ r : ER, x = .returned (r.val e) ∧ EnN w' W.heap.size r e ∧ Ok W w'
def CopyBP (W : World) (bi bt : Int) (c : Cfg) (x : Ending) (w' : World) : Prop := ∃ s : S4, x = .returned (baseV bi bt s) ∧ CfgN w' W.heap.size s c ∧ Ok W w'
set_option maxRecDepth 100000 in
set_option maxHeartbeats 8000000 in
theorem copyEntry_w (r : ER) (e : En) (W : World) (h : EnAt W r e) (hs : EnLe e) : Calls Try.prog 202 #[r.val e] W (CopyEP W e) := by
  have HCI := Lib.hid h
  have HS := Lib.hid hs
  clear h hs
  unfold ER.val ER.cells
  have HX0 := Lib.hid (blk2 W (.cells #[.int .i64 e.term, .int .u8 e.kind, .slice r.A r.n r.c, .slice r.s.A0 r.s.n0 r.s.c0, .slice r.s.A1 r.s.n1 r.s.c1, .slice r.s.A2 r.s.n2 r.s.c2, .slice r.s.A3 r.s.n3 r.s.c3] 208) (.cells #[.int .i64 0, .int .u8 0, .slice none 0 0, .slice none 0 0, .slice none 0 0, .slice none 0 0, .slice none 0 0] 208)).1
  have HR0 := Lib.hid (blk2 W (.cells #[.int .i64 e.term, .int .u8 e.kind, .slice r.A r.n r.c, .slice r.s.A0 r.s.n0 r.s.c0, .slice r.s.A1 r.s.n1 r.s.c1, .slice r.s.A2 r.s.n2 r.s.c2, .slice r.s.A3 r.s.n3 r.s.c3] 208) (.cells #[.int .i64 0, .int .u8 0, .slice none 0 0, .slice none 0 0, .slice none 0 0, .slice none 0 0, .slice none 0 0] 208)).2
  have HO0 : Hid (Ok W ((W.alloc (.cells #[.int .i64 e.term, .int .u8 e.kind, .slice r.A r.n r.c, .slice r.s.A0 r.s.n0 r.s.c0, .slice r.s.A1 r.s.n1 r.s.c1, .slice r.s.A2 r.s.n2 r.s.c2, .slice r.s.A3 r.s.n3 r.s.c3] 208)).alloc (.cells #[.int .i64 0, .int .u8 0, .slice none 0 0, .slice none 0 0, .slice none 0 0, .slice none 0 0, .slice none 0 0] 208))) := Lib.hid (((Ok.refl W).alloc _).alloc _)
  have HZ0 : Hid (W.heap.size + 2 ≤ ((W.alloc (.cells #[.int .i64 e.term, .int .u8 e.kind, .slice r.A r.n r.c, .slice r.s.A0 r.s.n0 r.s.c0, .slice r.s.A1 r.s.n1 r.s.c1, .slice r.s.A2 r.s.n2 r.s.c2, .slice r.s.A3 r.s.n3 r.s.c3] 208)).alloc (.cells #[.int .i64 0, .int .u8 0, .slice none 0 0, .slice none 0 0, .slice none 0 0, .slice none 0 0, .slice none 0 0] 208)).heap.size) := Lib.hid (by simp [World.size_alloc])
  go_enter Try.func202, Try.ntmps202
  go_wp2_with fail
  generalize ((W.alloc (.cells #[.int .i64 e.term, .int .u8 e.kind, .slice r.A r.n r.c, .slice r.s.A0 r.s.n0 r.s.c0, .slice r.s.A1 r.s.n1 r.s.c1, .slice r.s.A2 r.s.n2 r.s.c2, .slice r.s.A3 r.s.n3 r.s.c3] 208)).alloc (.cells #[.int .i64 0, .int .u8 0, .slice none 0 0, .slice none 0 0, .slice none 0 0, .slice none 0 0, .slice none 0 0] 208)) = W0 at *
  obtain ⟨g, hg⟩ : ∃ g, W.heap.size = g := ⟨_, rfl⟩
  have HG := Lib.hid hg
  rw [hg] at HX0 HR0 HZ0 ⊢
  clear hg
  refine (copyBytes_w W0 (.slice r.A r.n r.c) e.cmd (HO0.out.bytes HCI.out.cmd) (Nat.le_trans HS.out.cmd (by decide))).mono ?_
  rintro _ w1 ⟨E0, k0, rfl, hown, hok⟩
  have HX1 : Hid ((w1.setCell ⟨g, 2, none⟩ (.slice E0 e.cmd.length k0)).heap[g]? = some (.cells #[.int .i64 e.term, .int .u8 e.kind, .slice E0 e.cmd.length k0, .slice r.s.A0 r.s.n0 r.s.c0, .slice r.s.A1 r.s.n1 r.s.c1, .slice r.s.A2 r.s.n2 r.s.c2, .slice r.s.A3 r.s.n3 r.s.c3] 208 (0, 0))) := Lib.hid (set_blk (blk_ok hok HX0.out) 2 (.slice E0 e.cmd.length k0))
  have HR1 : Hid ((w1.setCell ⟨g, 2, none⟩ (.slice E0 e.cmd.length k0)).heap[g + 1]? = some (.cells #[.int .i64 0, .int .u8 0, .slice none 0 0, .slice none 0 0, .slice none 0 0, .slice none 0 0, .slice none 0 0] 208 (0, 0))) := Lib.hid (set_far (blk_ok hok HR0.out) (by omega : g ≠ g + 1) 2 (.slice E0 e.cmd.length k0))
  have HO1 : Hid (Ok W (w1.setCell ⟨g, 2, none⟩ (.slice E0 e.cmd.length k0))) := Lib.hid (Below.setCell (HO0.out.trans hok) (Nat.le_of_eq HG.out) _)
  have HI1 : Hid (Hi (g + 2) w1 (w1.setCell ⟨g, 2, none⟩ (.slice E0 e.cmd.length k0))) := Lib.hid (Hi.set' (Hi.refl _ _) (by omega) _ _)
  have HZ1 : Hid (g + 2 ≤ (w1.setCell ⟨g, 2, none⟩ (.slice E0 e.cmd.length k0)).heap.size) := Lib.hid (Nat.le_trans (Nat.le_trans HZ0.out hok.size) HI1.out.1)
  have HP0_1 := Lib.hid ((hown.mono' HZ0.out).hi HI1.out)
  have hx := blk_ok hok HX0.out
  have c0 : w1.cell? ⟨g, 0, none⟩ = some (.int .i64 e.term) := (cell_of_heap hx 0).trans rfl
  have c1 : w1.cell? ⟨g, 1, none⟩ = some (.int .u8 e.kind) := (cell_of_heap hx 1).trans rfl
  have c2 : w1.cell? ⟨g, 2, none⟩ = some (.slice r.A r.n r.c) := (cell_of_heap hx 2).trans rfl
  have c3 : w1.cell? ⟨g, 3, none⟩ = some (.slice r.s.A0 r.s.n0 r.s.c0) := (cell_of_heap hx 3).trans rfl
  have c4 : w1.cell? ⟨g, 4, none⟩ = some (.slice r.s.A1 r.s.n1 r.s.c1) := (cell_of_heap hx 4).trans rfl
  have c5 : w1.cell? ⟨g, 5, none⟩ = some (.slice r.s.A2 r.s.n2 r.s.c2) := (cell_of_heap hx 5).trans rfl
  have c6 : w1.cell? ⟨g, 6, none⟩ = some (.slice r.s.A3 r.s.n3 r.s.c3) := (cell_of_heap hx 6).trans rfl
  have f2 : w1.frozen? ⟨g, 2, none⟩ = false := frz_raw hx 2
  clear hx hown hok
  go_wp2_with fail
  clear c0 c1 c2 c3 c4 c5 c6 f2 HX0 HR0 HO0 HZ0 HI1
  generalize (w1.setCell ⟨g, 2, none⟩ (.slice E0 e.cmd.length k0)) = W1 at *
  refine (copyConfig_w r.s e.cfg W1 (HO1.out.cfg HCI.out.cfg) HS.out.cfg).mono ?_
  rintro _ w2 ⟨q1, rfl, hown, hok⟩
  unfold S4.v
  have HX2 : Hid (((((w2.setCell ⟨g, 3, none⟩ (.slice q1.A0 q1.n0 q1.c0)).setCell ⟨g, 4, none⟩ (.slice q1.A1 q1.n1 q1.c1)).setCell ⟨g, 5, none⟩ (.slice q1.A2 q1.n2 q1.c2)).setCell ⟨g, 6, none⟩ (.slice q1.A3 q1.n3 q1.c3)).heap[g]? = some (.cells #[.int .i64 e.term, .int .u8 e.kind, .slice E0 e.cmd.length k0, .slice q1.A0 q1.n0 q1.c0, .slice q1.A1 q1.n1 q1.c1, .slice q1.A2 q1.n2 q1.c2, .slice q1.A3 q1.n3 q1.c3] 208 (0, 0))) := Lib.hid (set_blk (set_blk (set_blk (set_blk (blk_ok hok HX1.out) 3 (.slice q1.A0 q1.n0 q1.c0)) 4 (.slice q1.A1 q1.n1 q1.c1)) 5 (.slice q1.A2 q1.n2 q1.c2)) 6 (.slice q1.A3 q1.n3 q1.c3))
  have HR2 : Hid (((((w2.setCell ⟨g, 3, none⟩ (.slice q1.A0 q1.n0 q1.c0)).setCell ⟨g, 4, none⟩ (.slice q1.A1 q1.n1 q1.c1)).setCell ⟨g, 5, none⟩ (.slice q1.A2 q1.n2 q1.c2)).setCell ⟨g, 6, none⟩ (.slice q1.A3 q1.n3 q1.c3)).heap[g + 1]? = some (.cells #[.int .i64 0, .int .u8 0, .slice none 0 0, .slice none 0 0, .slice none 0 0, .slice none 0 0, .slice none 0 0] 208 (0, 0))) := Lib.hid (set_far (set_far (set_far (set_far (blk_ok hok HR1.out) (by omega : g ≠ g + 1) 3 (.slice q1.A0 q1.n0 q1.c0)) (by omega : g ≠ g + 1) 4 (.slice q1.A1 q1.n1 q1.c1)) (by omega : g ≠ g + 1) 5 (.slice q1.A2 q1.n2 q1.c2)) (by omega : g ≠ g + 1) 6 (.slice q1.A3 q1.n3 q1.c3))
  have HO2 : Hid (Ok W ((((w2.setCell ⟨g, 3, none⟩ (.slice q1.A0 q1.n0 q1.c0)).setCell ⟨g, 4, none⟩ (.slice q1.A1 q1.n1 q1.c1)).setCell ⟨g, 5, none⟩ (.slice q1.A2 q1.n2 q1.c2)).setCell ⟨g, 6, none⟩ (.slice q1.A3 q1.n3 q1.c3))) := Lib.hid (Below.setCell (Below.setCell (Below.setCell (Below.setCell (HO1.out.trans hok) (Nat.le_of_eq HG.out) _) (Nat.le_of_eq HG.out) _) (Nat.le_of_eq HG.out) _) (Nat.le_of_eq HG.out) _)
  have HI2 : Hid (Hi (g + 2) w2 ((((w2.setCell ⟨g, 3, none⟩ (.slice q1.A0 q1.n0 q1.c0)).setCell ⟨g, 4, none⟩ (.slice q1.A1 q1.n1 q1.c1)).setCell ⟨g, 5, none⟩ (.slice q1.A2 q1.n2 q1.c2)).setCell ⟨g, 6, none⟩ (.slice q1.A3 q1.n3 q1.c3))) := Lib.hid (Hi.set' (Hi.set' (Hi.set' (Hi.set' (Hi.refl _ _) (by omega) _ _) (by omega) _ _) (by omega) _ _) (by omega) _ _)
  have HZ2 : Hid (g + 2 ≤ ((((w2.setCell ⟨g, 3, none⟩ (.slice q1.A0 q1.n0 q1.c0)).setCell ⟨g, 4, none⟩ (.slice q1.A1 q1.n1 q1.c1)).setCell ⟨g, 5, none⟩ (.slice q1.A2 q1.n2 q1.c2)).setCell ⟨g, 6, none⟩ (.slice q1.A3 q1.n3 q1.c3)).heap.size) := Lib.hid (Nat.le_trans (Nat.le_trans HZ1.out hok.size) HI2.out.1)
  have HP0_2 := Lib.hid ((HP0_1.out.hi (Hi.ok hok)).hi HI2.out)
  have HP1_2 := Lib.hid ((hown.mono HZ1.out).hi HI2.out)
  have hx := blk_ok hok HX1.out
  have c0 : w2.cell? ⟨g, 0, none⟩ = some (.int .i64 e.term) := (cell_of_heap hx 0).trans rfl
  have c1 : w2.cell? ⟨g, 1, none⟩ = some (.int .u8 e.kind) := (cell_of_heap hx 1).trans rfl
  have c2 : w2.cell? ⟨g, 2, none⟩ = some (.slice E0 e.cmd.length k0) := (cell_of_heap hx 2).trans rfl
  have c3 : w2.cell? ⟨g, 3, none⟩ = some (.slice r.s.A0 r.s.n0 r.s.c0) := (cell_of_heap hx 3).trans rfl
  have c4 : w2.cell? ⟨g, 4, none⟩ = some (.slice r.s.A1 r.s.n1 r.s.c1) := (cell_of_heap hx 4).trans rfl
  have c5 : w2.cell? ⟨g, 5, none⟩ = some (.slice r.s.A2 r.s.n2 r.s.c2) := (cell_of_heap hx 5).trans rfl
  have c6 : w2.cell? ⟨g, 6, none⟩ = some (.slice r.s.A3 r.s.n3 r.s.c3) := (cell_of_heap hx 6).trans rfl
  have f3 : w2.frozen? ⟨g, 3, none⟩ = false := frz_raw hx 3
  have f4 : w2.frozen? ⟨g, 4, none⟩ = false := frz_raw hx 4
  have f5 : w2.frozen? ⟨g, 5, none⟩ = false := frz_raw hx 5
  have f6 : w2.frozen? ⟨g, 6, none⟩ = false := frz_raw hx 6
  clear hx hown hok
  go_upto_region 3 with fail
  clear c0 c1 c2 c3 c4 c5 c6 f3 f4 f5 f6 HX1 HR1 HO1 HZ1 HI2 HP0_1
  generalize ((((w2.setCell ⟨g, 3, none⟩ (.slice q1.A0 q1.n0 q1.c0)).setCell ⟨g, 4, none⟩ (.slice q1.A1 q1.n1 q1.c1)).setCell ⟨g, 5, none⟩ (.slice q1.A2 q1.n2 q1.c2)).setCell ⟨g, 6, none⟩ (.slice q1.A3 q1.n3 q1.c3)) = W2 at *
  have hx := HX2.out
  have hy := HR2.out
  have c0 : W2.cell? ⟨g, 0, none⟩ = some (.int .i64 e.term) := (cell_of_heap hx 0).trans rfl
  have c1 : W2.cell? ⟨g, 1, none⟩ = some (.int .u8 e.kind) := (cell_of_heap hx 1).trans rfl
  have c2 : W2.cell? ⟨g, 2, none⟩ = some (.slice E0 e.cmd.length k0) := (cell_of_heap hx 2).trans rfl
  have c3 : W2.cell? ⟨g, 3, none⟩ = some (.slice q1.A0 q1.n0 q1.c0) := (cell_of_heap hx 3).trans rfl
  have c4 : W2.cell? ⟨g, 4, none⟩ = some (.slice q1.A1 q1.n1 q1.c1) := (cell_of_heap hx 4).trans rfl
  have c5 : W2.cell? ⟨g, 5, none⟩ = some (.slice q1.A2 q1.n2 q1.c2) := (cell_of_heap hx 5).trans rfl
  have c6 : W2.cell? ⟨g, 6, none⟩ = some (.slice q1.A3 q1.n3 q1.c3) := (cell_of_heap hx 6).trans rfl
  have b0 : W2.cell? ⟨(g + 1), 0, none⟩ = some (.int .i64 0) := (cell_of_heap hy 0).trans rfl
  have b1 : W2.cell? ⟨(g + 1), 1, none⟩ = some (.int .u8 0) := (cell_of_heap hy 1).trans rfl
  have b2 : W2.cell? ⟨(g + 1), 2, none⟩ = some (.slice none 0 0) := (cell_of_heap hy 2).trans rfl
  have b3 : W2.cell? ⟨(g + 1), 3, none⟩ = some (.slice none 0 0) := (cell_of_heap hy 3).trans rfl
  have b4 : W2.cell? ⟨(g + 1), 4, none⟩ = some (.slice none 0 0) := (cell_of_heap hy 4).trans rfl
  have b5 : W2.cell? ⟨(g + 1), 5, none⟩ = some (.slice none 0 0) := (cell_of_heap hy 5).trans rfl
  have b6 : W2.cell? ⟨(g + 1), 6, none⟩ = some (.slice none 0 0) := (cell_of_heap hy 6).trans rfl
  have h0 : W2.frozen? ⟨g + 1, 0, none⟩ = false := frz_raw hy 0
  have h1 : W2.frozen? ⟨g + 1, 1, none⟩ = false := frz_raw hy 1
  have h2 : W2.frozen? ⟨g + 1, 2, none⟩ = false := frz_raw hy 2
  have h3 : W2.frozen? ⟨g + 1, 3, none⟩ = false := frz_raw hy 3
  have h4 : W2.frozen? ⟨g + 1, 4, none⟩ = false := frz_raw hy 4
  have h5 : W2.frozen? ⟨g + 1, 5, none⟩ = false := frz_raw hy 5
  have h6 : W2.frozen? ⟨g + 1, 6, none⟩ = false := frz_raw hy 6
  clear hx hy
  go_wp2_with fail
  refine bodyPost_ret (v := .agg #[.int .i64 e.term, .int .u8 e.kind, .slice E0 e.cmd.length k0, .slice q1.A0 q1.n0 q1.c0, .slice q1.A1 q1.n1 q1.c1, .slice q1.A2 q1.n2 q1.c2, .slice q1.A3 q1.n3 q1.c3]) (by simp [results, Try.results202, go_sem, b0, b1, b2, b3, b4, b5, b6]; try rfl) rfl ?_
  clear c0 b0 h0 c1 b1 h1 c2 b2 h2 c3 b3 h3 c4 b4 h4 c5 b5 h5 c6 b6 h6
  have hg2 : W.heap.size ≤ g + 1 := by have := HG.out; omega
  have hg3 : W.heap.size ≤ g + 2 := by have := HG.out; omega
  refine ⟨⟨E0, e.cmd.length, k0, q1⟩, rfl, ?_, ?_⟩
  · refine EnN.mono (B := g + 2) ?_ hg3
    refine EnN.hi (w := W2) ⟨HP0_2.out, HP1_2.out⟩ ?_
    (repeat (refine Hi.set' ?_ (by omega) _ _))
    exact Hi.refl _ _
  · show Below W.heap.size W _
    repeat refine Below.setCell ?_ hg2 _
    exact HO2.out
set_option maxRecDepth 100000 in
set_option maxHeartbeats 8000000 in
theorem copyBase_w (bi bt : Int) (s : S4) (c : Cfg) (W : World) (h : CfgIn W s.v c) (hs : Fine c) : Calls Try.prog 127 #[baseV bi bt s] W (CopyBP W bi bt c) := by
  have HCI := Lib.hid h
  have HS := Lib.hid hs
  clear h hs
  unfold baseV
  have HX0 := Lib.hid (blk2 W (.cells #[.int .i64 bi, .int .i64 bt, .slice s.A0 s.n0 s.c0, .slice s.A1 s.n1 s.c1, .slice s.A2 s.n2 s.c2, .slice s.A3 s.n3 s.c3] 93) (.cells #[.int .i64 0, .int .i64 0, .slice none 0 0, .slice none 0 0, .slice none 0 0, .slice none 0 0] 93)).1
  have HR0 := Lib.hid (blk2 W (.cells #[.int .i64 bi, .int .i64 bt, .slice s.A0 s.n0 s.c0, .slice s.A1 s.n1 s.c1, .slice s.A2 s.n2 s.c2, .slice s.A3 s.n3 s.c3] 93) (.cells #[.int .i64 0, .int .i64 0, .slice none 0 0, .slice none 0 0, .slice none 0 0, .slice none 0 0] 93)).2
  have HO0 : Hid (Ok W ((W.alloc (.cells #[.int .i64 bi, .int .i64 bt, .slice s.A0 s.n0 s.c0, .slice s.A1 s.n1 s.c1, .slice s.A2 s.n2 s.c2, .slice s.A3 s.n3 s.c3] 93)).alloc (.cells #[.int .i64 0, .int .i64 0, .slice none 0 0, .slice none 0 0, .slice none 0 0, .slice none 0 0] 93))) := Lib.hid (((Ok.refl W).alloc _).alloc _)
  have HZ0 : Hid (W.heap.size + 2 ≤ ((W.alloc (.cells #[.int .i64 bi, .int .i64 bt, .slice s.A0 s.n0 s.c0, .slice s.A1 s.n1 s.c1, .slice s.A2 s.n2 s.c2, .slice s.A3 s.n3 s.c3] 93)).alloc (.cells #[.int .i64 0, .int .i64 0, .slice none 0 0, .slice none 0 0, .slice none 0 0, .slice none 0 0] 93)).heap.size) := Lib.hid (by simp [World.size_alloc])
  go_enter Try.func127, Try.ntmps127
  go_wp2_with fail
  generalize ((W.alloc (.cells #[.int .i64 bi, .int .i64 bt, .slice s.A0 s.n0 s.c0, .slice s.A1 s.n1 s.c1, .slice s.A2 s.n2 s.c2, .slice s.A3 s.n3 s.c3] 93)).alloc (.cells #[.int .i64 0, .int .i64 0, .slice none 0 0, .slice none 0 0, .slice none 0 0, .slice none 0 0] 93)) = W0 at *
  obtain ⟨g, hg⟩ : ∃ g, W.heap.size = g := ⟨_, rfl⟩
  have HG := Lib.hid hg
  rw [hg] at HX0 HR0 HZ0 ⊢
  clear hg
  refine (copyConfig_w s c W0 (HO0.out.cfg HCI.out) HS.out).mono ?_
  rintro _ w1 ⟨q1, rfl, hown, hok⟩
  unfold S4.v
  have HX1 : Hid (((((w1.setCell ⟨g, 2, none⟩ (.slice q1.A0 q1.n0 q1.c0)).setCell ⟨g, 3, none⟩ (.slice q1.A1 q1.n1 q1.c1)).setCell ⟨g, 4, none⟩ (.slice q1.A2 q1.n2 q1.c2)).setCell ⟨g, 5, none⟩ (.slice q1.A3 q1.n3 q1.c3)).heap[g]? = some (.cells #[.int .i64 bi, .int .i64 bt, .slice q1.A0 q1.n0 q1.c0, .slice q1.A1 q1.n1 q1.c1, .slice q1.A2 q1.n2 q1.c2, .slice q1.A3 q1.n3 q1.c3] 93 (0, 0))) := Lib.hid (set_blk (set_blk (set_blk (set_blk (blk_ok hok HX0.out) 2 (.slice q1.A0 q1.n0 q1.c0)) 3 (.slice q1.A1 q1.n1 q1.c1)) 4 (.slice q1.A2 q1.n2 q1.c2)) 5 (.slice q1.A3 q1.n3 q1.c3))
  have HR1 : Hid (((((w1.setCell ⟨g, 2, none⟩ (.slice q1.A0 q1.n0 q1.c0)).setCell ⟨g, 3, none⟩ (.slice q1.A1 q1.n1 q1.c1)).setCell ⟨g, 4, none⟩ (.slice q1.A2 q1.n2 q1.c2)).setCell ⟨g, 5, none⟩ (.slice q1.A3 q1.n3 q1.c3)).heap[g + 1]? = some (.cells #[.int .i64 0, .int .i64 0, .slice none 0 0, .slice none 0 0, .slice none 0 0, .slice none 0 0] 93 (0, 0))) := Lib.hid (set_far (set_far (set_far (set_far (blk_ok hok HR0.out) (by omega : g ≠ g + 1) 2 (.slice q1.A0 q1.n0 q1.c0)) (by omega : g ≠ g + 1) 3 (.slice q1.A1 q1.n1 q1.c1)) (by omega : g ≠ g + 1) 4 (.slice q1.A2 q1.n2 q1.c2)) (by omega : g ≠ g + 1) 5 (.slice q1.A3 q1.n3 q1.c3))
  have HO1 : Hid (Ok W ((((w1.setCell ⟨g, 2, none⟩ (.slice q1.A0 q1.n0 q1.c0)).setCell ⟨g, 3, none⟩ (.slice q1.A1 q1.n1 q1.c1)).setCell ⟨g, 4, none⟩ (.slice q1.A2 q1.n2 q1.c2)).setCell ⟨g, 5, none⟩ (.slice q1.A3 q1.n3 q1.c3))) := Lib.hid (Below.setCell (Below.setCell (Below.setCell (Below.setCell (HO0.out.trans hok) (Nat.le_of_eq HG.out) _) (Nat.le_of_eq HG.out) _) (Nat.le_of_eq HG.out) _) (Nat.le_of_eq HG.out) _)
  have HI1 : Hid (Hi (g + 2) w1 ((((w1.setCell ⟨g, 2, none⟩ (.slice q1.A0 q1.n0 q1.c0)).setCell ⟨g, 3, none⟩ (.slice q1.A1 q1.n1 q1.c1)).setCell ⟨g, 4, none⟩ (.slice q1.A2 q1.n2 q1.c2)).setCell ⟨g, 5, none⟩ (.slice q1.A3 q1.n3 q1.c3))) := Lib.hid (Hi.set' (Hi.set' (Hi.set' (Hi.set' (Hi.refl _ _) (by omega) _ _) (by omega) _ _) (by omega) _ _) (by omega) _ _)
  have HZ1 : Hid (g + 2 ≤ ((((w1.setCell ⟨g, 2, none⟩ (.slice q1.A0 q1.n0 q1.c0)).setCell ⟨g, 3, none⟩ (.slice q1.A1 q1.n1 q1.c1)).setCell ⟨g, 4, none⟩ (.slice q1.A2 q1.n2 q1.c2)).setCell ⟨g, 5, none⟩ (.slice q1.A3 q1.n3 q1.c3)).heap.size) := Lib.hid (Nat.le_trans (Nat.le_trans HZ0.out hok.size) HI1.out.1)
  have HP0_1 := Lib.hid ((hown.mono HZ0.out).hi HI1.out)
  have hx := blk_ok hok HX0.out
  have c0 : w1.cell? ⟨g, 0, none⟩ = some (.int .i64 bi) := (cell_of_heap hx 0).trans rfl
  have c1 : w1.cell? ⟨g, 1, none⟩ = some (.int .i64 bt) := (cell_of_heap hx 1).trans rfl
  have c2 : w1.cell? ⟨g, 2, none⟩ = some (.slice s.A0 s.n0 s.c0) := (cell_of_heap hx 2).trans rfl
  have c3 : w1.cell? ⟨g, 3, none⟩ = some (.slice s.A1 s.n1 s.c1) := (cell_of_heap hx 3).trans rfl
  have c4 : w1.cell? ⟨g, 4, none⟩ = some (.slice s.A2 s.n2 s.c2) := (cell_of_heap hx 4).trans rfl
  have c5 : w1.cell? ⟨g, 5, none⟩ = some (.slice s.A3 s.n3 s.c3) := (cell_of_heap hx 5).trans rfl
  have f2 : w1.frozen? ⟨g, 2, none⟩ = false := frz_raw hx 2
  have f3 : w1.frozen? ⟨g, 3, none⟩ = false := frz_raw hx 3
  have f4 : w1.frozen? ⟨g, 4, none⟩ = false := frz_raw hx 4
  have f5 : w1.frozen? ⟨g, 5, none⟩ = false := frz_raw hx 5
  clear hx hown hok
  go_upto_region 2 with fail
  clear c0 c1 c2 c3 c4 c5 f2 f3 f4 f5 HX0 HR0 HO0 HZ0 HI1
  generalize ((((w1.setCell ⟨g, 2, none⟩ (.slice q1.A0 q1.n0 q1.c0)).setCell ⟨g, 3, none⟩ (.slice q1.A1 q1.n1 q1.c1)).setCell ⟨g, 4, none⟩ (.slice q1.A2 q1.n2 q1.c2)).setCell ⟨g, 5, none⟩ (.slice q1.A3 q1.n3 q1.c3)) = W1 at *
  have hx := HX1.out
  have hy := HR1.out
  have c0 : W1.cell? ⟨g, 0, none⟩ = some (.int .i64 bi) := (cell_of_heap hx 0).trans rfl
  have c1 : W1.cell? ⟨g, 1, none⟩ = some (.int .i64 bt) := (cell_of_heap hx 1).trans rfl
  have c2 : W1.cell? ⟨g, 2, none⟩ = some (.slice q1.A0 q1.n0 q1.c0) := (cell_of_heap hx 2).trans rfl
  have c3 : W1.cell? ⟨g, 3, none⟩ = some (.slice q1.A1 q1.n1 q1.c1) := (cell_of_heap hx 3).trans rfl
  have c4 : W1.cell? ⟨g, 4, none⟩ = some (.slice q1.A2 q1.n2 q1.c2) := (cell_of_heap hx 4).trans rfl
  have c5 : W1.cell? ⟨g, 5, none⟩ = some (.slice q1.A3 q1.n3 q1.c3) := (cell_of_heap hx 5).trans rfl
  have b0 : W1.cell? ⟨(g + 1), 0, none⟩ = some (.int .i64 0) := (cell_of_heap hy 0).trans rfl
  have b1 : W1.cell? ⟨(g + 1), 1, none⟩ = some (.int .i64 0) := (cell_of_heap hy 1).trans rfl
  have b2 : W1.cell? ⟨(g + 1), 2, none⟩ = some (.slice none 0 0) := (cell_of_heap hy 2).trans rfl
  have b3 : W1.cell? ⟨(g + 1), 3, none⟩ = some (.slice none 0 0) := (cell_of_heap hy 3).trans rfl
  have b4 : W1.cell? ⟨(g + 1), 4, none⟩ = some (.slice none 0 0) := (cell_of_heap hy 4).trans rfl
  have b5 : W1.cell? ⟨(g + 1), 5, none⟩ = some (.slice none 0 0) := (cell_of_heap hy 5).trans rfl
  have h0 : W1.frozen? ⟨g + 1, 0, none⟩ = false := frz_raw hy 0
  have h1 : W1.frozen? ⟨g + 1, 1, none⟩ = false := frz_raw hy 1
  have h2 : W1.frozen? ⟨g + 1, 2, none⟩ = false := frz_raw hy 2
  have h3 : W1.frozen? ⟨g + 1, 3, none⟩ = false := frz_raw hy 3
  have h4 : W1.frozen? ⟨g + 1, 4, none⟩ = false := frz_raw hy 4
  have h5 : W1.frozen? ⟨g + 1, 5, none⟩ = false := frz_raw hy 5
  clear hx hy
  go_wp2_with fail
  refine bodyPost_ret (v := .agg #[.int .i64 bi, .int .i64 bt, .slice q1.A0 q1.n0 q1.c0, .slice q1.A1 q1.n1 q1.c1, .slice q1.A2 q1.n2 q1.c2, .slice q1.A3 q1.n3 q1.c3]) (by simp [results, Try.results127, go_sem, b0, b1, b2, b3, b4, b5]; try rfl) rfl ?_
  clear c0 b0 h0 c1 b1 h1 c2 b2 h2 c3 b3 h3 c4 b4 h4 c5 b5 h5
  have hg2 : W.heap.size ≤ g + 1 := by have := HG.out; omega
  have hg3 : W.heap.size ≤ g + 2 := by have := HG.out; omega
  refine ⟨q1, rfl, ?_, ?_⟩
  · refine CfgN.mono (B := g + 2) ?_ hg3
    refine CfgN.hi (w := W1) HP0_1.out ?_
    (repeat (refine Hi.set' ?_ (by omega) _ _))
    exact Hi.refl _ _
  · show Below W.heap.size W _
    repeat refine Below.setCell ?_ hg2 _
    exact HO1.out
end Go.Proofs.Ytolfdncmlfnbdaa
