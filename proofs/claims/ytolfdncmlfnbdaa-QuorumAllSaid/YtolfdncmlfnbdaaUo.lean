/- The closed law QuorumAll, walked: it returns true. -/
import Derived.Test.YtolfdncmlfnbdaaUn
import Derived.Deep.DeepCutAuto
namespace Go.Proofs.Ytolfdncmlfnbdaa
open Go.RowKit

theorem Ok.own {w w' : World} (k : Ok w w') {g : Nat} (hg : w.heap.size ≤ g) (o : Nat) (v : Value) : Ok w (w'.setCell ⟨g, o, none⟩ v) := Below.setCell k hg _
/-- Some configuration lies in the four cells at block g. -/
def SomeAt (w : World) (g : Nat) : Prop := ∃ D0 p0 d0 D1 p1 d1 D2 p2 d2 D3 p3 d3 c, At w g (.slice D0 p0 d0) (.slice D1 p1 d1) (.slice D2 p2 d2) (.slice D3 p3 d3) ∧ CfgIn w (.agg #[.slice D0 p0 d0, .slice D1 p1 d1, .slice D2 p2 d2, .slice D3 p3 d3]) c
theorem SomeAt.ok {w w' : World} {g : Nat} (h : SomeAt w g) (k : Ok w w') : SomeAt w' g := by
  obtain ⟨D0, p0, d0, D1, p1, d1, D2, p2, d2, D3, p3, d3, c, h1, h2⟩ := h
  exact ⟨D0, p0, d0, D1, p1, d1, D2, p2, d2, D3, p3, d3, c, h1.ok k, k.cfg h2⟩
/-- What behind the first statement of a round stands in its two variables. -/
def TwoP (W : World) (p e : Value) (w : World) : Prop := ∃ g E, p = .pointer (some ⟨g, 0, none⟩) ∧ e = .int .i64 E ∧ SomeAt w g ∧ Ok W w
/-- Six configurations in a row. -/
def SixAt (w : World) (L : Nat) : Prop := ∀ i, i < 6 → ∃ D0 p0 d0 D1 p1 d1 D2 p2 d2 D3 p3 d3 c, (w.cell? ⟨L, i * 4, none⟩ = some (.slice D0 p0 d0) ∧ w.cell? ⟨L, i * 4 + 1, none⟩ = some (.slice D1 p1 d1) ∧ w.cell? ⟨L, i * 4 + 2, none⟩ = some (.slice D2 p2 d2) ∧ w.cell? ⟨L, i * 4 + 3, none⟩ = some (.slice D3 p3 d3)) ∧ CfgIn w (.agg #[.slice D0 p0 d0, .slice D1 p1 d1, .slice D2 p2 d2, .slice D3 p3 d3]) c
theorem SixAt.ok {w w' : World} {L : Nat} (h : SixAt w L) (k : Ok w w') : SixAt w' L := fun i hi => by
  obtain ⟨D0, p0, d0, D1, p1, d1, D2, p2, d2, D3, p3, d3, c, ⟨h0, h1, h2, h3⟩, h4⟩ := h i hi
  exact ⟨D0, p0, d0, D1, p1, d1, D2, p2, d2, D3, p3, d3, c, ⟨k.cell h0, k.cell h1, k.cell h2, k.cell h3⟩, k.cfg h4⟩
theorem SixAt.mk {w : World} {A00 A01 A02 A03 A10 A11 A12 A13 A20 A21 A22 A23 A30 A31 A32 A33 A40 A41 A42 A43 A50 A51 A52 A53 : Option Addr} {n00 n01 n02 n03 n10 n11 n12 n13 n20 n21 n22 n23 n30 n31 n32 n33 n40 n41 n42 n43 n50 n51 n52 n53 c00 c01 c02 c03 c10 c11 c12 c13 c20 c21 c22 c23 c30 c31 c32 c33 c40 c41 c42 c43 c50 c51 c52 c53 : Nat} {k0 k1 k2 k3 k4 k5 : Cfg} (t : TypeId) (h0 : CfgIn w (.agg #[.slice A00 n00 c00, .slice A01 n01 c01, .slice A02 n02 c02, .slice A03 n03 c03]) k0) (h1 : CfgIn w (.agg #[.slice A10 n10 c10, .slice A11 n11 c11, .slice A12 n12 c12, .slice A13 n13 c13]) k1) (h2 : CfgIn w (.agg #[.slice A20 n20 c20, .slice A21 n21 c21, .slice A22 n22 c22, .slice A23 n23 c23]) k2) (h3 : CfgIn w (.agg #[.slice A30 n30 c30, .slice A31 n31 c31, .slice A32 n32 c32, .slice A33 n33 c33]) k3) (h4 : CfgIn w (.agg #[.slice A40 n40 c40, .slice A41 n41 c41, .slice A42 n42 c42, .slice A43 n43 c43]) k4) (h5 : CfgIn w (.agg #[.slice A50 n50 c50, .slice A51 n51 c51, .slice A52 n52 c52, .slice A53 n53 c53]) k5) :
    SixAt (w.alloc (.cells #[.slice A00 n00 c00, .slice A01 n01 c01, .slice A02 n02 c02, .slice A03 n03 c03, .slice A10 n10 c10, .slice A11 n11 c11, .slice A12 n12 c12, .slice A13 n13 c13, .slice A20 n20 c20, .slice A21 n21 c21, .slice A22 n22 c22, .slice A23 n23 c23, .slice A30 n30 c30, .slice A31 n31 c31, .slice A32 n32 c32, .slice A33 n33 c33, .slice A40 n40 c40, .slice A41 n41 c41, .slice A42 n42 c42, .slice A43 n43 c43, .slice A50 n50 c50, .slice A51 n51 c51, .slice A52 n52 c52, .slice A53 n53 c53] t)) w.heap.size := fun i hi => by
  have o := (Ok.refl w).alloc (.cells #[.slice A00 n00 c00, .slice A01 n01 c01, .slice A02 n02 c02, .slice A03 n03 c03, .slice A10 n10 c10, .slice A11 n11 c11, .slice A12 n12 c12, .slice A13 n13 c13, .slice A20 n20 c20, .slice A21 n21 c21, .slice A22 n22 c22, .slice A23 n23 c23, .slice A30 n30 c30, .slice A31 n31 c31, .slice A32 n32 c32, .slice A33 n33 c33, .slice A40 n40 c40, .slice A41 n41 c41, .slice A42 n42 c42, .slice A43 n43 c43, .slice A50 n50 c50, .slice A51 n51 c51, .slice A52 n52 c52, .slice A53 n53 c53] t)
  match i, hi with
  | 0, _ => exact ⟨_, _, _, _, _, _, _, _, _, _, _, _, k0, ⟨box_cell _ _ _ 0 _ rfl, box_cell _ _ _ 1 _ rfl, box_cell _ _ _ 2 _ rfl, box_cell _ _ _ 3 _ rfl⟩, o.cfg h0⟩
  | 1, _ => exact ⟨_, _, _, _, _, _, _, _, _, _, _, _, k1, ⟨box_cell _ _ _ 4 _ rfl, box_cell _ _ _ 5 _ rfl, box_cell _ _ _ 6 _ rfl, box_cell _ _ _ 7 _ rfl⟩, o.cfg h1⟩
  | 2, _ => exact ⟨_, _, _, _, _, _, _, _, _, _, _, _, k2, ⟨box_cell _ _ _ 8 _ rfl, box_cell _ _ _ 9 _ rfl, box_cell _ _ _ 10 _ rfl, box_cell _ _ _ 11 _ rfl⟩, o.cfg h2⟩
  | 3, _ => exact ⟨_, _, _, _, _, _, _, _, _, _, _, _, k3, ⟨box_cell _ _ _ 12 _ rfl, box_cell _ _ _ 13 _ rfl, box_cell _ _ _ 14 _ rfl, box_cell _ _ _ 15 _ rfl⟩, o.cfg h3⟩
  | 4, _ => exact ⟨_, _, _, _, _, _, _, _, _, _, _, _, k4, ⟨box_cell _ _ _ 16 _ rfl, box_cell _ _ _ 17 _ rfl, box_cell _ _ _ 18 _ rfl, box_cell _ _ _ 19 _ rfl⟩, o.cfg h4⟩
  | 5, _ => exact ⟨_, _, _, _, _, _, _, _, _, _, _, _, k5, ⟨box_cell _ _ _ 20 _ rfl, box_cell _ _ _ 21 _ rfl, box_cell _ _ _ 22 _ rfl, box_cell _ _ _ 23 _ rfl⟩, o.cfg h5⟩
def BegAny (W : World) (e : Ending) (w' : World) : Prop := ∃ D0 p0 d0 D1 p1 d1 D2 p2 d2 D3 p3 d3 E c, e = .returned (.tuple #[(.agg #[.slice D0 p0 d0, .slice D1 p1 d1, .slice D2 p2 d2, .slice D3 p3 d3]), .int .i64 E]) ∧ CfgO w' W.heap.size (.agg #[.slice D0 p0 d0, .slice D1 p1 d1, .slice D2 p2 d2, .slice D3 p3 d3]) c ∧ Ok W w'
theorem begAny_w (v vw : Value) (c : Cfg) (want : List Int) (W : World) (h : CfgIn W v c) (hw : InI W vw want) : Calls Try.prog 42 #[v, vw] W (BegAny W) :=
  (begin_o v vw c want W h hw).mono fun e w' ⟨v', he, hc, hk⟩ => by
    obtain ⟨D0, p0, d0, D1, p1, d1, D2, p2, d2, D3, p3, d3, rfl⟩ := hc.cfg.form4
    exact ⟨D0, p0, d0, D1, p1, d1, D2, p2, d2, D3, p3, d3, _, _, he, hc, hk⟩
theorem CfgO.set4 {w : World} {B g : Nat} {v x0 x1 x2 x3 : Value} {c : Cfg} (h : CfgO w B v c) (hg : g < B) : CfgIn (set4 w g x0 x1 x2 x3) v c := by
  obtain ⟨a, b, d, e, rfl, h1, h2, h3, h4⟩ := h
  exact ⟨a, b, d, e, rfl, late h1.1 (Ok.refl _) hg h1.2 _ _ _ _, late h2.1 (Ok.refl _) hg h2.2 _ _ _ _, late h3.1 (Ok.refl _) hg h3.2 _ _ _ _, late h4.1 (Ok.refl _) hg h4.2 _ _ _ _⟩
theorem SomeAt.laid {w : World} {B g : Nat} {c : Cfg} {D0 D1 D2 D3 : Option Addr} {p0 d0 p1 d1 p2 d2 p3 d3 : Nat} (h : CfgO w B (.agg #[.slice D0 p0 d0, .slice D1 p1 d1, .slice D2 p2 d2, .slice D3 p3 d3]) c) (x : XS w g (.slice none 0 0) (.slice none 0 0) (.slice none 0 0) (.slice none 0 0)) (hg : g < B) : SomeAt (set4 w g (.slice D0 p0 d0) (.slice D1 p1 d1) (.slice D2 p2 d2) (.slice D3 p3 d3)) g :=
  ⟨_, _, _, _, _, _, _, _, _, _, _, _, c, ((((x.set0 _).set1 _).set2 _).set3 _).at4, h.set4 hg⟩
theorem SomeAt.new {w : World} {c : Cfg} {D0 D1 D2 D3 : Option Addr} {p0 d0 p1 d1 p2 d2 p3 d3 : Nat} (h : CfgIn w (.agg #[.slice D0 p0 d0, .slice D1 p1 d1, .slice D2 p2 d2, .slice D3 p3 d3]) c) (t : TypeId) : SomeAt (w.alloc (.cells #[.slice D0 p0 d0, .slice D1 p1 d1, .slice D2 p2 d2, .slice D3 p3 d3] t)) w.heap.size :=
  ⟨_, _, _, _, _, _, _, _, _, _, _, _, c, At.new _ _ _ _ _ _, ((Ok.refl w).alloc _).cfg h⟩
set_option maxRecDepth 100000 in
set_option maxHeartbeats 2000000 in
theorem quorumAll_v (W : World) : Calls Try.prog 7 #[] W fun e w' => e = .returned (.bool true) ∧ Ok W w' := by
  go_enter Try.func7, Try.ntmps7
  go_wp2_with fail
  refine (awake_q W).mono ?_
  rintro e w1 ⟨rfl, hok⟩
  have HK1 : Hid (Ok W w1) := Lib.hid hok
  clear hok
  go_wp2_with fail
  go_loopw [1, 2, 3, 4, 5, 6, 7, 8, 9, 10] (fun v _ _ _ _ _ _ _ _ _ wr => ∃ a : Nat, a ≤ 16 ∧ v = .int .i64 a ∧ Ok W wr) (fun v _ _ _ _ _ _ _ _ _ _ => 16 - (intOf v).toNat)
  case atStart => exact ⟨0, Nat.zero_le _, rfl, HK1.out⟩
  case round =>
    obtain ⟨a, ha, rfl, hok⟩ := hrel
    have HKA : Hid (Ok W wr) := Lib.hid hok
    clear hok HK1
    have ha0 : (0 : Int) ≤ (a : Int) := Int.natCast_nonneg _
    by_cases hlt : a < 16
    · have ha1 : (a : Int) < 16 := by omega
      have hd : decide ((a : Int) < 16) = true := decide_eq_true ha1
      go_wp2_with fail
      go_loopw [2, 3, 4, 5, 6, 7, 8, 9, 10] (fun x _ _ _ _ _ _ _ _ wy => ∃ b : Nat, b ≤ 16 ∧ x = .int .i64 b ∧ Ok W wy) (fun x _ _ _ _ _ _ _ _ _ => 16 - (intOf x).toNat)
      case atStart => exact ⟨0, Nat.zero_le _, rfl, HKA.out⟩
      case round =>
        obtain ⟨b, hb, rfl, hok⟩ := hrel
        have HKB : Hid (Ok W wr) := Lib.hid hok
        clear hok
        have hb0 : (0 : Int) ≤ (b : Int) := Int.natCast_nonneg _
        by_cases hlt2 : b < 16
        · have hb1 : (b : Int) < 16 := by omega
          have hd2 : decide ((b : Int) < 16) = true := decide_eq_true hb1
          go_wp2_with fail
          refine (rowAny_w _ _).mono ?_
          rintro e w2 ⟨A, n, cc, xs, rfl, hin, hok⟩
          have HK3 : Hid (Ok W (w2.alloc (.cells #[.slice A n cc, .slice none 0 0, .slice none 0 0, .slice none 0 0] 71))) := Lib.hid ((HKB.out.trans hok).alloc _)
          have HC3 : Hid (CfgIn (w2.alloc (.cells #[.slice A n cc, .slice none 0 0, .slice none 0 0, .slice none 0 0] 71)) (.agg #[.slice A n cc, .slice none 0 0, .slice none 0 0, .slice none 0 0]) ⟨xs, [], [], []⟩) := Lib.hid (((Ok.refl w2).alloc _).cfg ⟨_, _, _, _, rfl, hin, InI.nil _, InI.nil _, InI.nil _⟩)
          have HA3 := Lib.hid (At.new w2 (.slice A n cc) (.slice none 0 0) (.slice none 0 0) (.slice none 0 0) 71)
          clear hin hok
          go_wp2_with fail
          generalize (w2.alloc (.cells #[.slice A n cc, .slice none 0 0, .slice none 0 0, .slice none 0 0] 71)) = w3 at *
          have HBG : Hid (∀ wa w A' n' c' xs', InI wa (.slice A' n' c') xs' → Ok w3 w → Ok wa w → Calls Try.prog 42 #[.agg #[.slice A n cc, .slice none 0 0, .slice none 0 0, .slice none 0 0], .slice A' n' c'] w (BegAny w)) := Lib.hid fun wa w A' n' c' xs' hi h3 ha =>
            begAny_w _ _ _ xs' w (h3.cfg HC3.out) (ha.ints hi)
          have HDR : Hid (Ok w3 w3.drew) := Lib.hid (Ok.drew (Ok.refl _))
          have HZA : Hid (XS (w3.alloc (.cells #[.slice none 0 0, .slice none 0 0, .slice none 0 0, .slice none 0 0] 71)).drew w3.heap.size (.slice none 0 0) (.slice none 0 0) (.slice none 0 0) (.slice none 0 0)) := Lib.hid ((XS.new w3 (.slice none 0 0) (.slice none 0 0) (.slice none 0 0) (.slice none 0 0) 71).ok (Ok.drew (Ok.refl _)))
          have HS3 := Lib.hid fun w' (k : Ok w3 w') => S5 HA3.out k
          go_cut [4, 5] from 24 to 30 (fun p e wx => TwoP w3 p e wx)
          case first =>
            go_region_held3 (fun w' => w'.cell? ⟨w2.heap.size, 0, none⟩ = some (.slice A n cc) ∧ w'.cell? ⟨w2.heap.size, 1, none⟩ = some (.slice none 0 0) ∧ w'.cell? ⟨w2.heap.size, 2, none⟩ = some (.slice none 0 0) ∧ w'.cell? ⟨w2.heap.size, 3, none⟩ = some (.slice none 0 0) ∧ OkS w3 w')
              ((refine HS3.out _ ?_; (repeat (first | (with_reducible exact Ok.refl _) | (with_reducible assumption) | (with_reducible refine Ok.drew ?_) | (with_reducible refine Ok.alloc ?_ _) | (with_reducible refine Ok.trans ?_ (by assumption)) | (with_reducible refine Ok.own ?_ (by first | exact Nat.le_refl _ | exact RS) _ _)))))
              (first
                | (go_at_call 61; (with_reducible refine (rowAny_w _ _).mono ?_); rintro e w5 ⟨RA, Rn, Rc, Rx, rfl, Rin, Rok⟩; have RS : w3.heap.size ≤ w5.heap.size := Nat.le_trans (by simp) Rok.size; (try (have ZX := HZA.out.ok Rok)))
                | (go_at_call 42; (with_reducible refine (HBG.out _ _ _ _ _ _ (by assumption) ?_ ?_).mono ?_); (repeat (first | (with_reducible exact Ok.refl _) | (with_reducible assumption) | (with_reducible refine Ok.drew ?_) | (with_reducible refine Ok.alloc ?_ _) | (with_reducible refine Ok.trans ?_ (by assumption)))); (repeat (first | (with_reducible exact Ok.refl _) | (with_reducible assumption) | (with_reducible refine Ok.drew ?_) | (with_reducible refine Ok.alloc ?_ _) | (with_reducible refine Ok.trans ?_ (by assumption)))); rintro e w6 ⟨D0, p0, d0, D1, p1, d1, D2, p2, d2, D3, p3, d3, E, cd, rfl, bcd, bok⟩; (first | (have ZY := ZX.ok bok; obtain ⟨⟨z0, z1, z2, z3⟩, f0, f1, f2, f3⟩ := ZY) | (have ZY := (XS.new w5 (.slice none 0 0) (.slice none 0 0) (.slice none 0 0) (.slice none 0 0) 71).ok bok; obtain ⟨⟨z0, z1, z2, z3⟩, f0, f1, f2, f3⟩ := ZY) | skip)))
            · go_wp2_with fail
              go_meet
              exact ⟨w6.heap.size, E, rfl, rfl, SomeAt.new bcd.cfg _, by (repeat (first | (with_reducible exact Ok.refl _) | (with_reducible assumption) | (with_reducible refine Ok.drew ?_) | (with_reducible refine Ok.alloc ?_ _) | (with_reducible refine Ok.trans ?_ (by assumption)) | (with_reducible refine Ok.own ?_ (by first | exact Nat.le_refl _ | exact RS) _ _)))⟩
            · go_wp2_with fail
              go_meet
              exact ⟨w5.heap.size, E, rfl, rfl, SomeAt.laid bcd ⟨⟨z0, z1, z2, z3⟩, f0, f1, f2, f3⟩ (by simp), by (repeat (first | (with_reducible exact Ok.refl _) | (with_reducible assumption) | (with_reducible refine Ok.drew ?_) | (with_reducible refine Ok.alloc ?_ _) | (with_reducible refine Ok.trans ?_ (by assumption)) | (with_reducible refine Ok.own ?_ (by first | exact Nat.le_refl _ | exact RS) _ _)))⟩
            · go_wp2_with fail
              go_meet
              exact ⟨w3.heap.size, E, rfl, rfl, SomeAt.laid bcd ⟨⟨z0, z1, z2, z3⟩, f0, f1, f2, f3⟩ (by have := Rok.size; simp at this; omega), by (repeat (first | (with_reducible exact Ok.refl _) | (with_reducible assumption) | (with_reducible refine Ok.drew ?_) | (with_reducible refine Ok.alloc ?_ _) | (with_reducible refine Ok.trans ?_ (by assumption)) | (with_reducible refine Ok.own ?_ (by first | exact Nat.le_refl _ | exact RS) _ _)))⟩
          case rest =>
            obtain ⟨g, E, rfl, rfl, ⟨D0, p0, d0, D1, p1, d1, D2, p2, d2, D3, p3, d3, cd, hat, hcd⟩, hok⟩ := hcut
            have HKC : Hid (Ok w3 wc) := Lib.hid hok
            have HATC := Lib.hid hat
            have HCDC := Lib.hid hcd
            clear hat hcd hok HBG HDR HZA HS3
            obtain ⟨hx0, hx1, hx2, hx3⟩ := HATC.out
            go_wp2_with fail
            clear hx0 hx1 hx2 hx3
            refine (next_q _ cd wc HCDC.out).mono ?_
            rintro e w8 ⟨vx, rfl, hcx, hok⟩
            generalize (nextC cd).isSome = ob at *
            generalize (nextC cd).getD ⟨[], [], [], []⟩ = cx at *
            obtain ⟨X0, x0, y0, X1, x1, y1, X2, x2, y2, X3, x3, y3, rfl⟩ := hcx.form4
            have HA9 := Lib.hid (At.new w8 (.slice X0 x0 y0) (.slice X1 x1 y1) (.slice X2 x2 y2) (.slice X3 x3 y3) 71)
            have HCX9 := Lib.hid (((Ok.refl w8).alloc (.cells #[.slice X0 x0 y0, .slice X1 x1 y1, .slice X2 x2 y2, .slice X3 x3 y3] 71)).cfg hcx)
            have HK9 : Hid (Ok wc (w8.alloc (.cells #[.slice X0 x0 y0, .slice X1 x1 y1, .slice X2 x2 y2, .slice X3 x3 y3] 71))) := Lib.hid (hok.alloc _)
            clear hcx hok
            obtain ⟨hx0, hx1, hx2, hx3⟩ := HA9.out
            go_wp2_with fail
            clear hx0 hx1 hx2 hx3
            generalize (w8.alloc (.cells #[.slice X0 x0 y0, .slice X1 x1 y1, .slice X2 x2 y2, .slice X3 x3 y3] 71)) = w9 at *
            have HAD9 := Lib.hid (HATC.out.ok HK9.out)
            have HAC9 := Lib.hid (HA3.out.ok (HKC.out.trans HK9.out))
            have HCD9 := Lib.hid (HK9.out.cfg HCDC.out)
            have HCC9 := Lib.hid ((HKC.out.trans HK9.out).cfg HC3.out)
            have HW9 : Hid (Ok W w9) := Lib.hid (HK3.out.trans (HKC.out.trans HK9.out))
            have HS12 : Hid (∀ w', Ok w9 w' → (w'.cell? ⟨w2.heap.size, 0, none⟩ = some (.slice A n cc) ∧ w'.cell? ⟨w2.heap.size, 1, none⟩ = some (.slice none 0 0) ∧ w'.cell? ⟨w2.heap.size, 2, none⟩ = some (.slice none 0 0) ∧ w'.cell? ⟨w2.heap.size, 3, none⟩ = some (.slice none 0 0)) ∧
                (w'.cell? ⟨g, 0, none⟩ = some (.slice D0 p0 d0) ∧ w'.cell? ⟨g, 1, none⟩ = some (.slice D1 p1 d1) ∧ w'.cell? ⟨g, 2, none⟩ = some (.slice D2 p2 d2) ∧ w'.cell? ⟨g, 3, none⟩ = some (.slice D3 p3 d3)) ∧
                (w'.cell? ⟨w8.heap.size, 0, none⟩ = some (.slice X0 x0 y0) ∧ w'.cell? ⟨w8.heap.size, 1, none⟩ = some (.slice X1 x1 y1) ∧ w'.cell? ⟨w8.heap.size, 2, none⟩ = some (.slice X2 x2 y2) ∧ w'.cell? ⟨w8.heap.size, 3, none⟩ = some (.slice X3 x3 y3)) ∧ OkS w9 w') := Lib.hid fun w' k =>
              ⟨HAC9.out.ok k, HAD9.out.ok k, HA9.out.ok k, ⟨k⟩⟩
            clear HATC HA3 HK9 HKC HCDC HC3 HK3
            go_region_held3 (fun w' => (w'.cell? ⟨w2.heap.size, 0, none⟩ = some (.slice A n cc) ∧ w'.cell? ⟨w2.heap.size, 1, none⟩ = some (.slice none 0 0) ∧ w'.cell? ⟨w2.heap.size, 2, none⟩ = some (.slice none 0 0) ∧ w'.cell? ⟨w2.heap.size, 3, none⟩ = some (.slice none 0 0)) ∧
                (w'.cell? ⟨g, 0, none⟩ = some (.slice D0 p0 d0) ∧ w'.cell? ⟨g, 1, none⟩ = some (.slice D1 p1 d1) ∧ w'.cell? ⟨g, 2, none⟩ = some (.slice D2 p2 d2) ∧ w'.cell? ⟨g, 3, none⟩ = some (.slice D3 p3 d3)) ∧
                (w'.cell? ⟨w8.heap.size, 0, none⟩ = some (.slice X0 x0 y0) ∧ w'.cell? ⟨w8.heap.size, 1, none⟩ = some (.slice X1 x1 y1) ∧ w'.cell? ⟨w8.heap.size, 2, none⟩ = some (.slice X2 x2 y2) ∧ w'.cell? ⟨w8.heap.size, 3, none⟩ = some (.slice X3 x3 y3)) ∧ OkS w9 w')
              ((refine HS12.out _ ?_; (repeat (first | (with_reducible exact Ok.refl _) | (with_reducible assumption) | (with_reducible refine Ok.drew ?_) | (with_reducible refine Ok.alloc ?_ _) | (with_reducible refine Ok.trans ?_ (by assumption))))))
              (first
                | (go_at_call 61; (with_reducible refine (rowAny_w _ _).mono ?_); (first
                  | (have _t := tk6; rintro e v7 ⟨RA7, Rn7, Rc7, Rx7, rfl, Ri7, Ro7⟩; have tk7 : True := trivial)
                  | (have _t := tk5; rintro e v6 ⟨RA6, Rn6, Rc6, Rx6, rfl, Ri6, Ro6⟩; have tk6 : True := trivial)
                  | (have _t := tk4; rintro e v5 ⟨RA5, Rn5, Rc5, Rx5, rfl, Ri5, Ro5⟩; have tk5 : True := trivial)
                  | (have _t := tk3; rintro e v4 ⟨RA4, Rn4, Rc4, Rx4, rfl, Ri4, Ro4⟩; have tk4 : True := trivial)
                  | (have _t := tk2; rintro e v3 ⟨RA3, Rn3, Rc3, Rx3, rfl, Ri3, Ro3⟩; have tk3 : True := trivial)
                  | (have _t := tk1; rintro e v2 ⟨RA2, Rn2, Rc2, Rx2, rfl, Ri2, Ro2⟩; have tk2 : True := trivial)
                  | (rintro e v1 ⟨RA1, Rn1, Rc1, Rx1, rfl, Ri1, Ro1⟩; have tk1 : True := trivial))))
            have HO7 : Hid (Ok w9 v7) := Lib.hid (by (repeat (first | (with_reducible exact Ok.refl _) | (with_reducible assumption) | (with_reducible refine Ok.drew ?_) | (with_reducible refine Ok.alloc ?_ _) | (with_reducible refine Ok.trans ?_ (by assumption)))))
            have HSIX : Hid (SixAt (v7.alloc (.cells #[.slice A n cc, .slice none 0 0, .slice none 0 0, .slice none 0 0, .slice D0 p0 d0, .slice D1 p1 d1, .slice D2 p2 d2, .slice D3 p3 d3, .slice X0 x0 y0, .slice X1 x1 y1, .slice X2 x2 y2, .slice X3 x3 y3, .slice RA1 Rn1 Rc1, .slice RA2 Rn2 Rc2, .slice none 0 0, .slice RA3 Rn3 Rc3, .slice RA4 Rn4 Rc4, .slice none 0 0, .slice RA5 Rn5 Rc5, .slice none 0 0, .slice RA6 Rn6 Rc6, .slice none 0 0, .slice none 0 0, .slice RA7 Rn7 Rc7] 71)) v7.heap.size) := Lib.hid (SixAt.mk 71 (HO7.out.cfg HCC9.out) (HO7.out.cfg HCD9.out) (HO7.out.cfg HCX9.out)
              (k3 := ⟨Rx1, Rx2, [], Rx3⟩) ⟨_, _, _, _, rfl, (Ok.ints (by (repeat (first | (with_reducible exact Ok.refl _) | (with_reducible assumption) | (with_reducible refine Ok.drew ?_) | (with_reducible refine Ok.alloc ?_ _) | (with_reducible refine Ok.trans ?_ (by assumption))))) Ri1), (Ok.ints (by (repeat (first | (with_reducible exact Ok.refl _) | (with_reducible assumption) | (with_reducible refine Ok.drew ?_) | (with_reducible refine Ok.alloc ?_ _) | (with_reducible refine Ok.trans ?_ (by assumption))))) Ri2), (InI.nil _), (Ok.ints (by (repeat (first | (with_reducible exact Ok.refl _) | (with_reducible assumption) | (with_reducible refine Ok.drew ?_) | (with_reducible refine Ok.alloc ?_ _) | (with_reducible refine Ok.trans ?_ (by assumption))))) Ri3)⟩
              (k4 := ⟨Rx4, [], Rx5, []⟩) ⟨_, _, _, _, rfl, (Ok.ints (by (repeat (first | (with_reducible exact Ok.refl _) | (with_reducible assumption) | (with_reducible refine Ok.drew ?_) | (with_reducible refine Ok.alloc ?_ _) | (with_reducible refine Ok.trans ?_ (by assumption))))) Ri4), (InI.nil _), (Ok.ints (by (repeat (first | (with_reducible exact Ok.refl _) | (with_reducible assumption) | (with_reducible refine Ok.drew ?_) | (with_reducible refine Ok.alloc ?_ _) | (with_reducible refine Ok.trans ?_ (by assumption))))) Ri5), (InI.nil _)⟩
              (k5 := ⟨Rx6, [], [], Rx7⟩) ⟨_, _, _, _, rfl, (Ok.ints (by (repeat (first | (with_reducible exact Ok.refl _) | (with_reducible assumption) | (with_reducible refine Ok.drew ?_) | (with_reducible refine Ok.alloc ?_ _) | (with_reducible refine Ok.trans ?_ (by assumption))))) Ri6), (InI.nil _), (InI.nil _), (Ok.ints (by (repeat (first | (with_reducible exact Ok.refl _) | (with_reducible assumption) | (with_reducible refine Ok.drew ?_) | (with_reducible refine Ok.alloc ?_ _) | (with_reducible refine Ok.trans ?_ (by assumption))))) Ri7)⟩)
            have HW10 : Hid (Ok W (v7.alloc (.cells #[.slice A n cc, .slice none 0 0, .slice none 0 0, .slice none 0 0, .slice D0 p0 d0, .slice D1 p1 d1, .slice D2 p2 d2, .slice D3 p3 d3, .slice X0 x0 y0, .slice X1 x1 y1, .slice X2 x2 y2, .slice X3 x3 y3, .slice RA1 Rn1 Rc1, .slice RA2 Rn2 Rc2, .slice none 0 0, .slice RA3 Rn3 Rc3, .slice RA4 Rn4 Rc4, .slice none 0 0, .slice RA5 Rn5 Rc5, .slice none 0 0, .slice RA6 Rn6 Rc6, .slice none 0 0, .slice none 0 0, .slice RA7 Rn7 Rc7] 71))) := Lib.hid ((HW9.out.trans HO7.out).alloc _)
            clear Ri1 Ro1 tk1 Ri2 Ro2 tk2 Ri3 Ro3 tk3 Ri4 Ro4 tk4 Ri5 Ro5 tk5 Ri6 Ro6 tk6 Ri7 Ro7 tk7 HO7 HS12 HAD9 HAC9 HCD9 HCC9 HCX9 HA9 HW9
            go_wp2_with fail
            generalize (v7.alloc (.cells #[.slice A n cc, .slice none 0 0, .slice none 0 0, .slice none 0 0, .slice D0 p0 d0, .slice D1 p1 d1, .slice D2 p2 d2, .slice D3 p3 d3, .slice X0 x0 y0, .slice X1 x1 y1, .slice X2 x2 y2, .slice X3 x3 y3, .slice RA1 Rn1 Rc1, .slice RA2 Rn2 Rc2, .slice none 0 0, .slice RA3 Rn3 Rc3, .slice RA4 Rn4 Rc4, .slice none 0 0, .slice RA5 Rn5 Rc5, .slice none 0 0, .slice RA6 Rn6 Rc6, .slice none 0 0, .slice none 0 0, .slice RA7 Rn7 Rc7] 71)) = w10 at *
            obtain ⟨L, hL⟩ : ∃ L, L = v7.heap.size := ⟨_, rfl⟩
            rw [← hL] at HSIX ⊢
            clear hL
            go_loopw [9, 10] (fun i _ wi => ∃ q : Nat, q ≤ 6 ∧ i = .int .i64 q ∧ Ok w10 wi) (fun i _ _ => 6 - (intOf i).toNat)
            case atStart => exact ⟨0, Nat.zero_le _, rfl, Ok.refl _⟩
            case round =>
              obtain ⟨q, hq, rfl, hok⟩ := hrel
              have HKI : Hid (Ok w10 wr) := Lib.hid hok
              clear hok
              have hq0 : (0 : Int) ≤ (q : Int) := Int.natCast_nonneg _
              by_cases hlt3 : q < 6
              · have hq1 : (q : Int) < 6 := by omega
                have hd3 : decide ((q : Int) < 6) = true := decide_eq_true hq1
                go_wp2_with fail
                go_loopw [10] (fun x ws => ∃ t : Nat, t ≤ 20 ∧ x = .int .i64 t ∧ Ok w10 ws) (fun x _ => 16 - (intOf x).toNat)
                case atStart => exact ⟨0, Nat.zero_le _, rfl, HKI.out⟩
                case round =>
                  obtain ⟨t, ht, rfl, hok⟩ := hrel
                  have HKS : Hid (Ok w10 wr) := Lib.hid hok
                  clear hok
                  have ht0 : (0 : Int) ≤ (t : Int) := Int.natCast_nonneg _
                  by_cases hlt4 : t < 16
                  · have ht1 : (t : Int) < 16 := by omega
                    have hd4 : decide ((t : Int) < 16) = true := decide_eq_true ht1
                    obtain ⟨F0, z0, u0', F1, z1, u1', F2, z2, u2', F3, z3, u3', ck, hat, hcf⟩ := HSIX.out.ok HKS.out q hlt3
                    have HCF := Lib.hid hcf
                    have HS19 : Hid (∀ w', Ok wr w' → w'.cell? ⟨L, q * 4, none⟩ = some (.slice F0 z0 u0') ∧ w'.cell? ⟨L, q * 4 + 1, none⟩ = some (.slice F1 z1 u1') ∧ w'.cell? ⟨L, q * 4 + 2, none⟩ = some (.slice F2 z2 u2') ∧ w'.cell? ⟨L, q * 4 + 3, none⟩ = some (.slice F3 z3 u3') ∧ OkS wr w') := Lib.hid fun w' k =>
                      ⟨k.cell hat.1, k.cell hat.2.1, k.cell hat.2.2.1, k.cell hat.2.2.2, ⟨k⟩⟩
                    have HTL : Hid (∀ wa w A' n' c' xs' node, InI wa (.slice A' n' c') xs' → Ok wr w → Ok wa w → Calls Try.prog 6 #[.agg #[.slice F0 z0 u0', .slice F1 z1 u1', .slice F2 z2 u2', .slice F3 z3 u3'], .slice A' n' c', .int .i64 node] w fun e w' => e = .returned (.bool true) ∧ Ok w w') := Lib.hid fun wa w A' n' c' xs' node hi h3 ha =>
                      quorumTells_v w _ _ ck xs' node (h3.cfg HCF.out) (ha.ints hi)
                    clear hat hcf
                    go_wp2_with fail
                    go_region_held3 (fun w' => w'.cell? ⟨L, q * 4, none⟩ = some (.slice F0 z0 u0') ∧ w'.cell? ⟨L, q * 4 + 1, none⟩ = some (.slice F1 z1 u1') ∧ w'.cell? ⟨L, q * 4 + 2, none⟩ = some (.slice F2 z2 u2') ∧ w'.cell? ⟨L, q * 4 + 3, none⟩ = some (.slice F3 z3 u3') ∧ OkS wr w')
                      ((refine HS19.out _ ?_; (repeat (first | (with_reducible exact Ok.refl _) | (with_reducible assumption) | (with_reducible refine Ok.drew ?_) | (with_reducible refine Ok.alloc ?_ _) | (with_reducible refine Ok.trans ?_ (by assumption))))))
                      (first
                        | (go_at_call 61; (with_reducible refine (rowAny_w _ _).mono ?_); rintro e w15 ⟨RA, Rn, Rc, Rx, rfl, Rin, Rok⟩)
                        | (go_at_call 6; (with_reducible refine (HTL.out _ _ _ _ _ _ _ (by assumption) ?_ ?_).mono ?_); (repeat (first | (with_reducible exact Ok.refl _) | (with_reducible assumption) | (with_reducible refine Ok.drew ?_) | (with_reducible refine Ok.alloc ?_ _) | (with_reducible refine Ok.trans ?_ (by assumption)))); (repeat (first | (with_reducible exact Ok.refl _) | (with_reducible assumption) | (with_reducible refine Ok.drew ?_) | (with_reducible refine Ok.alloc ?_ _) | (with_reducible refine Ok.trans ?_ (by assumption)))); rintro e w16 ⟨rfl, tok⟩))
                    have HK16 : Hid (Ok wr w16) := Lib.hid (by (repeat (first | (with_reducible exact Ok.refl _) | (with_reducible assumption) | (with_reducible refine Ok.drew ?_) | (with_reducible refine Ok.alloc ?_ _) | (with_reducible refine Ok.trans ?_ (by assumption)))))
                    clear Rin Rok tok HTL HS19 HCF
                    go_wp2_with fail
                    refine ⟨⟨t + 1 + q / 3, by omega, by rw [show ((t + 1 + q / 3 : Nat) : Int) = (t : Int) + 1 + (q : Int) / 3 by omega], HKS.out.trans HK16.out⟩, ?_⟩
                    simp only [intOf]
                    omega
                  · go_wp2_with fail
                    go_roundw
                    case rel => exact ⟨q + 1, by omega, by go_num, HKS.out⟩
                    case measure => simp [intOf]; omega
              · have hqe : q = 6 := by omega
                subst hqe
                go_wp2_with fail
                go_roundw
                case rel => exact ⟨b + 1, by omega, by go_num, HW10.out.trans HKI.out⟩
                case measure => simp [intOf]; omega
        · have hbe : b = 16 := by omega
          subst hbe
          go_wp2_with fail
          go_roundw
          case rel => exact ⟨a + 1, by omega, by go_num, HKB.out⟩
          case measure => simp [intOf]; omega
    · have hae : a = 16 := by omega
      subst hae
      go_wp2_with fail
      go_ret
      exact ⟨rfl, HKA.out⟩
end Go.Proofs.Ytolfdncmlfnbdaa
