/- The law SchemeTells, walked. -/
import Derived.Test.YtdabdkedgigjdaaGreatYi
import Derived.BigQuiet
import Derived.Test.YtdabdkedgigjdaaGreatWd
import Derived.Test.YtdabdkedgigjdaaGreatYd
import Derived.Deep.CutRange
import Derived.Deep.RegionHeld3
namespace Go.Proofs.YtdabdkedgigjdaaGreat
open Go.RowKit

set_option maxRecDepth 100000 in
set_option maxHeartbeats 4000000 in
theorem great2_w (ep : Int) (A : Option Addr) (n c g : Nat) (xs : List Sh) (sp sq : Sp) (hn : xs.length = n) (hs : Short xs) (hl : sp.lo.size ≤ maxLen) (hh : sp.hi.size ≤ maxLen) (hl2 : sq.lo.size ≤ maxLen) (hh2 : sq.hi.size ≤ maxLen) (w : World) (hI : SharesAt w A xs)
    (h0 : w.cell? ⟨g, 0, none⟩ = some (.string sp.lo)) (h1 : w.cell? ⟨g, 1, none⟩ = some (.string sp.hi)) (h2 : w.cell? ⟨g, 2, none⟩ = some (.string sq.lo)) (h3 : w.cell? ⟨g, 3, none⟩ = some (.string sq.hi)) :
    Calls Tryz.prog 28 #[.agg #[.int .i64 ep, .slice A n c], .slice (some ⟨g, 0, none⟩) 2 2] w (GrP w n) := by
  have HO := Lib.hid (fun w' (k : Ok w w') => sharesOf_w ep A n c xs hn hs w' (hI.ok k))
  clear hI hn hs
  obtain ⟨lo, hi⟩ := sp
  obtain ⟨lo2, hi2⟩ := sq
  simp only at hl hh h0 h1 hl2 hh2 h2 h3
  unfold maxLen at hl hh hl2 hh2
  go_enter Tryz.func28, Tryz.ntmps28
  have oW : Ok w (w.alloc (.cells #[.int .i64 ep, .slice A n c] 24)) := Ok.alloc (Ok.refl w) _
  have B0 : (w.alloc (.cells #[.int .i64 ep, .slice A n c] 24)).cell? ⟨w.heap.size, 0, none⟩ = some (.int .i64 ep) := by go_cell
  have B1 : (w.alloc (.cells #[.int .i64 ep, .slice A n c] 24)).cell? ⟨w.heap.size, 1, none⟩ = some (.slice A n c) := by go_cell
  have C0 := Ok.cell oW h0
  have C1 := Ok.cell oW h1
  have C2 := Ok.cell oW h2
  have C3 := Ok.cell oW h3
  go_wp2_with fail
  generalize w.alloc (.cells #[.int .i64 ep, .slice A n c] 24) = W at oW B0 B1 C0 C1 C2 C3 ⊢
  go_loopw [5] (fun i wr => ∃ k : Nat, k ≤ 2 ∧ i = .int .i64 k ∧ Ok W wr) (fun i _ => 2 - (intOf i).toNat)
  case atStart => exact ⟨0, Nat.zero_le _, rfl, Ok.refl _⟩
  case round =>
    obtain ⟨k, hk, rfl, okr⟩ := hrel
    have OKR := Lib.hid okr
    have HOKR := Lib.hid (Ok.call oW okr)
    replace B0 := Ok.cell okr B0
    replace B1 := Ok.cell okr B1
    replace C0 := Ok.cell okr C0
    replace C1 := Ok.cell okr C1
    replace C2 := Ok.cell okr C2
    replace C3 := Ok.cell okr C3
    clear okr
    by_cases hlt : k = 0
    · subst hlt
      go_wp2_with fail
      go_quiet (fail)
      go_wp2
      · go_ret
        exact GrP.mk true rfl (fun h => by cases h) (Below.trans HOKR.out ⟨rfl, rfl, rfl, Nat.le_refl _, fun _ _ => rfl⟩)
      · refine ⟨⟨1, by decide, rfl, Below.trans OKR.out ⟨rfl, rfl, rfl, Nat.le_refl _, fun _ _ => rfl⟩⟩, ?_⟩
        decide
    by_cases hlt1 : k = 1
    · subst hlt1
      go_wp2_with fail
      go_quiet (fail)
      go_wp2
      · go_ret
        exact GrP.mk true rfl (fun h => by cases h) (Below.trans HOKR.out ⟨rfl, rfl, rfl, Nat.le_refl _, fun _ _ => rfl⟩)
      · refine ⟨⟨2, by decide, rfl, Below.trans OKR.out ⟨rfl, rfl, rfl, Nat.le_refl _, fun _ _ => rfl⟩⟩, ?_⟩
        decide
    · obtain rfl : k = 2 := by omega
      go_wp2_with fail
      refine (HO.out _ HOKR.out).mono ?_
      rintro _ w3 ⟨⟨r, rfl, hr⟩, o3⟩
      have HR := Lib.hid hr
      clear hr
      by_cases h4 : r ≤ 400
      · have d4 : decide (400 < r) = false := decide_eq_false (by omega)
        go_wp2
        go_ret
        exact GrP.mk false rfl (fun _ => HR.out h4) (Ok.call HOKR.out o3)
      · have d4 : decide (400 < r) = true := decide_eq_true (by omega)
        go_wp2
        go_ret
        exact GrP.mk true rfl (fun h => by cases h) (Ok.call HOKR.out o3)
end Go.Proofs.YtdabdkedgigjdaaGreat
namespace Go.Proofs.YtdabdkedgigjdaaGreat
open Go.RowKit
theorem turn_len2 (ep : Int) (xs : List Sh) (i : Sp) (g : Int) : (turnM ep xs i g).2.length ≤ 90000 := by
  unfold turnM
  split
  · split
    · simp
    · split
      · simp
      · split
        · simp
        · rename_i h1 h2
          simp only at *
          omega
  · simp
theorem step_both2 (ep : Int) (xs : List Sh) (x : Sc) (sto : Int) : ∃ k y ep' ys, (∀ w, StepQ w ep xs x sto = StepP w k y ep' ys) ∧ (∀ w, StepRQ w ep xs x sto = StepR w k y ep' ys) ∧ (xs.length ≤ 1000 → ys.length ≤ 90000) := by
  unfold StepQ StepRQ TurnP
  have t := turn_len2 ep xs x.sp x.«to»
  by_cases h1 : (scB x && sharesB ep xs) = false
  · exact ⟨_, _, _, _, fun w => by rw [if_pos h1], fun w => by rw [if_pos h1], fun _ => Nat.zero_le _⟩
  by_cases h2 : x.st = sto
  · exact ⟨_, _, _, _, fun w => by rw [if_neg h1, if_pos h2], fun w => by rw [if_neg h1, if_pos h2], fun h => by omega⟩
  by_cases h3 : goesB x.st sto = false
  · exact ⟨_, _, _, _, fun w => by rw [if_neg h1, if_neg h2, if_pos h3], fun w => by rw [if_neg h1, if_neg h2, if_pos h3], fun _ => Nat.zero_le _⟩
  by_cases h4 : sto = 4
  · by_cases h5 : turnK ep xs x = 0
    · exact ⟨_, _, _, _, fun w => by rw [if_neg h1, if_neg h2, if_neg h3, if_pos h4, if_pos h5], fun w => by rw [if_neg h1, if_neg h2, if_neg h3, if_pos h4, if_pos h5], fun _ => t⟩
    · exact ⟨_, _, _, _, fun w => by rw [if_neg h1, if_neg h2, if_neg h3, if_pos h4, if_neg h5], fun w => by rw [if_neg h1, if_neg h2, if_neg h3, if_pos h4, if_neg h5], fun _ => Nat.zero_le _⟩
  · exact ⟨_, _, _, _, fun w => by rw [if_neg h1, if_neg h2, if_neg h3, if_neg h4], fun w => by rw [if_neg h1, if_neg h2, if_neg h3, if_neg h4], fun h => by omega⟩
theorem front2 {w : World} {A : Option Addr} {xs zs : List Sh} (h : SharesAt w A (xs ++ zs)) : SharesAt w A xs := fun j hj => by
  have := h j (by rw [List.length_append]; omega)
  rwa [at2, List.getElem?_append_left hj] at this
theorem scs_two {w : World} {b : Nat} {x v : Sc} (h0 : ScIn w b 0 x) (h1 : ScIn w b 8 v) : ScsAt w (some ⟨b, 0, none⟩) [x, v] := fun j hj => by
  have hj2 : j < 2 := hj
  obtain rfl | rfl : j = 0 ∨ j = 1 := by omega
  · exact ⟨b, 0, rfl, h0⟩
  · exact ⟨b, 0, rfl, h1⟩
theorem scs_lit {w : World} {b : Nat} {num : Int} {lo hi : ByteArray} {fr tt xe un st vnum : Int} {vlo vhi : ByteArray} {vfr vto vxe vun vst : Int}
    (h0 : w.cell? ⟨b, 0, none⟩ = some (.int .i64 num)) (h1 : w.cell? ⟨b, 1, none⟩ = some (.string lo)) (h2 : w.cell? ⟨b, 2, none⟩ = some (.string hi)) (h3 : w.cell? ⟨b, 3, none⟩ = some (.int .i64 fr)) (h4 : w.cell? ⟨b, 4, none⟩ = some (.int .i64 tt)) (h5 : w.cell? ⟨b, 5, none⟩ = some (.int .i64 xe)) (h6 : w.cell? ⟨b, 6, none⟩ = some (.int .i64 un)) (h7 : w.cell? ⟨b, 7, none⟩ = some (.int .u8 st))
    (h8 : w.cell? ⟨b, 8, none⟩ = some (.int .i64 vnum)) (h9 : w.cell? ⟨b, 9, none⟩ = some (.string vlo)) (h10 : w.cell? ⟨b, 10, none⟩ = some (.string vhi)) (h11 : w.cell? ⟨b, 11, none⟩ = some (.int .i64 vfr)) (h12 : w.cell? ⟨b, 12, none⟩ = some (.int .i64 vto)) (h13 : w.cell? ⟨b, 13, none⟩ = some (.int .i64 vxe)) (h14 : w.cell? ⟨b, 14, none⟩ = some (.int .i64 vun)) (h15 : w.cell? ⟨b, 15, none⟩ = some (.int .u8 vst)) :
    ScsAt w (some ⟨b, 0, none⟩) [⟨num, ⟨lo, hi⟩, fr, tt, xe, un, st⟩, ⟨vnum, ⟨vlo, vhi⟩, vfr, vto, vxe, vun, vst⟩] :=
  scs_two ⟨h0, h1, h2, h3, h4, h5, h6, h7⟩ ⟨h8, h9, h10, h11, h12, h13, h14, h15⟩
theorem y8_at (w : World) (y : Sc) : Sc8 (w.alloc (.cells #[.int .i64 y.num, .string y.sp.lo, .string y.sp.hi, .int .i64 y.fr, .int .i64 y.«to», .int .i64 y.ep, .int .i64 y.un, .int .u8 y.st] 52)) w.heap.size y := by constructor <;> go_cell
theorem t2_at (w : World) (ep : Int) (A : Option Addr) (n c : Nat) : (w.alloc (.cells #[.int .i64 ep, .slice A n c] 24)).cell? ⟨w.heap.size, 0, none⟩ = some (.int .i64 ep) ∧ (w.alloc (.cells #[.int .i64 ep, .slice A n c] 24)).cell? ⟨w.heap.size, 1, none⟩ = some (.slice A n c) := by constructor <;> go_cell

set_option maxRecDepth 100000 in
set_option maxHeartbeats 4000000 in
theorem scTells_w (x : Sc) (ep : Int) (A : Option Addr) (n c : Nat) (xs : List Sh) (sto num2 : Int) (i : Sp) (t2 : Int) (hn : xs.length = n) (hs : Short xs) (hA0 : A = none → c = 0) (hl : x.sp.lo.size ≤ maxLen) (hh : x.sp.hi.size ≤ maxLen) (hl2 : i.lo.size ≤ maxLen) (hh2 : i.hi.size ≤ maxLen) (w : World) (hI : SharesAt w A xs) :
    Calls Tryz.prog 5 #[scV x, .agg #[.int .i64 ep, .slice A n c], .int .u8 sto, .int .i64 num2, spV i, .int .i64 t2] w (Ret w (.bool true)) := by
  have HI := Lib.hid hI
  have HN := Lib.hid hn
  have HGR := Lib.hid (fun g w' (k : Ok w w') h0 h1 h2 h3 => great2_w ep A n c g xs i x.sp hn hs hl2 hh2 hl hh w' (hI.ok k) h0 h1 h2 h3)
  have HOVA := Lib.hid (over_w x)
  have HOVB := Lib.hid (rover_w x)
  have HGOA := Lib.hid (goes_w x.st sto)
  have HGOB := Lib.hid (rgoes_w x.st sto)
  have HST := Lib.hid (fun A c (hn6 : xs.length ≤ 1000) (hnc : xs.length ≤ c) w hI => step_w x ep A c xs sto hn6 hnc w hI)
  have HRS := Lib.hid (fun A c (hn6 : xs.length ≤ 1000) w hI => rstep_w x ep A c xs sto hn6 w hI)
  have HBG := Lib.hid (fun A c (hn6 : xs.length ≤ 1000) (hnc : xs.length ≤ c) w hI => begin_w ep A c xs num2 i t2 hn6 hnc w hI)
  have HRB := Lib.hid (fun A c (hn6 : xs.length ≤ 1000) w hI => rbegin_w ep A c xs num2 i t2 hn6 w hI)
  obtain ⟨kc, y, ep', ys, hq1, hq2, hys⟩ := step_both2 ep xs x sto
  simp only [hq1] at HST
  simp only [hq2] at HRS
  have HSCA := Lib.hid (fun v g w' (h : ScsAt w' (some ⟨g, 0, none⟩) [x, v]) => scRight_w (some ⟨g, 0, none⟩) 2 2 [x, v] rfl (by decide) w' h)
  have HSCB := Lib.hid (fun v g w' (h : ScsAt w' (some ⟨g, 0, none⟩) [x, v]) => rscRight_w (some ⟨g, 0, none⟩) 2 2 [x, v] rfl (by decide) w' h)
  generalize begM ep xs num2 i t2 = bg at HBG HRB
  obtain ⟨bk, v⟩ := bg
  unfold BegP at HBG HRB
  simp only at HBG HRB
  rw [hn] at HST HRS HBG HRB
  clear hq1 hq2 hn hs hl hh hl2 hh2 hI
  generalize overB x.st = ov at HOVA HOVB
  generalize goesB x.st sto = go at HGOA HGOB
  have HSCA := Lib.hid (HSCA.out v)
  have HSCB := Lib.hid (HSCB.out v)
  generalize [x, v].all scB = sr at HSCA HSCB
  unfold StepP at HST
  unfold StepR at HRS
  obtain ⟨m, hm⟩ : ∃ m, ys.length = m := ⟨_, rfl⟩
  rw [hm] at HST HRS
  have HM := Lib.hid hm
  have HMB : Hid (n ≤ 1000 → m ≤ 90000) := Lib.hid (fun h => by rw [← hm]; exact hys (by rw [HN.out]; exact h))
  clear hm hys
  obtain ⟨num, ⟨lo, hi⟩, fr, tt, xe, un, st⟩ := x
  obtain ⟨ynum, ⟨ylo, yhi⟩, yfr, yto, yxe, yun, yst⟩ := y
  obtain ⟨vnum, ⟨vlo, vhi⟩, vfr, vto, vxe, vun, vst⟩ := v
  obtain ⟨il, ih⟩ := i
  unfold scV spV at *
  simp only at HGR HOVA HOVB HGOA HGOB HST HRS HBG HRB HSCA HSCB ⊢
  obtain ⟨p, hp⟩ : ∃ p, w.heap.size = p := ⟨_, rfl⟩
  go_enter Tryz.func5, Tryz.ntmps5
  go_wp2_with fail
  generalize hW : ((w.alloc (.cells #[.int .i64 num, .string lo, .string hi, .int .i64 fr, .int .i64 tt, .int .i64 xe, .int .i64 un, .int .u8 st] 52)).alloc (.cells #[.int .i64 ep, .slice A n c] 24)).alloc (.cells #[.string il, .string ih] 26) = W
  have oW : Ok w W := by subst hW; exact Ok.alloc (Ok.alloc (Ok.alloc (Ok.refl w) _) _) _
  obtain ⟨X0, X1, X2, X3, X4, X5, X6, X7⟩ : Sc8 W p ⟨num, ⟨lo, hi⟩, fr, tt, xe, un, st⟩ := by subst hW; subst hp; constructor <;> go_cell
  simp only at X0 X1 X2 X3 X4 X5 X6 X7
  have B0 : W.cell? ⟨p + 1, 0, none⟩ = some (.int .i64 ep) := by subst hW; subst hp; go_cell
  have B1 : W.cell? ⟨p + 1, 1, none⟩ = some (.slice A n c) := by subst hW; subst hp; go_cell
  have J0 : W.cell? ⟨p + 1 + 1, 0, none⟩ = some (.string il) := by subst hW; subst hp; go_cell
  have J1 : W.cell? ⟨p + 1 + 1, 1, none⟩ = some (.string ih) := by subst hW; subst hp; go_cell
  (try simp only [hp])
  clear hW hp
  (with_reducible refine (awake20_w W).mono ?_)
  rintro _ w1 ⟨rfl, o1⟩
  replace B0 := Ok.cell o1 B0; replace B1 := Ok.cell o1 B1; replace J0 := Ok.cell o1 J0; replace J1 := Ok.cell o1 J1; replace X0 := Ok.cell o1 X0; replace X1 := Ok.cell o1 X1; replace X2 := Ok.cell o1 X2; replace X3 := Ok.cell o1 X3; replace X4 := Ok.cell o1 X4; replace X5 := Ok.cell o1 X5; replace X6 := Ok.cell o1 X6; replace X7 := Ok.cell o1 X7
  have OK1 := Lib.hid (Ok.call oW o1)
  clear o1 oW
  go_wp2_with fail
  obtain ⟨g1, hg1⟩ : ∃ g, w1.heap.size = g := ⟨_, rfl⟩
  have hz : ((w1.alloc (.cells #[.string il, .string ih, .string lo, .string hi] 26)).cell? ⟨g1, 0, none⟩ = some (.string il) ∧ (w1.alloc (.cells #[.string il, .string ih, .string lo, .string hi] 26)).cell? ⟨g1, 1, none⟩ = some (.string ih)) ∧ (w1.alloc (.cells #[.string il, .string ih, .string lo, .string hi] 26)).cell? ⟨g1, 2, none⟩ = some (.string lo) ∧ (w1.alloc (.cells #[.string il, .string ih, .string lo, .string hi] 26)).cell? ⟨g1, 3, none⟩ = some (.string hi) := by
    subst hg1
    exact ⟨⟨by go_cell, by go_cell⟩, by go_cell, by go_cell⟩
  have o2 : Ok w1 (w1.alloc (.cells #[.string il, .string ih, .string lo, .string hi] 26)) := Ok.alloc (Ok.refl w1) _
  rw [hg1]
  generalize w1.alloc (.cells #[.string il, .string ih, .string lo, .string hi] 26) = W2 at hz o2 ⊢
  have OK2 := Lib.hid (Ok.call OK1.out o2)
  (with_reducible refine (HGR.out g1 W2 OK2.out hz.1.1 hz.1.2 hz.2.1 hz.2.2).mono ?_)
  rintro _ w2 ⟨⟨r, rfl, hr⟩, o3⟩
  have HR := Lib.hid hr
  have o23 : Ok w1 w2 := Ok.call o2 o3
  replace B0 := Ok.cell o23 B0; replace B1 := Ok.cell o23 B1; replace J0 := Ok.cell o23 J0; replace J1 := Ok.cell o23 J1; replace X0 := Ok.cell o23 X0; replace X1 := Ok.cell o23 X1; replace X2 := Ok.cell o23 X2; replace X3 := Ok.cell o23 X3; replace X4 := Ok.cell o23 X4; replace X5 := Ok.cell o23 X5; replace X6 := Ok.cell o23 X6; replace X7 := Ok.cell o23 X7
  have OK3 := Lib.hid (Ok.call OK1.out o23)
  clear hr o2 o3 o23 hz hg1 OK1 OK2 HGR
  cases r with
  | true =>
    go_wp2
    go_ret
    exact ⟨rfl, OK3.out⟩
  | false =>
  have hn4 : n ≤ 400 := HR.out rfl
  clear HR
  have hlt := lentShares_w ep A n c xs HN.out (by omega) w2 (HI.out.ok OK3.out) hA0
  unfold LentP at hlt
  rw [HN.out] at hlt
  have HLT := Lib.hid hlt
  clear hlt
  go_wp2_with fail
  (with_reducible refine HLT.out.mono ?_)
  rintro _ w4 ⟨gx, cx, rfl, hcx, hgx, hgx4, o4, hatx⟩
  have HAX := Lib.hid hatx
  have HGX := Lib.hid (And.intro hgx (And.intro hgx4 hcx))
  replace B0 := Ok.cell o4 B0; replace B1 := Ok.cell o4 B1; replace J0 := Ok.cell o4 J0; replace J1 := Ok.cell o4 J1; replace X0 := Ok.cell o4 X0; replace X1 := Ok.cell o4 X1; replace X2 := Ok.cell o4 X2; replace X3 := Ok.cell o4 X3; replace X4 := Ok.cell o4 X4; replace X5 := Ok.cell o4 X5; replace X6 := Ok.cell o4 X6; replace X7 := Ok.cell o4 X7
  have OK4 := Lib.hid (Ok.call OK3.out o4)
  clear hatx hgx hgx4 hcx o4 HLT OK3
  go_upto_region 6 with fail
  obtain ⟨px, hpx⟩ : ∃ q, w4.heap.size = q := ⟨_, rfl⟩
  have HX := t2_at w4 ep (some ⟨gx, 0, none⟩) n cx
  rw [hpx] at HX ⊢
  have oa := Ok.alloc (Ok.refl w4) (.cells #[.int .i64 ep, .slice (some ⟨gx, 0, none⟩) n cx] 24)
  generalize w4.alloc (.cells #[.int .i64 ep, .slice (some ⟨gx, 0, none⟩) n cx] 24) = V4 at HX oa ⊢
  replace B0 := Ok.cell oa B0; replace B1 := Ok.cell oa B1; replace J0 := Ok.cell oa J0; replace J1 := Ok.cell oa J1; replace X0 := Ok.cell oa X0; replace X1 := Ok.cell oa X1; replace X2 := Ok.cell oa X2; replace X3 := Ok.cell oa X3; replace X4 := Ok.cell oa X4; replace X5 := Ok.cell oa X5; replace X6 := Ok.cell oa X6; replace X7 := Ok.cell oa X7
  obtain ⟨P0, P1⟩ := HX
  have OKV4 := Lib.hid (Ok.call OK4.out oa)
  have HAXV := Lib.hid (HAX.out.ok oa)
  have HP4 := Lib.hid (And.intro (And.intro B0 B1) (And.intro P0 P1))
  clear oa OK4 HAX
  have HXS : Hid (∀ w', Ok V4 w' → SharesAt w' (some ⟨gx, 0, none⟩) xs ∧ SharesAt w' A xs) := Lib.hid fun w' k => ⟨(front2 HAXV.out).ok k, HI.out.ok (Ok.call OKV4.out k)⟩
  have HSTA := Lib.hid (fun w' (k : Ok V4 w') => HST.out (some ⟨gx, 0, none⟩) cx (by omega) (by have := HGX.out; omega) w' (HXS.out w' k).1)
  have HRSA := Lib.hid (fun w' (k : Ok V4 w') => HRS.out A c (by omega) w' (HXS.out w' k).2)
  have HBGA := Lib.hid (fun w' (k : Ok V4 w') => HBG.out (some ⟨gx, 0, none⟩) cx (by omega) (by have := HGX.out; omega) w' (HXS.out w' k).1)
  have HRBA := Lib.hid (fun w' (k : Ok V4 w') => HRB.out A c (by omega) w' (HXS.out w' k).2)
  clear HST HRS HBG HRB
  -- a, b
  go_wp2_with fail
  (with_reducible refine (HSTA.out V4 (Ok.refl _)).mono ?_)
  rintro _ w5 ⟨A5, c5, rfl, hown5, o5⟩
  obtain ⟨pv, hpv⟩ : ∃ q, V4.heap.size = q := ⟨_, rfl⟩
  have HO5 := Lib.hid hown5
  replace B0 := Ok.cell o5 B0; replace B1 := Ok.cell o5 B1; replace J0 := Ok.cell o5 J0; replace J1 := Ok.cell o5 J1; replace X0 := Ok.cell o5 X0; replace X1 := Ok.cell o5 X1; replace X2 := Ok.cell o5 X2; replace X3 := Ok.cell o5 X3; replace X4 := Ok.cell o5 X4; replace X5 := Ok.cell o5 X5; replace X6 := Ok.cell o5 X6; replace X7 := Ok.cell o5 X7; replace P0 := Ok.cell o5 P0; replace P1 := Ok.cell o5 P1
  clear hown5 HSTA
  go_upto_region 7 with fail
  obtain ⟨pa, hpa⟩ : ∃ q, w5.heap.size = q := ⟨_, rfl⟩
  have hya := y8_at w5 ⟨ynum, ⟨ylo, yhi⟩, yfr, yto, yxe, yun, yst⟩
  simp only at hya
  have hta := t2_at (w5.alloc (.cells #[.int .i64 ynum, .string ylo, .string yhi, .int .i64 yfr, .int .i64 yto, .int .i64 yxe, .int .i64 yun, .int .u8 yst] 52)) ep' A5 m c5
  have hz : (w5.alloc (.cells #[.int .i64 ynum, .string ylo, .string yhi, .int .i64 yfr, .int .i64 yto, .int .i64 yxe, .int .i64 yun, .int .u8 yst] 52)).heap.size = pa + 1 := by subst hpa; simp
  rw [hz] at hta
  rw [hpa] at hya
  try rw [hz]
  try rw [hpa]
  have oa := Ok.alloc (Ok.refl (w5.alloc (.cells #[.int .i64 ynum, .string ylo, .string yhi, .int .i64 yfr, .int .i64 yto, .int .i64 yxe, .int .i64 yun, .int .u8 yst] 52))) (.cells #[.int .i64 ep', .slice A5 m c5] 24)
  have ob : Ok w5 ((w5.alloc (.cells #[.int .i64 ynum, .string ylo, .string yhi, .int .i64 yfr, .int .i64 yto, .int .i64 yxe, .int .i64 yun, .int .u8 yst] 52)).alloc (.cells #[.int .i64 ep', .slice A5 m c5] 24)) := Ok.alloc (Ok.alloc (Ok.refl _) _) _
  replace hya := hya.ok oa
  clear oa hz
  generalize (w5.alloc (.cells #[.int .i64 ynum, .string ylo, .string yhi, .int .i64 yfr, .int .i64 yto, .int .i64 yxe, .int .i64 yun, .int .u8 yst] 52)).alloc (.cells #[.int .i64 ep', .slice A5 m c5] 24) = V5 at hya hta ob ⊢
  replace B0 := Ok.cell ob B0; replace B1 := Ok.cell ob B1; replace J0 := Ok.cell ob J0; replace J1 := Ok.cell ob J1; replace X0 := Ok.cell ob X0; replace X1 := Ok.cell ob X1; replace X2 := Ok.cell ob X2; replace X3 := Ok.cell ob X3; replace X4 := Ok.cell ob X4; replace X5 := Ok.cell ob X5; replace X6 := Ok.cell ob X6; replace X7 := Ok.cell ob X7; replace P0 := Ok.cell ob P0; replace P1 := Ok.cell ob P1
  have OKV5 := Lib.hid (Ok.call o5 ob)
  have HO5 := Lib.hid (HO5.out.ok ob)
  have HYA := Lib.hid hya
  have HTA := Lib.hid hta
  clear hya hta ob o5
  -- c, d
  go_wp2_with fail
  (with_reducible refine (HRSA.out V5 OKV5.out).mono ?_)
  rintro _ w6 ⟨A6, c6, rfl, hat6, o6⟩
  replace B0 := Ok.cell o6 B0; replace B1 := Ok.cell o6 B1; replace J0 := Ok.cell o6 J0; replace J1 := Ok.cell o6 J1; replace X0 := Ok.cell o6 X0; replace X1 := Ok.cell o6 X1; replace X2 := Ok.cell o6 X2; replace X3 := Ok.cell o6 X3; replace X4 := Ok.cell o6 X4; replace X5 := Ok.cell o6 X5; replace X6 := Ok.cell o6 X6; replace X7 := Ok.cell o6 X7; replace P0 := Ok.cell o6 P0; replace P1 := Ok.cell o6 P1
  clear HRSA
  go_upto_region 8 with fail
  obtain ⟨pb, hpb⟩ : ∃ q, w6.heap.size = q := ⟨_, rfl⟩
  have hya := y8_at w6 ⟨ynum, ⟨ylo, yhi⟩, yfr, yto, yxe, yun, yst⟩
  simp only at hya
  have hta := t2_at (w6.alloc (.cells #[.int .i64 ynum, .string ylo, .string yhi, .int .i64 yfr, .int .i64 yto, .int .i64 yxe, .int .i64 yun, .int .u8 yst] 52)) ep' A6 m c6
  have hz : (w6.alloc (.cells #[.int .i64 ynum, .string ylo, .string yhi, .int .i64 yfr, .int .i64 yto, .int .i64 yxe, .int .i64 yun, .int .u8 yst] 52)).heap.size = pb + 1 := by subst hpb; simp
  rw [hz] at hta
  rw [hpb] at hya
  try rw [hz]
  try rw [hpb]
  have oa := Ok.alloc (Ok.refl (w6.alloc (.cells #[.int .i64 ynum, .string ylo, .string yhi, .int .i64 yfr, .int .i64 yto, .int .i64 yxe, .int .i64 yun, .int .u8 yst] 52))) (.cells #[.int .i64 ep', .slice A6 m c6] 24)
  have ob : Ok w6 ((w6.alloc (.cells #[.int .i64 ynum, .string ylo, .string yhi, .int .i64 yfr, .int .i64 yto, .int .i64 yxe, .int .i64 yun, .int .u8 yst] 52)).alloc (.cells #[.int .i64 ep', .slice A6 m c6] 24)) := Ok.alloc (Ok.alloc (Ok.refl _) _) _
  replace hya := hya.ok oa
  clear oa hz
  generalize (w6.alloc (.cells #[.int .i64 ynum, .string ylo, .string yhi, .int .i64 yfr, .int .i64 yto, .int .i64 yxe, .int .i64 yun, .int .u8 yst] 52)).alloc (.cells #[.int .i64 ep', .slice A6 m c6] 24) = V6 at hya hta ob ⊢
  replace B0 := Ok.cell ob B0; replace B1 := Ok.cell ob B1; replace J0 := Ok.cell ob J0; replace J1 := Ok.cell ob J1; replace X0 := Ok.cell ob X0; replace X1 := Ok.cell ob X1; replace X2 := Ok.cell ob X2; replace X3 := Ok.cell ob X3; replace X4 := Ok.cell ob X4; replace X5 := Ok.cell ob X5; replace X6 := Ok.cell ob X6; replace X7 := Ok.cell ob X7; replace P0 := Ok.cell ob P0; replace P1 := Ok.cell ob P1
  have o56 := Ok.call o6 ob
  have OKV6 := Lib.hid (Ok.call OKV5.out o56)
  have HO5 := Lib.hid (HO5.out.ok o56)
  have HA6 := Lib.hid (hat6.ok ob)
  have HYA := Lib.hid (HYA.out.ok o56)
  have HTA := Lib.hid (And.intro (Ok.cell o56 HTA.out.1) (Ok.cell o56 HTA.out.2))
  have HYB := Lib.hid hya
  have HTB := Lib.hid hta
  clear hya hta ob o6 o56 hat6 OKV5
  -- y, z
  go_wp2_with fail
  (with_reducible refine (HBGA.out V6 OKV6.out).mono ?_)
  rintro _ w7 ⟨rfl, o7⟩
  replace B0 := Ok.cell o7 B0; replace B1 := Ok.cell o7 B1; replace J0 := Ok.cell o7 J0; replace J1 := Ok.cell o7 J1; replace X0 := Ok.cell o7 X0; replace X1 := Ok.cell o7 X1; replace X2 := Ok.cell o7 X2; replace X3 := Ok.cell o7 X3; replace X4 := Ok.cell o7 X4; replace X5 := Ok.cell o7 X5; replace X6 := Ok.cell o7 X6; replace X7 := Ok.cell o7 X7; replace P0 := Ok.cell o7 P0; replace P1 := Ok.cell o7 P1
  clear HBGA
  go_upto_region 9 with fail
  obtain ⟨pc, hpc⟩ : ∃ q, w7.heap.size = q := ⟨_, rfl⟩
  have hyc := y8_at w7 ⟨vnum, ⟨vlo, vhi⟩, vfr, vto, vxe, vun, vst⟩
  simp only at hyc
  rw [hpc] at hyc ⊢
  have oa := Ok.alloc (Ok.refl w7) (.cells #[.int .i64 vnum, .string vlo, .string vhi, .int .i64 vfr, .int .i64 vto, .int .i64 vxe, .int .i64 vun, .int .u8 vst] 52)
  generalize w7.alloc (.cells #[.int .i64 vnum, .string vlo, .string vhi, .int .i64 vfr, .int .i64 vto, .int .i64 vxe, .int .i64 vun, .int .u8 vst] 52) = V7 at hyc oa ⊢
  replace B0 := Ok.cell oa B0; replace B1 := Ok.cell oa B1; replace J0 := Ok.cell oa J0; replace J1 := Ok.cell oa J1; replace X0 := Ok.cell oa X0; replace X1 := Ok.cell oa X1; replace X2 := Ok.cell oa X2; replace X3 := Ok.cell oa X3; replace X4 := Ok.cell oa X4; replace X5 := Ok.cell oa X5; replace X6 := Ok.cell oa X6; replace X7 := Ok.cell oa X7; replace P0 := Ok.cell oa P0; replace P1 := Ok.cell oa P1
  have o67 := Ok.call o7 oa
  have OKV7 := Lib.hid (Ok.call OKV6.out o67)
  have HO5 := Lib.hid (HO5.out.ok o67)
  have HA6 := Lib.hid (HA6.out.ok o67)
  have HYA := Lib.hid (HYA.out.ok o67)
  have HYB := Lib.hid (HYB.out.ok o67)
  have HTA := Lib.hid (And.intro (Ok.cell o67 HTA.out.1) (Ok.cell o67 HTA.out.2))
  have HTB := Lib.hid (And.intro (Ok.cell o67 HTB.out.1) (Ok.cell o67 HTB.out.2))
  have HYC := Lib.hid hyc
  clear hyc oa o7 o67 OKV6
  go_wp2_with fail
  (with_reducible refine (HRBA.out V7 OKV7.out).mono ?_)
  rintro _ w8 ⟨rfl, o8⟩
  replace B0 := Ok.cell o8 B0; replace B1 := Ok.cell o8 B1; replace J0 := Ok.cell o8 J0; replace J1 := Ok.cell o8 J1; replace X0 := Ok.cell o8 X0; replace X1 := Ok.cell o8 X1; replace X2 := Ok.cell o8 X2; replace X3 := Ok.cell o8 X3; replace X4 := Ok.cell o8 X4; replace X5 := Ok.cell o8 X5; replace X6 := Ok.cell o8 X6; replace X7 := Ok.cell o8 X7; replace P0 := Ok.cell o8 P0; replace P1 := Ok.cell o8 P1
  clear HRBA
  go_upto_region 10 with fail
  obtain ⟨pd, hpd⟩ : ∃ q, w8.heap.size = q := ⟨_, rfl⟩
  have hyd := y8_at w8 ⟨vnum, ⟨vlo, vhi⟩, vfr, vto, vxe, vun, vst⟩
  simp only at hyd
  rw [hpd] at hyd ⊢
  have oa := Ok.alloc (Ok.refl w8) (.cells #[.int .i64 vnum, .string vlo, .string vhi, .int .i64 vfr, .int .i64 vto, .int .i64 vxe, .int .i64 vun, .int .u8 vst] 52)
  generalize w8.alloc (.cells #[.int .i64 vnum, .string vlo, .string vhi, .int .i64 vfr, .int .i64 vto, .int .i64 vxe, .int .i64 vun, .int .u8 vst] 52) = V8 at hyd oa ⊢
  replace B0 := Ok.cell oa B0; replace B1 := Ok.cell oa B1; replace J0 := Ok.cell oa J0; replace J1 := Ok.cell oa J1; replace X0 := Ok.cell oa X0; replace X1 := Ok.cell oa X1; replace X2 := Ok.cell oa X2; replace X3 := Ok.cell oa X3; replace X4 := Ok.cell oa X4; replace X5 := Ok.cell oa X5; replace X6 := Ok.cell oa X6; replace X7 := Ok.cell oa X7; replace P0 := Ok.cell oa P0; replace P1 := Ok.cell oa P1
  have o78 := Ok.call o8 oa
  have OKV8 := Lib.hid (Ok.call OKV7.out o78)
  have HO5 := Lib.hid (HO5.out.ok o78)
  have HA6 := Lib.hid (HA6.out.ok o78)
  obtain ⟨D0, D1⟩ := And.intro (Ok.cell o78 HTA.out.1) (Ok.cell o78 HTA.out.2)
  obtain ⟨E0, E1⟩ := And.intro (Ok.cell o78 HTB.out.1) (Ok.cell o78 HTB.out.2)
  obtain ⟨Y0, Y1, Y2, Y3, Y4, Y5, Y6, Y7⟩ := HYA.out.ok o78
  obtain ⟨Z0, Z1, Z2, Z3, Z4, Z5, Z6, Z7⟩ := HYB.out.ok o78
  obtain ⟨M0, M1, M2, M3, M4, M5, M6, M7⟩ := HYC.out.ok o78
  obtain ⟨N0, N1, N2, N3, N4, N5, N6, N7⟩ := hyd
  simp only at Y0 Y1 Y2 Y3 Y4 Y5 Y6 Y7 Z0 Z1 Z2 Z3 Z4 Z5 Z6 Z7 M0 M1 M2 M3 M4 M5 M6 M7 N0 N1 N2 N3 N4 N5 N6 N7
  clear oa o8 o78 OKV7 HYA HYB HYC HTA HTB J0 J1
  have HSS := Lib.hid (fun w' (k : Ok V8 w') => sameShares_w ep' A5 A6 m c5 c6 ys HM.out (by have := HMB.out (by omega); omega) w' (HO5.out.at.ok k) (HA6.out.ok k))
  have HSQ := Lib.hid fun w' (k' : Ok V8 w') => show w'.cell? ⟨p, 0, none⟩ = some (.int .i64 num) ∧ w'.cell? ⟨p, 1, none⟩ = some (.string lo) ∧ w'.cell? ⟨p, 2, none⟩ = some (.string hi) ∧ w'.cell? ⟨p, 3, none⟩ = some (.int .i64 fr) ∧ w'.cell? ⟨p, 4, none⟩ = some (.int .i64 tt) ∧ w'.cell? ⟨p, 5, none⟩ = some (.int .i64 xe) ∧ w'.cell? ⟨p, 6, none⟩ = some (.int .i64 un) ∧ w'.cell? ⟨p, 7, none⟩ = some (.int .u8 st) ∧ w'.cell? ⟨pa, 0, none⟩ = some (.int .i64 ynum) ∧ w'.cell? ⟨pa, 1, none⟩ = some (.string ylo) ∧ w'.cell? ⟨pa, 2, none⟩ = some (.string yhi) ∧ w'.cell? ⟨pa, 3, none⟩ = some (.int .i64 yfr) ∧ w'.cell? ⟨pa, 4, none⟩ = some (.int .i64 yto) ∧ w'.cell? ⟨pa, 5, none⟩ = some (.int .i64 yxe) ∧ w'.cell? ⟨pa, 6, none⟩ = some (.int .i64 yun) ∧ w'.cell? ⟨pa, 7, none⟩ = some (.int .u8 yst) ∧ w'.cell? ⟨pb, 0, none⟩ = some (.int .i64 ynum) ∧ w'.cell? ⟨pb, 1, none⟩ = some (.string ylo) ∧ w'.cell? ⟨pb, 2, none⟩ = some (.string yhi) ∧ w'.cell? ⟨pb, 3, none⟩ = some (.int .i64 yfr) ∧ w'.cell? ⟨pb, 4, none⟩ = some (.int .i64 yto) ∧ w'.cell? ⟨pb, 5, none⟩ = some (.int .i64 yxe) ∧ w'.cell? ⟨pb, 6, none⟩ = some (.int .i64 yun) ∧ w'.cell? ⟨pb, 7, none⟩ = some (.int .u8 yst) ∧ w'.cell? ⟨pc, 0, none⟩ = some (.int .i64 vnum) ∧ w'.cell? ⟨pc, 1, none⟩ = some (.string vlo) ∧ w'.cell? ⟨pc, 2, none⟩ = some (.string vhi) ∧ w'.cell? ⟨pc, 3, none⟩ = some (.int .i64 vfr) ∧ w'.cell? ⟨pc, 4, none⟩ = some (.int .i64 vto) ∧ w'.cell? ⟨pc, 5, none⟩ = some (.int .i64 vxe) ∧ w'.cell? ⟨pc, 6, none⟩ = some (.int .i64 vun) ∧ w'.cell? ⟨pc, 7, none⟩ = some (.int .u8 vst) ∧ w'.cell? ⟨pd, 0, none⟩ = some (.int .i64 vnum) ∧ w'.cell? ⟨pd, 1, none⟩ = some (.string vlo) ∧ w'.cell? ⟨pd, 2, none⟩ = some (.string vhi) ∧ w'.cell? ⟨pd, 3, none⟩ = some (.int .i64 vfr) ∧ w'.cell? ⟨pd, 4, none⟩ = some (.int .i64 vto) ∧ w'.cell? ⟨pd, 5, none⟩ = some (.int .i64 vxe) ∧ w'.cell? ⟨pd, 6, none⟩ = some (.int .i64 vun) ∧ w'.cell? ⟨pd, 7, none⟩ = some (.int .u8 vst) ∧ w'.cell? ⟨pa + 1, 0, none⟩ = some (.int .i64 ep') ∧ w'.cell? ⟨pa + 1, 1, none⟩ = some (.slice A5 m c5) ∧ w'.cell? ⟨pb + 1, 0, none⟩ = some (.int .i64 ep') ∧ w'.cell? ⟨pb + 1, 1, none⟩ = some (.slice A6 m c6) ∧ OkS V8 w' from ⟨Ok.cell k' X0, Ok.cell k' X1, Ok.cell k' X2, Ok.cell k' X3, Ok.cell k' X4, Ok.cell k' X5, Ok.cell k' X6, Ok.cell k' X7, Ok.cell k' Y0, Ok.cell k' Y1, Ok.cell k' Y2, Ok.cell k' Y3, Ok.cell k' Y4, Ok.cell k' Y5, Ok.cell k' Y6, Ok.cell k' Y7, Ok.cell k' Z0, Ok.cell k' Z1, Ok.cell k' Z2, Ok.cell k' Z3, Ok.cell k' Z4, Ok.cell k' Z5, Ok.cell k' Z6, Ok.cell k' Z7, Ok.cell k' M0, Ok.cell k' M1, Ok.cell k' M2, Ok.cell k' M3, Ok.cell k' M4, Ok.cell k' M5, Ok.cell k' M6, Ok.cell k' M7, Ok.cell k' N0, Ok.cell k' N1, Ok.cell k' N2, Ok.cell k' N3, Ok.cell k' N4, Ok.cell k' N5, Ok.cell k' N6, Ok.cell k' N7, Ok.cell k' D0, Ok.cell k' D1, Ok.cell k' E0, Ok.cell k' E1, k'⟩
  go_cut [118] from 66 to 118 (fun v wx => v = .bool false ∧ Ok V8 wx)
  case first =>
    go_region_held3 (fun w' => w'.cell? ⟨p, 0, none⟩ = some (.int .i64 num) ∧ w'.cell? ⟨p, 1, none⟩ = some (.string lo) ∧ w'.cell? ⟨p, 2, none⟩ = some (.string hi) ∧ w'.cell? ⟨p, 3, none⟩ = some (.int .i64 fr) ∧ w'.cell? ⟨p, 4, none⟩ = some (.int .i64 tt) ∧ w'.cell? ⟨p, 5, none⟩ = some (.int .i64 xe) ∧ w'.cell? ⟨p, 6, none⟩ = some (.int .i64 un) ∧ w'.cell? ⟨p, 7, none⟩ = some (.int .u8 st) ∧ w'.cell? ⟨pa, 0, none⟩ = some (.int .i64 ynum) ∧ w'.cell? ⟨pa, 1, none⟩ = some (.string ylo) ∧ w'.cell? ⟨pa, 2, none⟩ = some (.string yhi) ∧ w'.cell? ⟨pa, 3, none⟩ = some (.int .i64 yfr) ∧ w'.cell? ⟨pa, 4, none⟩ = some (.int .i64 yto) ∧ w'.cell? ⟨pa, 5, none⟩ = some (.int .i64 yxe) ∧ w'.cell? ⟨pa, 6, none⟩ = some (.int .i64 yun) ∧ w'.cell? ⟨pa, 7, none⟩ = some (.int .u8 yst) ∧ w'.cell? ⟨pb, 0, none⟩ = some (.int .i64 ynum) ∧ w'.cell? ⟨pb, 1, none⟩ = some (.string ylo) ∧ w'.cell? ⟨pb, 2, none⟩ = some (.string yhi) ∧ w'.cell? ⟨pb, 3, none⟩ = some (.int .i64 yfr) ∧ w'.cell? ⟨pb, 4, none⟩ = some (.int .i64 yto) ∧ w'.cell? ⟨pb, 5, none⟩ = some (.int .i64 yxe) ∧ w'.cell? ⟨pb, 6, none⟩ = some (.int .i64 yun) ∧ w'.cell? ⟨pb, 7, none⟩ = some (.int .u8 yst) ∧ w'.cell? ⟨pc, 0, none⟩ = some (.int .i64 vnum) ∧ w'.cell? ⟨pc, 1, none⟩ = some (.string vlo) ∧ w'.cell? ⟨pc, 2, none⟩ = some (.string vhi) ∧ w'.cell? ⟨pc, 3, none⟩ = some (.int .i64 vfr) ∧ w'.cell? ⟨pc, 4, none⟩ = some (.int .i64 vto) ∧ w'.cell? ⟨pc, 5, none⟩ = some (.int .i64 vxe) ∧ w'.cell? ⟨pc, 6, none⟩ = some (.int .i64 vun) ∧ w'.cell? ⟨pc, 7, none⟩ = some (.int .u8 vst) ∧ w'.cell? ⟨pd, 0, none⟩ = some (.int .i64 vnum) ∧ w'.cell? ⟨pd, 1, none⟩ = some (.string vlo) ∧ w'.cell? ⟨pd, 2, none⟩ = some (.string vhi) ∧ w'.cell? ⟨pd, 3, none⟩ = some (.int .i64 vfr) ∧ w'.cell? ⟨pd, 4, none⟩ = some (.int .i64 vto) ∧ w'.cell? ⟨pd, 5, none⟩ = some (.int .i64 vxe) ∧ w'.cell? ⟨pd, 6, none⟩ = some (.int .i64 vun) ∧ w'.cell? ⟨pd, 7, none⟩ = some (.int .u8 vst) ∧ w'.cell? ⟨pa + 1, 0, none⟩ = some (.int .i64 ep') ∧ w'.cell? ⟨pa + 1, 1, none⟩ = some (.slice A5 m c5) ∧ w'.cell? ⟨pb + 1, 0, none⟩ = some (.int .i64 ep') ∧ w'.cell? ⟨pb + 1, 1, none⟩ = some (.slice A6 m c6) ∧ OkS V8 w')
      ((refine HSQ.out _ ?_; (repeat (first | (with_reducible exact Ok.refl _) | (with_reducible assumption) | (with_reducible refine Ok.drew ?_) | (with_reducible refine Ok.alloc ?_ _) | (with_reducible refine Ok.trans' ?_ (by assumption))))))
      (first
        | (go_at_call 17; (with_reducible refine (HSS.out _ (by (repeat (first | (with_reducible exact Ok.refl _) | (with_reducible assumption) | (with_reducible refine Ok.drew ?_) | (with_reducible refine Ok.alloc ?_ _) | (with_reducible refine Ok.trans' ?_ (by assumption)))))).mono ?_); rintro e wa ⟨rfl, oa⟩)
        | (go_at_call 33; (with_reducible refine (HSCA.out _ _ (scs_lit (by first | go_cell | (refine Ok.cell (by assumption) ?_; go_cell)) (by first | go_cell | (refine Ok.cell (by assumption) ?_; go_cell)) (by first | go_cell | (refine Ok.cell (by assumption) ?_; go_cell)) (by first | go_cell | (refine Ok.cell (by assumption) ?_; go_cell)) (by first | go_cell | (refine Ok.cell (by assumption) ?_; go_cell)) (by first | go_cell | (refine Ok.cell (by assumption) ?_; go_cell)) (by first | go_cell | (refine Ok.cell (by assumption) ?_; go_cell)) (by first | go_cell | (refine Ok.cell (by assumption) ?_; go_cell)) (by first | go_cell | (refine Ok.cell (by assumption) ?_; go_cell)) (by first | go_cell | (refine Ok.cell (by assumption) ?_; go_cell)) (by first | go_cell | (refine Ok.cell (by assumption) ?_; go_cell)) (by first | go_cell | (refine Ok.cell (by assumption) ?_; go_cell)) (by first | go_cell | (refine Ok.cell (by assumption) ?_; go_cell)) (by first | go_cell | (refine Ok.cell (by assumption) ?_; go_cell)) (by first | go_cell | (refine Ok.cell (by assumption) ?_; go_cell)) (by first | go_cell | (refine Ok.cell (by assumption) ?_; go_cell)))).mono ?_); rintro e wb ⟨rfl, ob⟩)
        | (go_at_call 34; (with_reducible refine (HSCB.out _ _ (scs_lit (by first | go_cell | (refine Ok.cell (by assumption) ?_; go_cell)) (by first | go_cell | (refine Ok.cell (by assumption) ?_; go_cell)) (by first | go_cell | (refine Ok.cell (by assumption) ?_; go_cell)) (by first | go_cell | (refine Ok.cell (by assumption) ?_; go_cell)) (by first | go_cell | (refine Ok.cell (by assumption) ?_; go_cell)) (by first | go_cell | (refine Ok.cell (by assumption) ?_; go_cell)) (by first | go_cell | (refine Ok.cell (by assumption) ?_; go_cell)) (by first | go_cell | (refine Ok.cell (by assumption) ?_; go_cell)) (by first | go_cell | (refine Ok.cell (by assumption) ?_; go_cell)) (by first | go_cell | (refine Ok.cell (by assumption) ?_; go_cell)) (by first | go_cell | (refine Ok.cell (by assumption) ?_; go_cell)) (by first | go_cell | (refine Ok.cell (by assumption) ?_; go_cell)) (by first | go_cell | (refine Ok.cell (by assumption) ?_; go_cell)) (by first | go_cell | (refine Ok.cell (by assumption) ?_; go_cell)) (by first | go_cell | (refine Ok.cell (by assumption) ?_; go_cell)) (by first | go_cell | (refine Ok.cell (by assumption) ?_; go_cell)))).mono ?_); rintro e wc ⟨rfl, oc⟩)
        | (go_at_call 35; (with_reducible refine (HOVA.out _).mono ?_); rintro e wd ⟨rfl, od⟩)
        | (go_at_call 36; (with_reducible refine (HOVB.out _).mono ?_); rintro e we ⟨rfl, oe⟩)
        | (go_at_call 37; (with_reducible refine (HGOA.out _).mono ?_); rintro e wf ⟨rfl, off⟩)
        | (go_at_call 38; (with_reducible refine (HGOB.out _).mono ?_); rintro e wg ⟨rfl, og⟩))
    all_goals (go_wp2_with fail; go_meet)
    all_goals exact ⟨by first | rfl | simp, by (repeat (first | (with_reducible exact Ok.refl _) | (with_reducible assumption) | (with_reducible refine Ok.drew ?_) | (with_reducible refine Ok.alloc ?_ _) | (with_reducible refine Ok.trans' ?_ (by assumption))))⟩
  case rest =>
    obtain ⟨rfl, ocut⟩ := hcut
    obtain ⟨wy, hwy⟩ : ∃ v, v = wc := ⟨_, rfl⟩
    subst hwy
    have OVR := Lib.hid (Ok.call OKV8.out ocut)
    have hrow : RowV wy pv A5 m c5 := by
      rw [← hpv]
      exact (HO5.out.row (by have := HMB.out (by omega); omega)).ok ocut
    have HROW := Lib.hid hrow
    replace D0 := Ok.cell ocut D0
    replace D1 := Ok.cell ocut D1
    have hpz : pv ≤ wy.heap.size := by rw [← hpv]; exact OVR.out.size
    have HPV := Lib.hid hpv
    clear hrow ocut HSQ HSS HSCA HSCB HOVA HOVB HGOA HGOB X0 X1 X2 X3 X4 X5 X6 X7 Y0 Y1 Y2 Y3 Y4 Y5 Y6 Y7 Z0 Z1 Z2 Z3 Z4 Z5 Z6 Z7 M0 M1 M2 M3 M4 M5 M6 M7 N0 N1 N2 N3 N4 N5 N6 N7 E0 E1 B0 B1 P0 P1
    go_wp2_with fail
    (with_reducible refine (overShares_w ep' A5 m c5 pv wy hpz HROW.out).mono ?_)
    rintro _ wo ⟨rfl, hbel⟩
    have oVo : Ok V4 wo := Below.trans OVR.out (by rw [HPV.out]; exact hbel)
    obtain ⟨⟨B0, B1⟩, P0, P1⟩ := HP4.out
    replace B0 := Ok.cell oVo B0; replace B1 := Ok.cell oVo B1; replace P0 := Ok.cell oVo P0; replace P1 := Ok.cell oVo P1
    have HKP := Lib.hid (keptShares_w ep gx cx A n c xs HN.out (by omega) wo HGX.out.2.2 (HAXV.out.ok oVo) (HXS.out wo oVo).2)
    have OVO := Lib.hid (Ok.call OKV4.out oVo)
    clear hbel oVo
    go_wp2_with fail
    (with_reducible refine HKP.out.mono ?_)
    rintro _ wl ⟨rfl, ol⟩
    go_wp2
    go_ret
    exact ⟨rfl, Ok.call OVO.out ol⟩
end Go.Proofs.YtdabdkedgigjdaaGreat
