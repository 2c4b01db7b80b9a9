/- Proved: the law SchemeAll of layer 20, a closed statement, returns true, and leaves what was there as it was (no condition). -/
import Derived.Test.YtdabdkedgigjdaaGreatYi
import Derived.Test.YtdabdkedgigjdaaGreatVc
import Derived.Deep.CutRange
import Derived.Deep.RegionHeld3
import Derived.Test.YtdabdkedgigjdaaGreatVd
import Derived.Deep.CutBlock
import Derived.Test.YtdabdkedgigjdaaGreatM
namespace Go.Proofs.YtdabdkedgigjdaaGreat
open Go.RowKit
/-- Great, of one span: if it tells false, the span's texts are short. -/
def GrS (w : World) (a b : Nat) : Ending → World → Prop := fun e w' => (∃ r, e = .returned (.bool r) ∧ (r = false → a + b ≤ 100)) ∧ Ok w w'
theorem GrS.mk {w w' : World} {a b : Nat} {e : Ending} (r : Bool) (he : e = .returned (.bool r)) (h : r = false → a + b ≤ 100) (ho : Ok w w') : GrS w a b e w' := ⟨⟨r, he, h⟩, ho⟩
set_option maxRecDepth 100000 in
set_option maxHeartbeats 4000000 in
theorem greatS_w (ep : Int) (A : Option Addr) (n c g : Nat) (xs : List Sh) (sp : Sp) (hn : xs.length = n) (hs : Short xs) (hl : sp.lo.size ≤ 140737488355328) (hh : sp.hi.size ≤ 140737488355328) (w : World) (hI : SharesAt w A xs)
    (h0 : w.cell? ⟨g, 0, none⟩ = some (.string sp.lo)) (h1 : w.cell? ⟨g, 1, none⟩ = some (.string sp.hi)) :
    Calls Tryz.prog 28 #[.agg #[.int .i64 ep, .slice A n c], .slice (some ⟨g, 0, none⟩) 1 1] w (GrS w sp.lo.size sp.hi.size) := by
  have HO := Lib.hid (fun w' (k : Ok w w') => sharesOf_w ep A n c xs hn hs w' (hI.ok k))
  clear hI hn hs
  obtain ⟨lo, hi⟩ := sp
  simp only at hl hh h0 h1
  go_enter Tryz.func28, Tryz.ntmps28
  have oW : Ok w (w.alloc (.cells #[.int .i64 ep, .slice A n c] 24)) := Ok.alloc (Ok.refl w) _
  have B0 : (w.alloc (.cells #[.int .i64 ep, .slice A n c] 24)).cell? ⟨w.heap.size, 0, none⟩ = some (.int .i64 ep) := by go_cell
  have B1 : (w.alloc (.cells #[.int .i64 ep, .slice A n c] 24)).cell? ⟨w.heap.size, 1, none⟩ = some (.slice A n c) := by go_cell
  have C0 := Ok.cell oW h0
  have C1 := Ok.cell oW h1
  go_wp2_with fail
  generalize w.alloc (.cells #[.int .i64 ep, .slice A n c] 24) = W at oW B0 B1 C0 C1 ⊢
  go_loopw [5] (fun i wr => ∃ k : Nat, k ≤ 1 ∧ i = .int .i64 k ∧ Ok W wr ∧ (k = 1 → lo.size + hi.size ≤ 100)) (fun i _ => 1 - (intOf i).toNat)
  case atStart => exact ⟨0, Nat.zero_le _, rfl, Ok.refl _, fun h => by cases h⟩
  case round =>
    obtain ⟨k, hk, rfl, okr, hks⟩ := hrel
    have HKS := Lib.hid hks
    clear hks
    have OKR := Lib.hid okr
    have HOKR := Lib.hid (Ok.call oW okr)
    replace B0 := Ok.cell okr B0
    replace B1 := Ok.cell okr B1
    replace C0 := Ok.cell okr C0
    replace C1 := Ok.cell okr C1
    clear okr
    by_cases hlt : k = 0
    · subst hlt
      go_wp2_with fail
      go_quiet (fail)
      go_wp2
      · go_ret
        exact GrS.mk true rfl (fun h => by cases h) (Below.trans HOKR.out ⟨rfl, rfl, rfl, Nat.le_refl _, fun _ _ => rfl⟩)
      · refine ⟨⟨1, Nat.le_refl _, rfl, Below.trans OKR.out ⟨rfl, rfl, rfl, Nat.le_refl _, fun _ _ => rfl⟩, fun _ => by omega⟩, ?_⟩
        decide
    · obtain rfl : k = 1 := by omega
      go_wp2_with fail
      refine (HO.out _ HOKR.out).mono ?_
      rintro _ w3 ⟨⟨r, rfl, hr⟩, o3⟩
      have HR := Lib.hid hr
      clear hr
      by_cases h4 : r ≤ 400
      · have d4 : decide (400 < r) = false := decide_eq_false (by omega)
        go_wp2
        go_ret
        exact GrS.mk false rfl (fun _ => HKS.out trivial) (Ok.call HOKR.out o3)
      · have d4 : decide (400 < r) = true := decide_eq_true (by omega)
        go_wp2
        go_ret
        exact GrS.mk true rfl (fun h => by cases h) (Ok.call HOKR.out o3)
end Go.Proofs.YtdabdkedgigjdaaGreat
namespace Go.Proofs.YtdabdkedgigjdaaGreat
open Go.RowKit
theorem newWriter_n (W : World) : Calls Tryz.prog 40 #[] W fun e w' => e = .returned (.pointer (some ⟨W.heap.size, 0, none⟩)) ∧ Wn false W.heap.size w' [] ∧ Ok W w' :=
  (newWriter_s W).mono fun _ _ ⟨he, h1, h2, _⟩ => ⟨he, ⟨none, 0, h1 _ fun _ hf => hf.elim⟩, h2⟩
def ScWQ (g : Nat) (W : World) (b : Bool) (zs : List B8) (e : Ending) (w' : World) : Prop := e = .returned (.pointer (some ⟨g, 0, none⟩)) ∧ Wn b g w' zs ∧ OkG g W w'
/-- What is done of a writer, spoilt or not. -/
def DoneQ (W : World) (b : Bool) (zs : List B8) (e : Ending) (w' : World) : Prop := (∃ (A : Option Addr) (c n : Nat) (ys : List B8) (k : Int), e = .returned (.tuple #[.slice A n c, .int .i64 k]) ∧ (k == 0) = !b ∧ n = ys.length ∧ BytesIn w' (.slice A n c) ys ∧ (b = false → ys = zs) ∧ ys.length ≤ 100000) ∧ Ok W w'
theorem done_n (b : Bool) (g : Nat) (W : World) (zs : List B8) (h : Wn b g W zs) (hz : zs.length ≤ 100000) : Calls Tryz.prog 41 #[.pointer (some ⟨g, 0, none⟩)] W (DoneQ W b zs) := by
  obtain ⟨A, c, h⟩ := h
  cases b with
  | true =>
    refine (done_bad _ g _ zs W h).mono ?_
    rintro e w' ⟨rfl, rfl⟩
    exact ⟨⟨none, 0, 0, [], 2, rfl, rfl, rfl, BytesIn.nil W, (fun h => Bool.noConfusion h), Nat.zero_le _⟩, Ok.refl W⟩
  | false =>
    refine (done_w g _ zs W h.wr (by omega)).mono ?_
    rintro e w' ⟨⟨A', c', rfl, h1⟩, h2, _⟩
    exact ⟨⟨A', c', _, zs, 0, rfl, rfl, rfl, h1, fun _ => rfl, hz⟩, h2⟩
theorem encSc_len (x : Sc) (h1 : x.sp.lo.size ≤ 1000) (h2 : x.sp.hi.size ≤ 1000) : (encSc x).length ≤ 100000 := by
  have a := encSc_len2 x.num x.sp.lo x.sp.hi h1 h2
  have b := encsI_len [x.fr, x.to, x.ep, x.un, x.st]
  unfold encSc
  rw [List.length_append]
  simp only [List.length_cons, List.length_nil] at b
  omega
/-- A reader of the program's and one of the document's, at the same bytes. -/
def Pair (wr : World) (zk : List B8) (vg vq : Value) (wx : World) : Prop := ∃ W0 g q, vg = .pointer (some ⟨g, 0, none⟩) ∧ vq = .pointer (some ⟨q, 0, none⟩) ∧ Rd W0 g wx zk false ∧ Rf wr q wx zk false ∧ g ≠ q ∧ wr.heap.size ≤ g ∧ wr.heap.size ≤ W0.heap.size
theorem Pair.ok {wr wx : World} {zk : List B8} {vg vq : Value} (h : Pair wr zk vg vq wx) : Ok wr wx := by
  obtain ⟨_, _, _, _, _, _, h, _⟩ := h
  exact h.2.1
theorem rf_of {wr wx : World} {zk : List B8} {v : Value} {q : Nat} (hq : wr.heap.size ≤ q) (hk : Ok wr wx) (hz : BytesIn wr v zk) (hh : wx.heap[q]? = some (.cells #[v, .bool false] 77 (0, 0))) : Rf wr q wx zk false :=
  ⟨hq, hk, ⟨v, hz, by rw [cell_of_heap hh]; rfl⟩, by rw [cell_of_heap hh]; rfl, frz_raw hh 0, frz_raw hh 1⟩
theorem pair1 {wr W0 w8 : World} {g : Nat} {zk : List B8} {v : Value} (h : Rd W0 g w8 zk false) (k0 : Ok wr.drew W0) (hz : BytesIn wr v zk) : Pair wr zk (.pointer (some ⟨g, 0, none⟩)) (.pointer (some ⟨w8.heap.size, 0, none⟩)) (w8.alloc (.cells #[v, .bool false] 77)) := by
  have k1 : Ok wr W0 := Ok.trans (Ok.drew (Ok.refl wr)) k0
  have k2 : Ok wr w8 := Ok.trans k1 h.2.1
  have hg := h.lt
  exact ⟨W0, g, _, rfl, rfl, h.below ((Below.refl w8.heap.size w8).alloc (Nat.le_refl _) _) hg, rf_of k2.size (k2.alloc _) hz (blk_new rfl), by omega, by have := k1.size; have := h.1; omega, k1.size⟩
theorem pair2 {wr W0 w8 : World} {g : Nat} {zk : List B8} {v : Value} (h : Rd W0 g w8 zk false) (k0 : Ok (wr.alloc (.cells #[v, .bool false] 77)).drew W0) (hz : BytesIn wr v zk) : Pair wr zk (.pointer (some ⟨g, 0, none⟩)) (.pointer (some ⟨wr.heap.size, 0, none⟩)) w8 := by
  have k1 : Ok (wr.alloc (.cells #[v, .bool false] 77)) W0 := Ok.trans (Ok.drew (Ok.refl _)) k0
  have k2 : Ok (wr.alloc (.cells #[v, .bool false] 77)) w8 := Ok.trans k1 h.2.1
  have k3 : Ok wr w8 := Ok.trans ((Ok.refl wr).alloc _) k2
  have hz1 : (wr.alloc (.cells #[v, .bool false] 77)).heap.size = wr.heap.size + 1 := by simp
  have hs := k1.size
  have hg := h.1
  exact ⟨W0, g, _, rfl, rfl, h, rf_of (Nat.le_refl _) k3 hz (blk_ok k2 (blk_new rfl)), by omega, by omega, by omega⟩
theorem Rf.alo {W0 : World} {g q : Nat} {w w' : World} {xs : List B8} {f : Bool} (h : Rf W0 q w xs f) (k : Alo g w w') (hgq : g ≠ q) (hg : W0.heap.size ≤ g) : Rf W0 q w' xs f := by
  have hl := h.lt
  obtain ⟨h1, h2, ⟨v, hv, h0⟩, h3, h4, h5⟩ := h
  exact ⟨h1, Below.trans h2 (k.below hg h2.size), ⟨v, hv, k.cell (Ne.symm hgq) h0⟩, k.cell (Ne.symm hgq) h3, k.frozen (Ne.symm hgq) hl h4, k.frozen (Ne.symm hgq) hl h5⟩
theorem Rd.alo {W0 : World} {g q : Nat} {w w' : World} {xs : List B8} {f : Bool} (h : Rd W0 g w xs f) (k : Alo q w w') (hgq : g ≠ q) (hq : W0.heap.size ≤ q) : Rd W0 g w' xs f := by
  have hl := h.lt
  obtain ⟨h1, h2, ⟨v, hv, h0⟩, h3, h6, h4, h5⟩ := h
  exact ⟨h1, Below.trans h2 (k.below hq h2.size), ⟨v, hv, k.cell hgq h0⟩, k.cell hgq h3, k.cell hgq h6, k.frozen hgq hl h4, k.frozen hgq hl h5⟩
set_option maxHeartbeats 400000 in
theorem left_n (g n c : Nat) (A : Option Addr) (f : Bool) (w : World) (h0 : w.cell? ⟨g, 0, none⟩ = some (.slice A n c)) (h1 : w.cell? ⟨g, 1, none⟩ = some (.bool f)) (h2 : w.cell? ⟨g, 2, none⟩ = some (.bool true)) (hf : f = true → n = 0) :
    Calls Tryz.prog 47 #[.pointer (some ⟨g, 0, none⟩)] w fun e w' => e = .returned (.int .i64 (n : Int)) ∧ w = w' := by
  have HD : Hid (Calls Tryz.prog 94 #[.pointer (some ⟨g, 0, none⟩)] w fun e w' => e = .returned (.bool f) ∧ w = w') := Lib.hid (by
    clear h0 hf
    go_enter Tryz.func94, Tryz.ntmps94
    go_wp2
    go_ret
    exact ⟨rfl, rfl⟩)
  cases f with
  | true =>
    obtain rfl := hf rfl
    clear h0 h1 h2 hf
    go_enter Tryz.func47, Tryz.ntmps47
    go_wp2_with fail
    refine HD.out.mono ?_
    rintro e w' ⟨rfl, rfl⟩
    go_wp2_with fail
    go_ret
    exact ⟨rfl, rfl⟩
  | false =>
    clear h1 h2 hf
    go_enter Tryz.func47, Tryz.ntmps47
    go_wp2_with fail
    refine HD.out.mono ?_
    rintro e w' ⟨rfl, rfl⟩
    go_wp2_with fail
    go_ret
    exact ⟨rfl, rfl⟩
set_option maxRecDepth 100000 in
set_option maxHeartbeats 4000000 in
theorem scBytes_w (x : Sc) (vb : Value) (xs : List B8) (w : World) (hl : x.sp.lo.size ≤ 140737488355328) (hh : x.sp.hi.size ≤ 140737488355328) (hst : 0 ≤ x.st ∧ x.st ≤ 255) (hb : BytesIn w vb xs) :
    Calls Tryz.prog 6 #[scV x, vb] w (Ret w (.bool true)) := by
  obtain ⟨A, c, rfl, -⟩ := hb.form
  have HB := Lib.hid hb
  clear hb
  obtain ⟨n, hn⟩ : ∃ n, xs.length = n := ⟨_, rfl⟩
  rw [hn] at HB ⊢
  have HN := Lib.hid hn
  clear hn
  have HAW := Lib.hid awake20_w
  have HGR := Lib.hid (fun (W : World) (g : Nat) => greatS_w 0 none 0 0 g [] x.sp rfl (fun j hj => absurd hj (Nat.not_lt_zero _)) hl hh W (fun j hj => absurd hj (Nat.not_lt_zero _)))
  have HST := Lib.hid hst
  clear hl hh hst
  have HWR := Lib.hid (fun (g : Nat) (W : World) (h : Wn false g W []) (h1 : x.sp.lo.size ≤ 1000) (h2 : x.sp.hi.size ≤ 1000) => show Calls Tryz.prog 39 #[.pointer (some ⟨g, 0, none⟩), scV x] W (ScWQ g W (badSc x) (encSc x)) from scWrite_w g W x h h1 h2 HST.out)
  have HRB := Lib.hid (fun (W : World) (h1 : x.sp.lo.size ≤ 1000) (h2 : x.sp.hi.size ≤ 1000) => rBytesSc_w W x h1 h2 HST.out)
  have HEL := Lib.hid (encSc_len x)
  obtain ⟨num, ⟨lo, hi⟩, fr, tt, ep, un, st⟩ := x
  unfold scV at HWR HRB ⊢
  simp only at HGR HWR HRB HEL HST ⊢
  generalize badSc ⟨num, ⟨lo, hi⟩, fr, tt, ep, un, st⟩ = bad at *
  generalize encSc ⟨num, ⟨lo, hi⟩, fr, tt, ep, un, st⟩ = zs at *
  obtain ⟨p, hp⟩ : ∃ p, w.heap.size = p := ⟨_, rfl⟩
  have HP := Lib.hid (blk_new (o := .cells #[.int .i64 num, .string lo, .string hi, .int .i64 fr, .int .i64 tt, .int .i64 ep, .int .i64 un, .int .u8 st] 52) hp)
  have HK := Lib.hid ((Ok.refl w).alloc (.cells #[.int .i64 num, .string lo, .string hi, .int .i64 fr, .int .i64 tt, .int .i64 ep, .int .i64 un, .int .u8 st] 52))
  go_enter Tryz.func6, Tryz.ntmps6
  go_wp2_with fail
  clear hp
  generalize w.alloc (.cells #[.int .i64 num, .string lo, .string hi, .int .i64 fr, .int .i64 tt, .int .i64 ep, .int .i64 un, .int .u8 st] 52) = V at *
  (with_reducible refine (HAW.out V).mono ?_)
  rintro _ w1 ⟨rfl, o1⟩
  replace HP := Lib.hid (blk_ok o1 HP.out)
  replace HK := Lib.hid (Ok.trans HK.out o1)
  clear o1 HAW
  obtain ⟨B0, B1, B2, B3, B4, B5, B6, B7⟩ := sc_raw HP.out
  go_wp2_with fail
  have S0 : (w1.alloc (.cells #[.string lo, .string hi] 26)).cell? ⟨w1.heap.size, 0, none⟩ = some (.string lo) := by go_cell
  have S1 : (w1.alloc (.cells #[.string lo, .string hi] 26)).cell? ⟨w1.heap.size, 1, none⟩ = some (.string hi) := by go_cell
  have oa := (Ok.refl w1).alloc (.cells #[.string lo, .string hi] 26)
  generalize w1.heap.size = ps at *
  generalize w1.alloc (.cells #[.string lo, .string hi] 26) = V1 at *
  (with_reducible refine (HGR.out V1 ps S0 S1).mono ?_)
  rintro _ w2 ⟨⟨r, rfl, hr⟩, o2⟩
  have HR := Lib.hid hr
  replace HP := Lib.hid (blk_ok o2 (blk_ok oa HP.out))
  replace HK := Lib.hid (Ok.trans (Ok.trans HK.out oa) o2)
  clear oa o2 S0 S1 hr HGR B0 B1 B2 B3 B4 B5 B6 B7
  cases r with
  | true =>
    go_wp2_with fail
    go_ret
    exact ⟨rfl, HK.out⟩
  | false =>
  have hsm := HR.out rfl
  clear HR
  by_cases hbig : 20000 < n
  · have d1 : decide ((20000 : Int) < (n : Int)) = true := decide_eq_true (by omega)
    have d2 : decide (20000 < n) = true := decide_eq_true hbig
    go_wp2_with fail
    go_ret
    exact ⟨rfl, HK.out⟩
  have d1 : decide ((20000 : Int) < (n : Int)) = false := decide_eq_false (by omega)
  have d2 : decide (20000 < n) = false := decide_eq_false hbig
  have HNB : Hid (n ≤ 20000) := Lib.hid (by omega)
  replace HWR := Lib.hid (fun (g : Nat) (W : World) (h : Wn false g W []) => HWR.out g W h (by omega) (by omega))
  replace HRB := Lib.hid (fun (W : World) => HRB.out W (by omega) (by omega))
  replace HEL := Lib.hid (HEL.out (by omega) (by omega))
  clear hbig hsm
  obtain ⟨B0, B1, B2, B3, B4, B5, B6, B7⟩ := sc_raw HP.out
  have hpb := HP.out
  go_wp2_with fail
  clear d1 d2
  go_region_held3 (fun w' => w'.cell? ⟨p, 0, none⟩ = some (.int .i64 num) ∧ w'.cell? ⟨p, 1, none⟩ = some (.string lo) ∧ w'.cell? ⟨p, 2, none⟩ = some (.string hi) ∧ w'.cell? ⟨p, 3, none⟩ = some (.int .i64 fr) ∧ w'.cell? ⟨p, 4, none⟩ = some (.int .i64 tt) ∧ w'.cell? ⟨p, 5, none⟩ = some (.int .i64 ep) ∧ w'.cell? ⟨p, 6, none⟩ = some (.int .i64 un) ∧ w'.cell? ⟨p, 7, none⟩ = some (.int .u8 st))
    ((refine sc_raw ?_; refine blk_ok ?_ hpb; (repeat (first | (with_reducible exact Ok.refl _) | (with_reducible assumption) | (with_reducible refine Ok.drew ?_) | (with_reducible refine Ok.alloc ?_ _) | ((with_reducible apply Ok.trans); rotate_left; (with_reducible assumption)))); done))
    (first
      | (go_at_call 40; (with_reducible refine (newWriter_n _).mono ?_); rintro e w3 ⟨rfl, hw3, k3⟩; have HW3 : Hid (Wn false w2.heap.size w3 []) := Lib.hid hw3)
      | (go_at_call 39; (with_reducible refine (HWR.out _ _ HW3.out).mono ?_); rintro e w4 ⟨rfl, hw4, k4⟩; have HW4 := Lib.hid hw4; have o4 : Ok w2 w4 := Below.trans (Ok.trans (Ok.drew (Ok.refl w2)) k3) k4)
      | (go_at_call 41; (with_reducible refine (done_n _ _ _ _ HW4.out HEL.out).mono ?_); rintro e w5 ⟨⟨A5, c5, n5, ys5, k5, rfl, hk5, hn5, hb5, hy5, hl5⟩, o5⟩; have HN5 := Lib.hid hn5; clear hn5))
  replace HP := Lib.hid (blk_ok (Ok.trans o4 o5) HP.out)
  replace HK := Lib.hid (Ok.trans (Ok.trans HK.out o4) o5)
  have HB5 := Lib.hid hb5
  have HY5 := Lib.hid (And.intro hy5 hl5)
  clear hw3 k3 HW3 hw4 k4 HW4 o4 o5 hb5 hy5 hl5 hpb B0 B1 B2 B3 B4 B5 B6 B7 HWR
  obtain ⟨B0, B1, B2, B3, B4, B5, B6, B7⟩ := sc_raw HP.out
  go_wp2_with fail
  (with_reducible refine (HRB.out w5).mono ?_)
  rintro _ w6 ⟨A6, c6, n6, ys6, ok6, rfl, hn6, hok6, hy6, hb6, o6, hl6⟩
  have HB5 := Lib.hid (o6.bytes HB5.out)
  have HB6 := Lib.hid hb6
  have HY6 := Lib.hid hy6
  have HN6 := Lib.hid hn6
  replace HK := Lib.hid (Ok.trans HK.out o6)
  clear o6 hl6 hb6 hy6 hn6 HP HRB HST HEL B0 B1 B2 B3 B4 B5 B6 B7
  go_upto_region 7 with fail
  go_cut [53] from 41 to 53 (fun v wx => v = .bool false ∧ Ok w6 wx)
  case first =>
    cases bad with
    | true =>
      obtain rfl : ok6 = false := hok6
      have hk5 : (k5 == 0) = false := hk5
      go_wp2_with fail
      go_meet
      exact ⟨rfl, Ok.refl w6⟩
    | false =>
      obtain rfl : ok6 = true := hok6
      have hk5 : (k5 == 0) = true := hk5
      have HSB := Lib.hid (sameBytes_v (.slice A5 n5 c5) (.slice A6 n6 c6) zs w6 (by rw [← HY5.out.1 rfl]; exact HB5.out) (by rw [← HY6.out rfl]; exact HB6.out))
      go_wp2_with fail
      (with_reducible refine HSB.out.mono ?_)
      rintro _ w7 ⟨rfl, o7⟩
      go_wp2_with fail
      go_meet
      exact ⟨rfl, o7⟩
  case rest =>
  obtain ⟨rfl, ocut⟩ := hcut
  obtain ⟨w7, hw7⟩ : ∃ v, v = wc := ⟨_, rfl⟩
  subst hw7
  replace HK := Lib.hid (Ok.trans HK.out ocut)
  have HV5 := Lib.hid (ocut.bytes HB5.out)
  have HY5L := Lib.hid HY5.out.2
  clear ocut HB5 HB6 HY6 HN6 HY5 hk5 hok6
  have HVB := Lib.hid (HK.out.bytes HB.out)
  clear HB
  have HC7 := Lib.hid (blk_new (w := w7) (o := .cells #[.slice A5 n5 c5, .slice A n c] 49) rfl)
  have o7 := (Ok.refl w7).alloc (.cells #[.slice A5 n5 c5, .slice A n c] 49)
  replace HK := Lib.hid (Ok.trans HK.out o7)
  replace HV5 := Lib.hid (o7.bytes HV5.out)
  replace HVB := Lib.hid (o7.bytes HVB.out)
  clear o7
  go_wp2_with fail
  generalize w7.heap.size = pb at *
  generalize w7.alloc (.cells #[.slice A5 n5 c5, .slice A n c] 49) = V7 at *
  have HEL : Hid (∀ k : Nat, k < 2 → ∃ (Ak : Option Addr) (ck nk : Nat) (zk : List B8), V7.cell? ⟨pb, k, none⟩ = some (.slice Ak nk ck) ∧ BytesIn V7 (.slice Ak nk ck) zk ∧ zk.length ≤ 100000) := Lib.hid fun k hk => by
    match k, hk with
    | 0, _ => exact ⟨A5, c5, n5, ys5, by rw [cell_of_heap HC7.out]; rfl, HV5.out, HY5L.out⟩
    | 1, _ => exact ⟨A, c, n, xs, by rw [cell_of_heap HC7.out]; rfl, HVB.out, by rw [HN.out]; have := HNB.out; omega⟩
  clear HC7 HV5 HVB HY5L HN HN5 HNB
  go_loopw [10, 11, 12, 13, 14, 15, 16] (fun i _ _ _ _ _ _ wr => ∃ k : Nat, k ≤ 2 ∧ i = .int .i64 k ∧ Ok V7 wr) (fun i _ _ _ _ _ _ _ => 2 - (intOf i).toNat)
  case atStart => exact ⟨0, Nat.zero_le _, rfl, Ok.refl _⟩
  case round =>
  obtain ⟨k, hk, rfl, hok⟩ := hrel
  have HOK := Lib.hid hok
  replace HK := Lib.hid (Ok.trans HK.out hok)
  by_cases hlt : k < 2
  · obtain ⟨Ak, ck, nk, zk, hc, hz, hzl⟩ := HEL.out k hlt
    have hcr := Ok.cell hok hc
    have HZ := Lib.hid (hok.bytes hz)
    have HZL := Lib.hid hzl
    have d1 : decide ((k : Int) < 2) = true := decide_eq_true (by omega)
    have hi0 : (0 : Int) ≤ (k : Int) := Int.natCast_nonneg _
    have hi1 : (k : Int) < 2 := by omega
    clear hc hz hok hzl
    go_upto_region 13 with fail
    go_cut [11, 12] from 61 to 71 (fun vg vq wx => Pair wr zk vg vq wx)
    case first =>
      go_region_held3 (fun w' => w'.cell? ⟨pb, k, none⟩ = some (.slice Ak nk ck))
        ((refine Ok.cell ?_ hcr; (repeat (first | (with_reducible exact Ok.refl _) | (with_reducible assumption) | (with_reducible refine Ok.drew ?_) | (with_reducible refine Ok.alloc ?_ _) | ((with_reducible apply Ok.trans); rotate_left; (with_reducible assumption)))); done))
        ((go_at_call 44; (with_reducible refine (newReader_r _ _ zk (Ok.bytes ?_ HZ.out) ?_).mono ?_); (focus ((repeat (first | (with_reducible exact Ok.refl _) | (with_reducible assumption) | (with_reducible refine Ok.drew ?_) | (with_reducible refine Ok.alloc ?_ _) | ((with_reducible apply Ok.trans); rotate_left; (with_reducible assumption)))); done)); (have := HZL.out; omega); rintro e w8 ⟨W0, g, rfl, hrd, k0, hg1⟩; have k1 := Ok.trans k0 hrd.2.1))
      all_goals (go_wp2_with fail; go_meet)
      all_goals (first | exact pair1 hrd k0 HZ.out | exact pair2 hrd k0 HZ.out)
    case rest =>
    obtain ⟨w8, hw8⟩ : ∃ v, v = wc := ⟨_, rfl⟩
    subst hw8
    have o8 := hcut.ok
    obtain ⟨W0, g, q, rfl, rfl, hrd, hrf, hgq, hg0, hw0⟩ := hcut
    have HSO := Lib.hid (scRd_ok zk false (fun e => by cases e))
    have HRD := Lib.hid (scRead_w W0 g w8 zk false hrd)
    have HRF := Lib.hid (fun V (h : Rf wr q V zk false) => rscRead_w wr q V zk false h)
    generalize scRd zk false = S at *
    obtain ⟨x', ys, ff⟩ := S
    simp only at HSO HRD HRF
    generalize scIf x' = Y at *
    generalize scB x' = b at *
    obtain ⟨ynum, ⟨ylo, yhi⟩, yfr, yto, yep, yun, yst⟩ := Y
    unfold ReadP scV at HRD
    unfold ReadF scV at HRF
    simp only at HRD HRF
    have HGL := Lib.hid hrd.lt
    have HQ := Lib.hid hrf
    have HG0 := Lib.hid (And.intro hg0 hw0)
    have hrf0 : Hid (V7.heap.size ≤ q) := Lib.hid (by have := hrf.1; have := HOK.out.size; omega)
    clear hrd hrf hg0 hw0 hcr HZ HZL
    go_wp2_with fail
    (with_reducible refine HRD.out.mono ?_)
    rintro _ w9 ⟨rfl, hr9, a9⟩
    obtain ⟨_, _, ⟨vg, hvg, c0⟩, c1, c2, _, _⟩ := hr9
    obtain ⟨Ag, cg, rfl, _⟩ := hvg.form
    have hq9 := HQ.out.alo a9 hgq HG0.out.1
    have o9 : Ok V7 w9 := Below.trans (Ok.trans HOK.out o8) (a9.below (by have := HG0.out.1; have := HOK.out.size; omega) (Ok.trans HOK.out o8).size)
    clear a9 hvg HRD HQ HG0
    obtain ⟨L, hL⟩ : ∃ L, ys.length = L := ⟨_, rfl⟩
    have HLL := Lib.hid hL
    rw [hL] at c0
    have hF : ff = true → L = 0 := fun e => by rw [← hL, HSO.out e]; rfl
    have HF := Lib.hid hF
    clear hL hF
    have hpy := World.block_lt_of_cell? _ _ c1
    have hqy := hq9.lt
    have HYB := Lib.hid (blk_new (w := w9) (o := (.cells #[.int .i64 ynum, .string ylo, .string yhi, .int .i64 yfr, .int .i64 yto, .int .i64 yep, .int .i64 yun, .int .u8 yst] 52)) rfl)
    have oy := (Ok.refl w9).alloc (.cells #[.int .i64 ynum, .string ylo, .string yhi, .int .i64 yfr, .int .i64 yto, .int .i64 yep, .int .i64 yun, .int .u8 yst] 52)
    have c0 := Ok.cell oy c0
    have c1 := Ok.cell oy c1
    have c2 := Ok.cell oy c2
    have hq9 := hq9.ok oy
    have HO9 := Lib.hid (Ok.trans o9 oy)
    clear oy o9
    go_wp2_with fail
    obtain ⟨py, hpy2⟩ : ∃ n, w9.heap.size = n := ⟨_, rfl⟩
    rw [hpy2] at HYB hpy hqy ⊢
    have HQ9 := Lib.hid hq9
    clear hq9
    generalize w9.alloc (.cells #[.int .i64 ynum, .string ylo, .string yhi, .int .i64 yfr, .int .i64 yto, .int .i64 yep, .int .i64 yun, .int .u8 yst] 52) = V9 at *
    (with_reducible refine (HRF.out V9 HQ9.out).mono ?_)
    rintro _ w10 ⟨rfl, hr10, a10⟩
    have c0 := a10.cell hgq c0
    have c1 := a10.cell hgq c1
    have c2 := a10.cell hgq c2
    obtain ⟨_, _, ⟨vq, hvq, e0⟩, _, _, _⟩ := hr10
    obtain ⟨Aq, cq, rfl, _⟩ := hvq.form
    rw [HLL.out] at e0
    have HYB2 := Lib.hid ((a10.block py (by omega) (Array.getElem?_eq_some_iff.1 HYB.out).1).trans HYB.out)
    have o10 : Ok V7 w10 := Below.trans HO9.out (a10.below (by have := hrf0.out; omega) HO9.out.size)
    clear a10 hvq HRF HQ9 HYB HO9
    have HZB := Lib.hid (blk_new (w := w10) (o := (.cells #[.int .i64 ynum, .string ylo, .string yhi, .int .i64 yfr, .int .i64 yto, .int .i64 yep, .int .i64 yun, .int .u8 yst] 52)) rfl)
    have oz := (Ok.refl w10).alloc (.cells #[.int .i64 ynum, .string ylo, .string yhi, .int .i64 yfr, .int .i64 yto, .int .i64 yep, .int .i64 yun, .int .u8 yst] 52)
    have c0 := Ok.cell oz c0
    have c1 := Ok.cell oz c1
    have c2 := Ok.cell oz c2
    have e0 := Ok.cell oz e0
    have HYB := Lib.hid (blk_ok oz HYB2.out)
    have HO10 := Lib.hid (Ok.trans o10 oz)
    clear oz o10 HYB2
    go_upto_region 16 with fail
    generalize w10.heap.size = pz at *
    generalize w10.alloc (.cells #[.int .i64 ynum, .string ylo, .string yhi, .int .i64 yfr, .int .i64 yto, .int .i64 yep, .int .i64 yun, .int .u8 yst] 52) = V10 at *
    obtain ⟨B0, B1, B2, B3, B4, B5, B6, B7⟩ := sc_raw HYB.out
    obtain ⟨C0, C1, C2, C3, C4, C5, C6, C7⟩ := sc_raw HZB.out
    have HSK := Lib.hid fun w' (k' : Ok V10 w') => show w'.cell? ⟨py, 0, none⟩ = some (.int .i64 ynum) ∧ w'.cell? ⟨py, 1, none⟩ = some (.string ylo) ∧ w'.cell? ⟨py, 2, none⟩ = some (.string yhi) ∧ w'.cell? ⟨py, 3, none⟩ = some (.int .i64 yfr) ∧ w'.cell? ⟨py, 4, none⟩ = some (.int .i64 yto) ∧ w'.cell? ⟨py, 5, none⟩ = some (.int .i64 yep) ∧ w'.cell? ⟨py, 6, none⟩ = some (.int .i64 yun) ∧ w'.cell? ⟨py, 7, none⟩ = some (.int .u8 yst) ∧ w'.cell? ⟨pz, 0, none⟩ = some (.int .i64 ynum) ∧ w'.cell? ⟨pz, 1, none⟩ = some (.string ylo) ∧ w'.cell? ⟨pz, 2, none⟩ = some (.string yhi) ∧ w'.cell? ⟨pz, 3, none⟩ = some (.int .i64 yfr) ∧ w'.cell? ⟨pz, 4, none⟩ = some (.int .i64 yto) ∧ w'.cell? ⟨pz, 5, none⟩ = some (.int .i64 yep) ∧ w'.cell? ⟨pz, 6, none⟩ = some (.int .i64 yun) ∧ w'.cell? ⟨pz, 7, none⟩ = some (.int .u8 yst) ∧ w'.cell? ⟨q, 0, none⟩ = some (.slice Aq L cq) from ⟨Ok.cell k' B0, Ok.cell k' B1, Ok.cell k' B2, Ok.cell k' B3, Ok.cell k' B4, Ok.cell k' B5, Ok.cell k' B6, Ok.cell k' B7, Ok.cell k' C0, Ok.cell k' C1, Ok.cell k' C2, Ok.cell k' C3, Ok.cell k' C4, Ok.cell k' C5, Ok.cell k' C6, Ok.cell k' C7, Ok.cell k' e0⟩
    have HLF := Lib.hid (fun w' (k' : Ok V10 w') => left_n g L cg Ag ff w' (Ok.cell k' c0) (Ok.cell k' c1) (Ok.cell k' c2) HF.out)
    clear c0 c1 c2 HYB HZB
    go_cut [102] from 82 to 102 (fun v wx => v = .bool false ∧ Ok V10 wx)
    case first =>
      cases b with
      | true =>
        go_region_held3 (fun w' => w'.cell? ⟨py, 0, none⟩ = some (.int .i64 ynum) ∧ w'.cell? ⟨py, 1, none⟩ = some (.string ylo) ∧ w'.cell? ⟨py, 2, none⟩ = some (.string yhi) ∧ w'.cell? ⟨py, 3, none⟩ = some (.int .i64 yfr) ∧ w'.cell? ⟨py, 4, none⟩ = some (.int .i64 yto) ∧ w'.cell? ⟨py, 5, none⟩ = some (.int .i64 yep) ∧ w'.cell? ⟨py, 6, none⟩ = some (.int .i64 yun) ∧ w'.cell? ⟨py, 7, none⟩ = some (.int .u8 yst) ∧ w'.cell? ⟨pz, 0, none⟩ = some (.int .i64 ynum) ∧ w'.cell? ⟨pz, 1, none⟩ = some (.string ylo) ∧ w'.cell? ⟨pz, 2, none⟩ = some (.string yhi) ∧ w'.cell? ⟨pz, 3, none⟩ = some (.int .i64 yfr) ∧ w'.cell? ⟨pz, 4, none⟩ = some (.int .i64 yto) ∧ w'.cell? ⟨pz, 5, none⟩ = some (.int .i64 yep) ∧ w'.cell? ⟨pz, 6, none⟩ = some (.int .i64 yun) ∧ w'.cell? ⟨pz, 7, none⟩ = some (.int .u8 yst) ∧ w'.cell? ⟨q, 0, none⟩ = some (.slice Aq L cq))
          ((refine HSK.out _ ?_; (repeat (first | (with_reducible exact Ok.refl _) | (with_reducible assumption) | (with_reducible refine Ok.drew ?_) | (with_reducible refine Ok.alloc ?_ _) | ((with_reducible apply Ok.trans); rotate_left; (with_reducible assumption)))); done))
          ((go_at_call 47; (with_reducible refine (HLF.out _ ?_).mono ?_); (focus ((repeat (first | (with_reducible exact Ok.refl _) | (with_reducible assumption) | (with_reducible refine Ok.drew ?_) | (with_reducible refine Ok.alloc ?_ _) | ((with_reducible apply Ok.trans); rotate_left; (with_reducible assumption)))); done)); rintro e wl ⟨rfl, rfl⟩))
        all_goals (go_wp2_with fail; go_meet)
        all_goals exact ⟨by first | rfl | simp, by (repeat (first | (with_reducible exact Ok.refl _) | (with_reducible assumption) | (with_reducible refine Ok.drew ?_) | (with_reducible refine Ok.alloc ?_ _) | ((with_reducible apply Ok.trans); rotate_left; (with_reducible assumption))))⟩
      | false =>
        go_quiet (fail)
        all_goals (go_wp2_with fail; go_meet)
        all_goals exact ⟨by first | rfl | simp, ⟨rfl, rfl, rfl, Nat.le_refl _, fun _ _ => rfl⟩⟩
    case rest =>
      obtain ⟨rfl, ocut⟩ := hcut
      obtain ⟨w11, hw11⟩ : ∃ v, v = wc := ⟨_, rfl⟩
      subst hw11
      have HO11 := Lib.hid (Ok.trans HO10.out ocut)
      clear ocut HSK HLF HO10 B0 B1 B2 B3 B4 B5 B6 B7 C0 C1 C2 C3 C4 C5 C6 C7 e0
      go_wp2_with fail
      exact ⟨⟨k + 1, by omega, by go_num, HO11.out⟩, by simp [intOf]; omega⟩
  · obtain rfl : k = 2 := by omega
    have d1 : decide (((2 : Nat) : Int) < 2) = false := by decide
    go_wp2_with fail
    go_ret
    exact ⟨rfl, HK.out⟩
end Go.Proofs.YtdabdkedgigjdaaGreat
namespace Go.Proofs.YtdabdkedgigjdaaGreat
open Go.RowKit
def ys2 : List Sh := [⟨⟨⟨#[]⟩, ⟨#[109]⟩⟩, 1, 1⟩, ⟨⟨⟨#[109]⟩, ⟨#[]⟩⟩, 2, 2⟩]
theorem ys2_short : Short ys2 := fun j hj => by
  have hj2 : j < 2 := hj
  obtain rfl | rfl : j = 0 ∨ j = 1 := by omega
  · exact ⟨by show (0 : Nat) ≤ _; exact Nat.zero_le _, by show (1 : Nat) ≤ _; unfold maxLen; omega⟩
  · exact ⟨by show (1 : Nat) ≤ _; unfold maxLen; omega, by show (0 : Nat) ≤ _; exact Nat.zero_le _⟩
/-- What the parts turned leave: some handoff of short texts. -/
def SwP (q : Nat) (V : World) (wx : World) : Prop := ∃ (num : Int) (lo hi : Str) (fr tt ep un st : Int), lo.size ≤ 1000 ∧ hi.size ≤ 1000 ∧ (0 ≤ st ∧ st ≤ 255) ∧ HasSc wx q num lo hi fr tt ep un st ∧ Below q V wx
def UnP (q : Nat) (V : World) (st : Int) (wx : World) : Prop := ∃ un : Int, (un = 0 ∨ un = 2) ∧ HasSc wx q 3 ⟨#[]⟩ ⟨#[99]⟩ 1 3 1 un st ∧ Below q V wx
def TP (V : World) (v : Value) (wx : World) : Prop := ∃ t : Bool, v = .bool t ∧ V = wx
theorem HasSc.ok {w w' : World} {p : Nat} {num : Int} {lo hi : Str} {fr tt ep un st : Int} (h : HasSc w p num lo hi fr tt ep un st) (k : Ok w w') : HasSc w' p num lo hi fr tt ep un st := blk_ok k h
theorem HasSc.set {W : World} {q : Nat} {num : Int} {lo hi : Str} {fr tt ep un st : Int} (h : HasSc W q num lo hi fr tt ep un st) (i : Nat) (v : Value) {num' : Int} {lo' hi' : Str} {fr' tt' ep' un' st' : Int}
    (e : (#[.int .i64 num, .string lo, .string hi, .int .i64 fr, .int .i64 tt, .int .i64 ep, .int .i64 un, .int .u8 st] : Array Value).setIfInBounds i v = #[.int .i64 num', .string lo', .string hi', .int .i64 fr', .int .i64 tt', .int .i64 ep', .int .i64 un', .int .u8 st']) : HasSc (W.setCell ⟨q, i, none⟩ v) q num' lo' hi' fr' tt' ep' un' st' := by
  have := set_sc h i v
  rw [e] at this
  exact this
set_option maxRecDepth 100000 in
set_option maxHeartbeats 4000000 in
theorem all20_w (w : World) : Calls Tryz.prog 7 #[] w (Ret w (.bool true)) := by
  have hf := first_w 1
  rw [show firstG 1 = 1 by decide +kernel] at hf
  have HF := Lib.hid hf
  have HT := Lib.hid (fun h => turn_w 1 (some ⟨h, 0, none⟩) 1 1 [⟨allS, 1, 1⟩] ⟨⟨#[109]⟩, ⟨#[]⟩⟩ 2 rfl (by decide) (by decide))
  rw [turn_one] at HT
  unfold spV at HT
  simp only at HT
  clear hf
  go_enter Tryz.func7, Tryz.ntmps7
  go_wp2_with fail
  (with_reducible refine (awake20_w w).mono ?_)
  rintro _ w1 ⟨rfl, o1⟩
  have HK1 := Lib.hid o1
  clear o1
  go_wp2_with fail
  (with_reducible refine (HF.out w1).mono ?_)
  rintro _ w2 ⟨h, rfl, hown, o2⟩
  have HS2 := Lib.hid hown.at
  have HK2 := Lib.hid (Ok.trans HK1.out o2)
  clear hown o2 HK1 HF
  go_wp2_with fail
  (with_reducible refine (HT.out h w2 HS2.out).mono ?_)
  rintro _ w3 ⟨A, c, rfl, hown, o3⟩
  have HOW := Lib.hid hown
  have HK3 := Lib.hid (Ok.trans HK2.out o3)
  clear hown o3 HK2 HS2 HT
  go_wp2_with fail
  have ob := (Ok.refl w3).alloc (.cells #[.int .i64 2, .slice A 2 c] 24)
  have HSB := Lib.hid (blk_new (o := .cells #[.int .i64 2, .slice A 2 c] 24) (w := w3) rfl)
  have HSH : Hid (SharesAt (w3.alloc (.cells #[.int .i64 2, .slice A 2 c] 24)) A ys2) := Lib.hid ((HOW.out.ok ob).at)
  have HA0 : Hid (A = none → c = 0) := Lib.hid (by obtain ⟨g, rfl⟩ := OwnSh.some HOW.out (by decide); intro e; cases e)
  have HK := Lib.hid (Ok.trans HK3.out ob)
  clear ob HOW HK3
  try simp only [List.length_cons, List.length_nil, Nat.zero_add, Nat.reduceAdd]
  generalize w3.heap.size = ps at *
  generalize w3.alloc (.cells #[.int .i64 2, .slice A 2 c] 24) = V0 at *
  go_loopw [3] (fun i wr => ∃ k : Nat, k ≤ 11 ∧ i = .int .i64 k ∧ Ok V0 wr) (fun i _ => 11 - (intOf i).toNat)
  case atStart => exact ⟨0, Nat.zero_le _, rfl, Ok.refl _⟩
  case round =>
  obtain ⟨a, ha, rfl, hoka⟩ := hrel
  have HOKA := Lib.hid hoka
  clear hoka
  by_cases hla : a < 11
  · have d1 : decide ((a : Int) < 11) = true := decide_eq_true (by omega)
    go_wp2_with fail
    go_loopw [4] (fun i wq => ∃ k : Nat, k ≤ 11 ∧ i = .int .i64 k ∧ Ok V0 wq) (fun i _ => 11 - (intOf i).toNat)
    case atStart => exact ⟨0, Nat.zero_le _, rfl, HOKA.out⟩
    case round =>
    obtain ⟨b, hb, rfl, hokb⟩ := hrel
    have HOKB := Lib.hid hokb
    clear hokb
    by_cases hlb : b < 11
    · have d2 : decide ((b : Int) < 11) = true := decide_eq_true (by omega)
      go_wp2_with fail
      go_loopw [5] (fun i wx => ∃ k : Nat, k ≤ 12 ∧ i = .int .i64 k ∧ Ok V0 wx) (fun i _ => 12 - (intOf i).toNat)
      case atStart => exact ⟨0, Nat.zero_le _, rfl, HOKB.out⟩
      case round =>
      obtain ⟨k, hk, rfl, hokc⟩ := hrel
      have HOKC := Lib.hid hokc
      clear hokc
      by_cases hlc : k < 12
      · have d3 : decide ((k : Int) < 12) = true := decide_eq_true (by omega)
        have hma : (a : Int) % 256 = a := by omega
        have hmb : (b : Int) % 256 = b := by omega
        go_upto_region 14 with fail
        have HX := Lib.hid (blk_new (w := wr) (o := (.cells #[.int .i64 3, .string ⟨#[]⟩, .string ⟨#[99]⟩, .int .i64 1, .int .i64 3, .int .i64 1, .int .i64 0, .int .u8 a] 52)) rfl)
        have ox := (Ok.refl wr).alloc (.cells #[.int .i64 3, .string ⟨#[]⟩, .string ⟨#[99]⟩, .int .i64 1, .int .i64 3, .int .i64 1, .int .i64 0, .int .u8 a] 52)
        have HSBX := Lib.hid (blk_ok (Ok.trans HOKC.out ox) HSB.out)
        have HOKX := Lib.hid (Ok.trans HOKC.out ox)
        have hqs : ps < wr.heap.size := (Array.getElem?_eq_some_iff.1 (blk_ok HOKC.out HSB.out)).1
        have HQV := Lib.hid (HOKC.out.size)
        clear ox hma
        generalize wr.heap.size = q at *
        generalize wr.alloc (.cells #[.int .i64 3, .string ⟨#[]⟩, .string ⟨#[99]⟩, .int .i64 1, .int .i64 3, .int .i64 1, .int .i64 0, .int .u8 a] 52) = V1 at *
        go_cut [38] from 33 to 38 (fun v wx => TP V1 v wx)
        case first =>
          by_cases h4 : a < 4
          · have e1 : decide ((4 : Int) ≤ (a : Int)) = false := decide_eq_false (by omega)
            have e2 : decide (4 ≤ a) = false := decide_eq_false (by omega)
            clear h4
            go_wp2_with fail
            go_meet
            exact ⟨_, rfl, rfl⟩
          · have e1 : decide ((4 : Int) ≤ (a : Int)) = true := decide_eq_true (by omega)
            have e2 : decide (4 ≤ a) = true := decide_eq_true (by omega)
            clear h4
            go_wp2_with fail
            go_meet
            exact ⟨_, rfl, rfl⟩
        case rest =>
        obtain ⟨t, rfl, rfl⟩ := hcut
        have hx0 : HasSc V1 q 3 ⟨#[]⟩ ⟨#[99]⟩ 1 3 1 0 a := HX.out
        have F6 := frz_raw hx0 6
        have B6 := hx0.raw.1.2.2.2.2.2.2.1
        have HX0 := Lib.hid hx0
        clear hx0
        go_upto_if 38 with fail
        go_cut [39] from 39 to 39 (fun _ wx => UnP q V1 a wx)
        case first =>
          cases t with
          | false =>
            go_wp2_with fail
            go_meet
            exact ⟨0, .inl rfl, HX0.out, Below.refl _ _⟩
          | true =>
            go_wp2_with fail
            go_meet
            exact ⟨2, .inr rfl, HX0.out.set 6 _ rfl, (Below.refl q V1).setCell (p := ⟨q, 6, none⟩) (Nat.le_refl _) _⟩
        case rest =>
        obtain ⟨un, hun, hx1, hbe1⟩ := hcut
        obtain ⟨w5, hw5⟩ : ∃ v, v = wc := ⟨_, rfl⟩
        subst hw5
        have HX1 := Lib.hid hx1
        have HBE1 := Lib.hid hbe1
        have HUN := Lib.hid hun
        clear hx1 hbe1 hun HX HX0 F6 B6
        go_upto_block 6 with fail
        go_cut [40, 41, 44, 48, 51, 54, 57, 63, 66, 70, 73, 76] from 40 to 78 (fun _ _ _ _ _ _ _ _ _ _ _ _ wx => SwP q w5 wx)
        case first =>
          have hx1 := HX1.out
          obtain ⟨⟨B0, B1, B2, B3, B4, B5, B6, B7⟩, FF⟩ := hx1.raw
          have F0 := FF 0; have F1 := FF 1; have F2 := FF 2; have F3 := FF 3; have F4 := FF 4; have F5 := FF 5; have F6 := FF 6
          clear FF hx1
          have hst : (0 : Int) ≤ a ∧ (a : Int) ≤ 255 := by omega
          have HSTT := Lib.hid hst
          clear hst
          obtain rfl | rfl | rfl | rfl | rfl | rfl | rfl | rfl | rfl | rfl | rfl | rfl : k = 0 ∨ k = 1 ∨ k = 2 ∨ k = 3 ∨ k = 4 ∨ k = 5 ∨ k = 6 ∨ k = 7 ∨ k = 8 ∨ k = 9 ∨ k = 10 ∨ k = 11 := by omega
          all_goals clear d1 d2 d3 hlc hk
          · go_wp2_with fail
            go_meet
            exact ⟨3, ⟨#[]⟩, ⟨#[99]⟩, 1, 3, 1, un, a, by decide, by decide, HSTT.out, HX1.out, Below.refl q w5⟩
          · go_wp2_with fail
            go_meet
            exact ⟨0, ⟨#[]⟩, ⟨#[99]⟩, 1, 3, 1, un, a, by decide, by decide, HSTT.out, HasSc.set (HX1.out) 0 (.int .i64 0) rfl, (Below.refl q w5).setCell (p := ⟨q, 0, none⟩) (Nat.le_refl _) _⟩
          · go_wp2_with fail
            go_meet
            exact ⟨3, ⟨#[98]⟩, ⟨#[97]⟩, 1, 3, 1, un, a, by decide, by decide, HSTT.out, HasSc.set (HasSc.set (HX1.out) 1 (.string ⟨#[98]⟩) rfl) 2 (.string ⟨#[97]⟩) rfl, ((Below.refl q w5).setCell (p := ⟨q, 1, none⟩) (Nat.le_refl _) _).setCell (p := ⟨q, 2, none⟩) (Nat.le_refl _) _⟩
          · go_wp2_with fail
            go_meet
            exact ⟨3, ⟨#[]⟩, ⟨#[99]⟩, 2, 3, 1, un, a, by decide, by decide, HSTT.out, HasSc.set (HX1.out) 3 (.int .i64 2) rfl, (Below.refl q w5).setCell (p := ⟨q, 3, none⟩) (Nat.le_refl _) _⟩
          · go_wp2_with fail
            go_meet
            exact ⟨3, ⟨#[]⟩, ⟨#[99]⟩, 1, 1, 1, un, a, by decide, by decide, HSTT.out, HasSc.set (HX1.out) 4 (.int .i64 1) rfl, (Below.refl q w5).setCell (p := ⟨q, 4, none⟩) (Nat.le_refl _) _⟩
          · go_wp2_with fail
            go_meet
            exact ⟨3, ⟨#[]⟩, ⟨#[99]⟩, 1, 3, 2, un, a, by decide, by decide, HSTT.out, HasSc.set (HX1.out) 5 (.int .i64 2) rfl, (Below.refl q w5).setCell (p := ⟨q, 5, none⟩) (Nat.le_refl _) _⟩
          · rcases HUN.out with rfl | rfl
            · go_wp2_with fail
              go_meet
              exact ⟨3, ⟨#[]⟩, ⟨#[99]⟩, 1, 3, 1, 3, a, by decide, by decide, HSTT.out, HasSc.set (HX1.out) 6 (.int .i64 3) rfl, (Below.refl q w5).setCell (p := ⟨q, 6, none⟩) (Nat.le_refl _) _⟩
            · go_wp2_with fail
              go_meet
              exact ⟨3, ⟨#[]⟩, ⟨#[99]⟩, 1, 3, 1, 1, a, by decide, by decide, HSTT.out, HasSc.set (HX1.out) 6 (.int .i64 1) rfl, (Below.refl q w5).setCell (p := ⟨q, 6, none⟩) (Nat.le_refl _) _⟩
          · go_wp2_with fail
            go_meet
            exact ⟨3, ⟨#[]⟩, ⟨#[99]⟩, 1, 3, 1, 1073741825, a, by decide, by decide, HSTT.out, HasSc.set (HX1.out) 6 (.int .i64 1073741825) rfl, (Below.refl q w5).setCell (p := ⟨q, 6, none⟩) (Nat.le_refl _) _⟩
          · go_wp2_with fail
            go_meet
            exact ⟨3, ⟨#[99]⟩, ⟨#[]⟩, 1, 3, 1, un, a, by decide, by decide, HSTT.out, HasSc.set (HasSc.set (HX1.out) 1 (.string ⟨#[99]⟩) rfl) 2 (.string ⟨#[]⟩) rfl, ((Below.refl q w5).setCell (p := ⟨q, 1, none⟩) (Nat.le_refl _) _).setCell (p := ⟨q, 2, none⟩) (Nat.le_refl _) _⟩
          · go_wp2_with fail
            go_meet
            exact ⟨3, ⟨#[]⟩, ⟨#[99]⟩, 1, 5, 1, un, a, by decide, by decide, HSTT.out, HasSc.set (HX1.out) 4 (.int .i64 5) rfl, (Below.refl q w5).setCell (p := ⟨q, 4, none⟩) (Nat.le_refl _) _⟩
          · go_wp2_with fail
            go_meet
            exact ⟨3, ⟨#[]⟩, ⟨#[99]⟩, 1, 3, 1073741824, un, a, by decide, by decide, HSTT.out, HasSc.set (HX1.out) 5 (.int .i64 1073741824) rfl, (Below.refl q w5).setCell (p := ⟨q, 5, none⟩) (Nat.le_refl _) _⟩
          · go_wp2_with fail
            go_meet
            exact ⟨1073741825, ⟨#[]⟩, ⟨#[99]⟩, 1, 3, 1, un, a, by decide, by decide, HSTT.out, HasSc.set (HX1.out) 0 (.int .i64 1073741825) rfl, (Below.refl q w5).setCell (p := ⟨q, 0, none⟩) (Nat.le_refl _) _⟩
        case rest =>
        obtain ⟨num, lo, hi, fr, tt, ep, un2, st, hl, hh, hst, hx2, hbe2⟩ := hcut
        obtain ⟨w6, hw6⟩ : ∃ v, v = wc := ⟨_, rfl⟩
        subst hw6
        have HST := Lib.hid hst
        have HLH := Lib.hid (And.intro hl hh)
        have HBE := Lib.hid (HBE1.out.trans hbe2)
        have HX2 := Lib.hid hx2
        obtain ⟨⟨B0, B1, B2, B3, B4, B5, B6, B7⟩, -⟩ := hx2.raw
        have HS6 := Lib.hid ((HBE.out.block ps hqs).trans HSBX.out)
        have HOK6 := Lib.hid (Below.trans HOKX.out (HBE.out.mono HQV.out))
        clear hst hl hh hx2 hbe2 HBE1 HX1 HUN HSBX HOKX HBE
        have HRB := Lib.hid (rBytesSc_w w6 ⟨num, ⟨lo, hi⟩, fr, tt, ep, un2, st⟩ HLH.out.1 HLH.out.2 HST.out)
        unfold scV at HRB
        simp only at HRB
        go_wp2_with fail
        (with_reducible refine HRB.out.mono ?_)
        rintro _ w7 ⟨A7, c7, n7, ys7, ok7, rfl, hn7, hok7, hy7, hb7, o7, hl7⟩
        have HB7 := Lib.hid hb7
        have HX7 := Lib.hid (HX2.out.ok o7)
        have HS7 := Lib.hid (blk_ok o7 HS6.out)
        have HOK7 := Lib.hid (Ok.trans HOK6.out o7)
        obtain ⟨⟨B0, B1, B2, B3, B4, B5, B6, B7⟩, -⟩ := HX7.out.raw
        have C0 : w7.cell? ⟨ps, 0, none⟩ = some (.int .i64 2) := by rw [cell_of_heap HS7.out]; rfl
        have C1 : w7.cell? ⟨ps, 1, none⟩ = some (.slice A 2 c) := by rw [cell_of_heap HS7.out]; rfl
        have HTE := Lib.hid (scTells_w ⟨num, ⟨lo, hi⟩, fr, tt, ep, un2, st⟩ 2 A 2 c ys2 b num ⟨lo, hi⟩ tt rfl ys2_short HA0.out (by have := HLH.out.1; simp only; unfold maxLen; omega) (by have := HLH.out.2; simp only; unfold maxLen; omega) (by have := HLH.out.1; simp only; unfold maxLen; omega) (by have := HLH.out.2; simp only; unfold maxLen; omega) w7 (HSH.out.ok HOK7.out))
        have HBY := Lib.hid (fun W (k : Ok w7 W) => scBytes_w ⟨num, ⟨lo, hi⟩, fr, tt, ep, un2, st⟩ (.slice A7 n7 c7) ys7 W (by have := HLH.out.1; simp only; omega) (by have := HLH.out.2; simp only; omega) HST.out (k.bytes HB7.out))
        unfold scV spV at HTE
        unfold scV at HBY
        simp only at HTE HBY
        clear hn7 hok7 hy7 hb7 o7 hl7 HRB HX2 HS6 HOK6
        go_wp2_with fail
        (with_reducible refine HTE.out.mono ?_)
        rintro _ w8 ⟨rfl, o8⟩
        obtain ⟨⟨B0, B1, B2, B3, B4, B5, B6, B7⟩, -⟩ := (HX7.out.ok o8).raw
        have HO8 := Lib.hid o8
        clear o8 C0 C1
        go_wp2_with fail
        (with_reducible refine (HBY.out w8 HO8.out).mono ?_)
        rintro _ w9 ⟨rfl, o9⟩
        have HO9 := Lib.hid (Ok.trans (Ok.trans HOK7.out HO8.out) o9)
        clear o9 HBY HTE HO8 HX7 HS7 HOK7 B0 B1 B2 B3 B4 B5 B6 B7
        go_wp2_with fail
        refine ⟨⟨k + 1, by omega, by go_num, HO9.out⟩, by simp [intOf]; omega⟩
      · obtain rfl : k = 12 := by omega
        have d3 : decide (((12 : Nat) : Int) < 12) = false := by decide
        go_wp2_with fail
        refine ⟨⟨b + 1, by omega, by go_num, HOKC.out⟩, by simp [intOf]; omega⟩
    · obtain rfl : b = 11 := by omega
      have d2 : decide (((11 : Nat) : Int) < 11) = false := by decide
      go_wp2_with fail
      refine ⟨⟨a + 1, by omega, by go_num, HOKB.out⟩, by simp [intOf]; omega⟩
  · obtain rfl : a = 11 := by omega
    have d1 : decide (((11 : Nat) : Int) < 11) = false := by decide
    go_wp2_with fail
    go_ret
    exact ⟨rfl, Ok.trans HK.out HOKA.out⟩
end Go.Proofs.YtdabdkedgigjdaaGreat
namespace Go.Proofs.YtdabdkedgigjdaaGreat
open Go.ChangeShapes Go.WideShapes Go.ChangeAt Go.RowKit

set_option maxRecDepth 100000 in
theorem schemeAll_lifted (os : Os) (started : os.Started) (H : Type) (enc : TypeId × Value → H) :
    ReturnsInHanded {} Tryz.checked os 7 .any (Rows.schemeAllSpec.pre6 enc Tryz.prog Tryz.f7 Rows.schemeAllRow.domain false) (Rows.schemeAllSpec.post enc Tryz.prog Tryz.f7 false true false false) := by
  refine returnsInHanded_of_change (C := Tryz.checked) own started (by kernel_rfl) Tryz.func7
    (ChangeSpec.witness6 (enc := enc) (C := Tryz.checked) false ⟨#[], #[], []⟩ 8 (by kernel_rfl) (by kernel_rfl) (by kernel_rfl) (by kernel_rfl)) ?_
  intro W base args ds gs before hval0 hW _ _
  have hW' := hW
  obtain ⟨p, q, hA0, hV, rfl, hfz, hnd⟩ := hW
  have hA : DataW.TrodAll enc Tryz.prog W 0 (fun _ => true) true Tryz.f7.params.toList args.toList ds p := hA0
  rw [Tryz.params7] at hA
  obtain ⟨hargs, rfl, rfl⟩ := trodAll_nil hA
  obtain rfl : args = #[] := Array.toList_eq_nil_iff.1 hargs
  obtain ⟨rfl, rfl⟩ := trodVars_none hV
  refine (all20_w W).mono fun e W' ⟨he, hbe⟩ => ?_
  subst he
  have hA1 : DataW.TrodAll enc Tryz.prog W' 0 (fun b => decide (b < W.heap.size)) true Tryz.f7.params.toList (#[] : Array Value).toList [] [] := by
    rw [Tryz.params7]; exact rfl
  exact ⟨_, rfl, _, _, _, [], _, [], hW', trodAll_mk1 (shut_bool Tryz.underlying4 _), hA1, rfl, hbe.frame _, fun h => by cases h⟩

theorem schemeAll_proved : Rows.SchemeAllSaid :=
  OpenClaim.holds_of_wide 7 Tryz.f7 rfl rfl rfl rfl rfl rfl rfl ⟨rfl, rfl, rfl, rfl, rfl⟩ rfl rfl rfl rfl rfl (by kernel_rfl) Tryz.func7 (by kernel_rfl)
    (of_decide_eq_true (by kernel_rfl)) (by unfold Func.isWrapper; first | (rw [if_pos (by decide +kernel)]; kernel_rfl) | (rw [if_neg (by decide +kernel)]; exact ⟨rfl, rfl⟩))
    (fun os started H enc _ => schemeAll_lifted os started H enc)
end Go.Proofs.YtdabdkedgigjdaaGreat
