/- The law SchemeBytes, walked. -/
import Derived.Test.YtdabdkedgigjdaaGreatWh
import Derived.Test.YtdabdkedgigjdaaGreatMz
import Derived.Deep.CutRange
import Derived.Deep.RegionHeld3
namespace Go.Proofs.YtdabdkedgigjdaaGreat
open Go.RowKit
theorem newWriter_n (W : World) : Calls Tryz.prog 40 #[] W fun e w' => e = .returned (.pointer (some ⟨W.heap.size, 0, none⟩)) ∧ Wn false W.heap.size w' [] ∧ Ok W w' :=
  (newWriter_s W).mono fun _ _ ⟨he, h1, h2, _⟩ => ⟨he, ⟨none, 0, h1 _ fun _ hf => hf.elim⟩, h2⟩
def ScWQ (g : Nat) (W : World) (b : Bool) (zs : List B8) (e : Ending) (w' : World) : Prop := e = .returned (.pointer (some ⟨g, 0, none⟩)) ∧ Wn b g w' zs ∧ OkG g W w'
/-- What is done of a writer, spoilt or not. -/
def DoneQ (W : World) (b : Bool) (zs : List B8) (e : Ending) (w' : World) : Prop := (∃ (A : Option Addr) (c n : Nat) (ys : List B8) (k : Int), e = .returned (.tuple #[.slice A n c, .int .i64 k]) ∧ (k == 0) = !b ∧ n = ys.length ∧ BytesIn w' (.slice A n c) ys ∧ (b = false → ys = zs) ∧ ys.length ≤ 100000) ∧ Ok W w'
theorem done_n (b : Bool) (g : Nat) (W : World) (zs : List B8) (h : Wn b g W zs) (hz : zs.length ≤ 100000) : Calls Tryz.prog 41 #[.pointer (some ⟨g, 0, none⟩)] W (DoneQ W b zs) := by
  obtain ⟨A, c, h⟩ := h
  cases b with
  | true =>
    refine (done_bad _ g _ zs W h).mono ?_
    rintro e w' ⟨rfl, rfl⟩
    exact ⟨⟨none, 0, 0, [], 2, rfl, rfl, rfl, BytesIn.nil W, (fun h => Bool.noConfusion h), Nat.zero_le _⟩, Ok.refl W⟩
  | false =>
    refine (done_w g _ zs W h.wr (by omega)).mono ?_
    rintro e w' ⟨⟨A', c', rfl, h1⟩, h2, _⟩
    exact ⟨⟨A', c', _, zs, 0, rfl, rfl, rfl, h1, fun _ => rfl, hz⟩, h2⟩
theorem encSc_len (x : Sc) (h1 : x.sp.lo.size ≤ 1000) (h2 : x.sp.hi.size ≤ 1000) : (encSc x).length ≤ 100000 := by
  have a := encSc_len2 x.num x.sp.lo x.sp.hi h1 h2
  have b := encsI_len [x.fr, x.to, x.ep, x.un, x.st]
  unfold encSc
  rw [List.length_append]
  simp only [List.length_cons, List.length_nil] at b
  omega
/-- A reader of the program's and one of the document's, at the same bytes. -/
def Pair (wr : World) (zk : List B8) (vg vq : Value) (wx : World) : Prop := ∃ W0 g q, vg = .pointer (some ⟨g, 0, none⟩) ∧ vq = .pointer (some ⟨q, 0, none⟩) ∧ Rd W0 g wx zk false ∧ Rf wr q wx zk false ∧ g ≠ q ∧ wr.heap.size ≤ g ∧ wr.heap.size ≤ W0.heap.size
theorem Pair.ok {wr wx : World} {zk : List B8} {vg vq : Value} (h : Pair wr zk vg vq wx) : Ok wr wx := by
  obtain ⟨_, _, _, _, _, _, h, _⟩ := h
  exact h.2.1
theorem rf_of {wr wx : World} {zk : List B8} {v : Value} {q : Nat} (hq : wr.heap.size ≤ q) (hk : Ok wr wx) (hz : BytesIn wr v zk) (hh : wx.heap[q]? = some (.cells #[v, .bool false] 77 (0, 0))) : Rf wr q wx zk false :=
  ⟨hq, hk, ⟨v, hz, by rw [cell_of_heap hh]; rfl⟩, by rw [cell_of_heap hh]; rfl, frz_raw hh 0, frz_raw hh 1⟩
theorem pair1 {wr W0 w8 : World} {g : Nat} {zk : List B8} {v : Value} (h : Rd W0 g w8 zk false) (k0 : Ok wr.drew W0) (hz : BytesIn wr v zk) : Pair wr zk (.pointer (some ⟨g, 0, none⟩)) (.pointer (some ⟨w8.heap.size, 0, none⟩)) (w8.alloc (.cells #[v, .bool false] 77)) := by
  have k1 : Ok wr W0 := Ok.trans (Ok.drew (Ok.refl wr)) k0
  have k2 : Ok wr w8 := Ok.trans k1 h.2.1
  have hg := h.lt
  exact ⟨W0, g, _, rfl, rfl, h.below ((Below.refl w8.heap.size w8).alloc (Nat.le_refl _) _) hg, rf_of k2.size (k2.alloc _) hz (blk_new rfl), by omega, by have := k1.size; have := h.1; omega, k1.size⟩
theorem pair2 {wr W0 w8 : World} {g : Nat} {zk : List B8} {v : Value} (h : Rd W0 g w8 zk false) (k0 : Ok (wr.alloc (.cells #[v, .bool false] 77)).drew W0) (hz : BytesIn wr v zk) : Pair wr zk (.pointer (some ⟨g, 0, none⟩)) (.pointer (some ⟨wr.heap.size, 0, none⟩)) w8 := by
  have k1 : Ok (wr.alloc (.cells #[v, .bool false] 77)) W0 := Ok.trans (Ok.drew (Ok.refl _)) k0
  have k2 : Ok (wr.alloc (.cells #[v, .bool false] 77)) w8 := Ok.trans k1 h.2.1
  have k3 : Ok wr w8 := Ok.trans ((Ok.refl wr).alloc _) k2
  have hz1 : (wr.alloc (.cells #[v, .bool false] 77)).heap.size = wr.heap.size + 1 := by simp
  have hs := k1.size
  have hg := h.1
  exact ⟨W0, g, _, rfl, rfl, h, rf_of (Nat.le_refl _) k3 hz (blk_ok k2 (blk_new rfl)), by omega, by omega, by omega⟩
theorem Rf.alo {W0 : World} {g q : Nat} {w w' : World} {xs : List B8} {f : Bool} (h : Rf W0 q w xs f) (k : Alo g w w') (hgq : g ≠ q) (hg : W0.heap.size ≤ g) : Rf W0 q w' xs f := by
  have hl := h.lt
  obtain ⟨h1, h2, ⟨v, hv, h0⟩, h3, h4, h5⟩ := h
  exact ⟨h1, Below.trans h2 (k.below hg h2.size), ⟨v, hv, k.cell (Ne.symm hgq) h0⟩, k.cell (Ne.symm hgq) h3, k.frozen (Ne.symm hgq) hl h4, k.frozen (Ne.symm hgq) hl h5⟩
theorem Rd.alo {W0 : World} {g q : Nat} {w w' : World} {xs : List B8} {f : Bool} (h : Rd W0 g w xs f) (k : Alo q w w') (hgq : g ≠ q) (hq : W0.heap.size ≤ q) : Rd W0 g w' xs f := by
  have hl := h.lt
  obtain ⟨h1, h2, ⟨v, hv, h0⟩, h3, h6, h4, h5⟩ := h
  exact ⟨h1, Below.trans h2 (k.below hq h2.size), ⟨v, hv, k.cell hgq h0⟩, k.cell hgq h3, k.cell hgq h6, k.frozen hgq hl h4, k.frozen hgq hl h5⟩
set_option maxHeartbeats 400000 in
theorem left_n (g n c : Nat) (A : Option Addr) (f : Bool) (w : World) (h0 : w.cell? ⟨g, 0, none⟩ = some (.slice A n c)) (h1 : w.cell? ⟨g, 1, none⟩ = some (.bool f)) (h2 : w.cell? ⟨g, 2, none⟩ = some (.bool true)) (hf : f = true → n = 0) :
    Calls Tryz.prog 47 #[.pointer (some ⟨g, 0, none⟩)] w fun e w' => e = .returned (.int .i64 (n : Int)) ∧ w = w' := by
  have HD : Hid (Calls Tryz.prog 94 #[.pointer (some ⟨g, 0, none⟩)] w fun e w' => e = .returned (.bool f) ∧ w = w') := Lib.hid (by
    clear h0 hf
    go_enter Tryz.func94, Tryz.ntmps94
    go_wp2
    go_ret
    exact ⟨rfl, rfl⟩)
  cases f with
  | true =>
    obtain rfl := hf rfl
    clear h0 h1 h2 hf
    go_enter Tryz.func47, Tryz.ntmps47
    go_wp2_with fail
    refine HD.out.mono ?_
    rintro e w' ⟨rfl, rfl⟩
    go_wp2_with fail
    go_ret
    exact ⟨rfl, rfl⟩
  | false =>
    clear h1 h2 hf
    go_enter Tryz.func47, Tryz.ntmps47
    go_wp2_with fail
    refine HD.out.mono ?_
    rintro e w' ⟨rfl, rfl⟩
    go_wp2_with fail
    go_ret
    exact ⟨rfl, rfl⟩
set_option maxRecDepth 100000 in
set_option maxHeartbeats 4000000 in
theorem scBytes_w (x : Sc) (vb : Value) (xs : List B8) (w : World) (hl : x.sp.lo.size ≤ 140737488355328) (hh : x.sp.hi.size ≤ 140737488355328) (hst : 0 ≤ x.st ∧ x.st ≤ 255) (hb : BytesIn w vb xs) :
    Calls Tryz.prog 6 #[scV x, vb] w (Ret w (.bool true)) := by
  obtain ⟨A, c, rfl, -⟩ := hb.form
  have HB := Lib.hid hb
  clear hb
  obtain ⟨n, hn⟩ : ∃ n, xs.length = n := ⟨_, rfl⟩
  rw [hn] at HB ⊢
  have HN := Lib.hid hn
  clear hn
  have HAW := Lib.hid awake20_w
  have HGR := Lib.hid (fun (W : World) (g : Nat) => greatS_w 0 none 0 0 g [] x.sp rfl (fun j hj => absurd hj (Nat.not_lt_zero _)) hl hh W (fun j hj => absurd hj (Nat.not_lt_zero _)))
  have HST := Lib.hid hst
  clear hl hh hst
  have HWR := Lib.hid (fun (g : Nat) (W : World) (h : Wn false g W []) (h1 : x.sp.lo.size ≤ 1000) (h2 : x.sp.hi.size ≤ 1000) => show Calls Tryz.prog 39 #[.pointer (some ⟨g, 0, none⟩), scV x] W (ScWQ g W (badSc x) (encSc x)) from scWrite_w g W x h h1 h2 HST.out)
  have HRB := Lib.hid (fun (W : World) (h1 : x.sp.lo.size ≤ 1000) (h2 : x.sp.hi.size ≤ 1000) => rBytesSc_w W x h1 h2 HST.out)
  have HEL := Lib.hid (encSc_len x)
  obtain ⟨num, ⟨lo, hi⟩, fr, tt, ep, un, st⟩ := x
  unfold scV at HWR HRB ⊢
  simp only at HGR HWR HRB HEL HST ⊢
  generalize badSc ⟨num, ⟨lo, hi⟩, fr, tt, ep, un, st⟩ = bad at *
  generalize encSc ⟨num, ⟨lo, hi⟩, fr, tt, ep, un, st⟩ = zs at *
  obtain ⟨p, hp⟩ : ∃ p, w.heap.size = p := ⟨_, rfl⟩
  have HP := Lib.hid (blk_new (o := .cells #[.int .i64 num, .string lo, .string hi, .int .i64 fr, .int .i64 tt, .int .i64 ep, .int .i64 un, .int .u8 st] 52) hp)
  have HK := Lib.hid ((Ok.refl w).alloc (.cells #[.int .i64 num, .string lo, .string hi, .int .i64 fr, .int .i64 tt, .int .i64 ep, .int .i64 un, .int .u8 st] 52))
  go_enter Tryz.func6, Tryz.ntmps6
  go_wp2_with fail
  clear hp
  generalize w.alloc (.cells #[.int .i64 num, .string lo, .string hi, .int .i64 fr, .int .i64 tt, .int .i64 ep, .int .i64 un, .int .u8 st] 52) = V at *
  (with_reducible refine (HAW.out V).mono ?_)
  rintro _ w1 ⟨rfl, o1⟩
  replace HP := Lib.hid (blk_ok o1 HP.out)
  replace HK := Lib.hid (Ok.trans HK.out o1)
  clear o1 HAW
  obtain ⟨B0, B1, B2, B3, B4, B5, B6, B7⟩ := sc_raw HP.out
  go_wp2_with fail
  have S0 : (w1.alloc (.cells #[.string lo, .string hi] 26)).cell? ⟨w1.heap.size, 0, none⟩ = some (.string lo) := by go_cell
  have S1 : (w1.alloc (.cells #[.string lo, .string hi] 26)).cell? ⟨w1.heap.size, 1, none⟩ = some (.string hi) := by go_cell
  have oa := (Ok.refl w1).alloc (.cells #[.string lo, .string hi] 26)
  generalize w1.heap.size = ps at *
  generalize w1.alloc (.cells #[.string lo, .string hi] 26) = V1 at *
  (with_reducible refine (HGR.out V1 ps S0 S1).mono ?_)
  rintro _ w2 ⟨⟨r, rfl, hr⟩, o2⟩
  have HR := Lib.hid hr
  replace HP := Lib.hid (blk_ok o2 (blk_ok oa HP.out))
  replace HK := Lib.hid (Ok.trans (Ok.trans HK.out oa) o2)
  clear oa o2 S0 S1 hr HGR B0 B1 B2 B3 B4 B5 B6 B7
  cases r with
  | true =>
    go_wp2_with fail
    go_ret
    exact ⟨rfl, HK.out⟩
  | false =>
  have hsm := HR.out rfl
  clear HR
  by_cases hbig : 20000 < n
  · have d1 : decide ((20000 : Int) < (n : Int)) = true := decide_eq_true (by omega)
    have d2 : decide (20000 < n) = true := decide_eq_true hbig
    go_wp2_with fail
    go_ret
    exact ⟨rfl, HK.out⟩
  have d1 : decide ((20000 : Int) < (n : Int)) = false := decide_eq_false (by omega)
  have d2 : decide (20000 < n) = false := decide_eq_false hbig
  have HNB : Hid (n ≤ 20000) := Lib.hid (by omega)
  replace HWR := Lib.hid (fun (g : Nat) (W : World) (h : Wn false g W []) => HWR.out g W h (by omega) (by omega))
  replace HRB := Lib.hid (fun (W : World) => HRB.out W (by omega) (by omega))
  replace HEL := Lib.hid (HEL.out (by omega) (by omega))
  clear hbig hsm
  obtain ⟨B0, B1, B2, B3, B4, B5, B6, B7⟩ := sc_raw HP.out
  have hpb := HP.out
  go_wp2_with fail
  clear d1 d2
  go_region_held3 (fun w' => w'.cell? ⟨p, 0, none⟩ = some (.int .i64 num) ∧ w'.cell? ⟨p, 1, none⟩ = some (.string lo) ∧ w'.cell? ⟨p, 2, none⟩ = some (.string hi) ∧ w'.cell? ⟨p, 3, none⟩ = some (.int .i64 fr) ∧ w'.cell? ⟨p, 4, none⟩ = some (.int .i64 tt) ∧ w'.cell? ⟨p, 5, none⟩ = some (.int .i64 ep) ∧ w'.cell? ⟨p, 6, none⟩ = some (.int .i64 un) ∧ w'.cell? ⟨p, 7, none⟩ = some (.int .u8 st))
    ((refine sc_raw ?_; refine blk_ok ?_ hpb; (repeat (first | (with_reducible exact Ok.refl _) | (with_reducible assumption) | (with_reducible refine Ok.drew ?_) | (with_reducible refine Ok.alloc ?_ _) | ((with_reducible apply Ok.trans); rotate_left; (with_reducible assumption)))); done))
    (first
      | (go_at_call 40; (with_reducible refine (newWriter_n _).mono ?_); rintro e w3 ⟨rfl, hw3, k3⟩; have HW3 : Hid (Wn false w2.heap.size w3 []) := Lib.hid hw3)
      | (go_at_call 39; (with_reducible refine (HWR.out _ _ HW3.out).mono ?_); rintro e w4 ⟨rfl, hw4, k4⟩; have HW4 := Lib.hid hw4; have o4 : Ok w2 w4 := Below.trans (Ok.trans (Ok.drew (Ok.refl w2)) k3) k4)
      | (go_at_call 41; (with_reducible refine (done_n _ _ _ _ HW4.out HEL.out).mono ?_); rintro e w5 ⟨⟨A5, c5, n5, ys5, k5, rfl, hk5, hn5, hb5, hy5, hl5⟩, o5⟩; have HN5 := Lib.hid hn5; clear hn5))
  replace HP := Lib.hid (blk_ok (Ok.trans o4 o5) HP.out)
  replace HK := Lib.hid (Ok.trans (Ok.trans HK.out o4) o5)
  have HB5 := Lib.hid hb5
  have HY5 := Lib.hid (And.intro hy5 hl5)
  clear hw3 k3 HW3 hw4 k4 HW4 o4 o5 hb5 hy5 hl5 hpb B0 B1 B2 B3 B4 B5 B6 B7 HWR
  obtain ⟨B0, B1, B2, B3, B4, B5, B6, B7⟩ := sc_raw HP.out
  go_wp2_with fail
  (with_reducible refine (HRB.out w5).mono ?_)
  rintro _ w6 ⟨A6, c6, n6, ys6, ok6, rfl, hn6, hok6, hy6, hb6, o6, hl6⟩
  have HB5 := Lib.hid (o6.bytes HB5.out)
  have HB6 := Lib.hid hb6
  have HY6 := Lib.hid hy6
  have HN6 := Lib.hid hn6
  replace HK := Lib.hid (Ok.trans HK.out o6)
  clear o6 hl6 hb6 hy6 hn6 HP HRB HST HEL B0 B1 B2 B3 B4 B5 B6 B7
  go_upto_region 7 with fail
  go_cut [53] from 41 to 53 (fun v wx => v = .bool false ∧ Ok w6 wx)
  case first =>
    cases bad with
    | true =>
      obtain rfl : ok6 = false := hok6
      have hk5 : (k5 == 0) = false := hk5
      go_wp2_with fail
      go_meet
      exact ⟨rfl, Ok.refl w6⟩
    | false =>
      obtain rfl : ok6 = true := hok6
      have hk5 : (k5 == 0) = true := hk5
      have HSB := Lib.hid (sameBytes_v (.slice A5 n5 c5) (.slice A6 n6 c6) zs w6 (by rw [← HY5.out.1 rfl]; exact HB5.out) (by rw [← HY6.out rfl]; exact HB6.out))
      go_wp2_with fail
      (with_reducible refine HSB.out.mono ?_)
      rintro _ w7 ⟨rfl, o7⟩
      go_wp2_with fail
      go_meet
      exact ⟨rfl, o7⟩
  case rest =>
  obtain ⟨rfl, ocut⟩ := hcut
  obtain ⟨w7, hw7⟩ : ∃ v, v = wc := ⟨_, rfl⟩
  subst hw7
  replace HK := Lib.hid (Ok.trans HK.out ocut)
  have HV5 := Lib.hid (ocut.bytes HB5.out)
  have HY5L := Lib.hid HY5.out.2
  clear ocut HB5 HB6 HY6 HN6 HY5 hk5 hok6
  have HVB := Lib.hid (HK.out.bytes HB.out)
  clear HB
  have HC7 := Lib.hid (blk_new (w := w7) (o := .cells #[.slice A5 n5 c5, .slice A n c] 49) rfl)
  have o7 := (Ok.refl w7).alloc (.cells #[.slice A5 n5 c5, .slice A n c] 49)
  replace HK := Lib.hid (Ok.trans HK.out o7)
  replace HV5 := Lib.hid (o7.bytes HV5.out)
  replace HVB := Lib.hid (o7.bytes HVB.out)
  clear o7
  go_wp2_with fail
  generalize w7.heap.size = pb at *
  generalize w7.alloc (.cells #[.slice A5 n5 c5, .slice A n c] 49) = V7 at *
  have HEL : Hid (∀ k : Nat, k < 2 → ∃ (Ak : Option Addr) (ck nk : Nat) (zk : List B8), V7.cell? ⟨pb, k, none⟩ = some (.slice Ak nk ck) ∧ BytesIn V7 (.slice Ak nk ck) zk ∧ zk.length ≤ 100000) := Lib.hid fun k hk => by
    match k, hk with
    | 0, _ => exact ⟨A5, c5, n5, ys5, by rw [cell_of_heap HC7.out]; rfl, HV5.out, HY5L.out⟩
    | 1, _ => exact ⟨A, c, n, xs, by rw [cell_of_heap HC7.out]; rfl, HVB.out, by rw [HN.out]; have := HNB.out; omega⟩
  clear HC7 HV5 HVB HY5L HN HN5 HNB
  go_loopw [10, 11, 12, 13, 14, 15, 16] (fun i _ _ _ _ _ _ wr => ∃ k : Nat, k ≤ 2 ∧ i = .int .i64 k ∧ Ok V7 wr) (fun i _ _ _ _ _ _ _ => 2 - (intOf i).toNat)
  case atStart => exact ⟨0, Nat.zero_le _, rfl, Ok.refl _⟩
  case round =>
  obtain ⟨k, hk, rfl, hok⟩ := hrel
  have HOK := Lib.hid hok
  replace HK := Lib.hid (Ok.trans HK.out hok)
  by_cases hlt : k < 2
  · obtain ⟨Ak, ck, nk, zk, hc, hz, hzl⟩ := HEL.out k hlt
    have hcr := Ok.cell hok hc
    have HZ := Lib.hid (hok.bytes hz)
    have HZL := Lib.hid hzl
    have d1 : decide ((k : Int) < 2) = true := decide_eq_true (by omega)
    have hi0 : (0 : Int) ≤ (k : Int) := Int.natCast_nonneg _
    have hi1 : (k : Int) < 2 := by omega
    clear hc hz hok hzl
    go_upto_region 13 with fail
    go_cut [11, 12] from 61 to 71 (fun vg vq wx => Pair wr zk vg vq wx)
    case first =>
      go_region_held3 (fun w' => w'.cell? ⟨pb, k, none⟩ = some (.slice Ak nk ck))
        ((refine Ok.cell ?_ hcr; (repeat (first | (with_reducible exact Ok.refl _) | (with_reducible assumption) | (with_reducible refine Ok.drew ?_) | (with_reducible refine Ok.alloc ?_ _) | ((with_reducible apply Ok.trans); rotate_left; (with_reducible assumption)))); done))
        ((go_at_call 44; (with_reducible refine (newReader_r _ _ zk (Ok.bytes ?_ HZ.out) ?_).mono ?_); (focus ((repeat (first | (with_reducible exact Ok.refl _) | (with_reducible assumption) | (with_reducible refine Ok.drew ?_) | (with_reducible refine Ok.alloc ?_ _) | ((with_reducible apply Ok.trans); rotate_left; (with_reducible assumption)))); done)); (have := HZL.out; omega); rintro e w8 ⟨W0, g, rfl, hrd, k0, hg1⟩; have k1 := Ok.trans k0 hrd.2.1))
      all_goals (go_wp2_with fail; go_meet)
      all_goals (first | exact pair1 hrd k0 HZ.out | exact pair2 hrd k0 HZ.out)
    case rest =>
    obtain ⟨w8, hw8⟩ : ∃ v, v = wc := ⟨_, rfl⟩
    subst hw8
    have o8 := hcut.ok
    obtain ⟨W0, g, q, rfl, rfl, hrd, hrf, hgq, hg0, hw0⟩ := hcut
    have HSO := Lib.hid (scRd_ok zk false (fun e => by cases e))
    have HRD := Lib.hid (scRead_w W0 g w8 zk false hrd)
    have HRF := Lib.hid (fun V (h : Rf wr q V zk false) => rscRead_w wr q V zk false h)
    generalize scRd zk false = S at *
    obtain ⟨x', ys, ff⟩ := S
    simp only at HSO HRD HRF
    generalize scIf x' = Y at *
    generalize scB x' = b at *
    obtain ⟨ynum, ⟨ylo, yhi⟩, yfr, yto, yep, yun, yst⟩ := Y
    unfold ReadP scV at HRD
    unfold ReadF scV at HRF
    simp only at HRD HRF
    have HGL := Lib.hid hrd.lt
    have HQ := Lib.hid hrf
    have HG0 := Lib.hid (And.intro hg0 hw0)
    have hrf0 : Hid (V7.heap.size ≤ q) := Lib.hid (by have := hrf.1; have := HOK.out.size; omega)
    clear hrd hrf hg0 hw0 hcr HZ HZL
    go_wp2_with fail
    (with_reducible refine HRD.out.mono ?_)
    rintro _ w9 ⟨rfl, hr9, a9⟩
    obtain ⟨_, _, ⟨vg, hvg, c0⟩, c1, c2, _, _⟩ := hr9
    obtain ⟨Ag, cg, rfl, _⟩ := hvg.form
    have hq9 := HQ.out.alo a9 hgq HG0.out.1
    have o9 : Ok V7 w9 := Below.trans (Ok.trans HOK.out o8) (a9.below (by have := HG0.out.1; have := HOK.out.size; omega) (Ok.trans HOK.out o8).size)
    clear a9 hvg HRD HQ HG0
    obtain ⟨L, hL⟩ : ∃ L, ys.length = L := ⟨_, rfl⟩
    have HLL := Lib.hid hL
    rw [hL] at c0
    have hF : ff = true → L = 0 := fun e => by rw [← hL, HSO.out e]; rfl
    have HF := Lib.hid hF
    clear hL hF
    have hpy := World.block_lt_of_cell? _ _ c1
    have hqy := hq9.lt
    have HYB := Lib.hid (blk_new (w := w9) (o := (.cells #[.int .i64 ynum, .string ylo, .string yhi, .int .i64 yfr, .int .i64 yto, .int .i64 yep, .int .i64 yun, .int .u8 yst] 52)) rfl)
    have oy := (Ok.refl w9).alloc (.cells #[.int .i64 ynum, .string ylo, .string yhi, .int .i64 yfr, .int .i64 yto, .int .i64 yep, .int .i64 yun, .int .u8 yst] 52)
    have c0 := Ok.cell oy c0
    have c1 := Ok.cell oy c1
    have c2 := Ok.cell oy c2
    have hq9 := hq9.ok oy
    have HO9 := Lib.hid (Ok.trans o9 oy)
    clear oy o9
    go_wp2_with fail
    obtain ⟨py, hpy2⟩ : ∃ n, w9.heap.size = n := ⟨_, rfl⟩
    rw [hpy2] at HYB hpy hqy ⊢
    have HQ9 := Lib.hid hq9
    clear hq9
    generalize w9.alloc (.cells #[.int .i64 ynum, .string ylo, .string yhi, .int .i64 yfr, .int .i64 yto, .int .i64 yep, .int .i64 yun, .int .u8 yst] 52) = V9 at *
    (with_reducible refine (HRF.out V9 HQ9.out).mono ?_)
    rintro _ w10 ⟨rfl, hr10, a10⟩
    have c0 := a10.cell hgq c0
    have c1 := a10.cell hgq c1
    have c2 := a10.cell hgq c2
    obtain ⟨_, _, ⟨vq, hvq, e0⟩, _, _, _⟩ := hr10
    obtain ⟨Aq, cq, rfl, _⟩ := hvq.form
    rw [HLL.out] at e0
    have HYB2 := Lib.hid ((a10.block py (by omega) (Array.getElem?_eq_some_iff.1 HYB.out).1).trans HYB.out)
    have o10 : Ok V7 w10 := Below.trans HO9.out (a10.below (by have := hrf0.out; omega) HO9.out.size)
    clear a10 hvq HRF HQ9 HYB HO9
    have HZB := Lib.hid (blk_new (w := w10) (o := (.cells #[.int .i64 ynum, .string ylo, .string yhi, .int .i64 yfr, .int .i64 yto, .int .i64 yep, .int .i64 yun, .int .u8 yst] 52)) rfl)
    have oz := (Ok.refl w10).alloc (.cells #[.int .i64 ynum, .string ylo, .string yhi, .int .i64 yfr, .int .i64 yto, .int .i64 yep, .int .i64 yun, .int .u8 yst] 52)
    have c0 := Ok.cell oz c0
    have c1 := Ok.cell oz c1
    have c2 := Ok.cell oz c2
    have e0 := Ok.cell oz e0
    have HYB := Lib.hid (blk_ok oz HYB2.out)
    have HO10 := Lib.hid (Ok.trans o10 oz)
    clear oz o10 HYB2
    go_upto_region 16 with fail
    generalize w10.heap.size = pz at *
    generalize w10.alloc (.cells #[.int .i64 ynum, .string ylo, .string yhi, .int .i64 yfr, .int .i64 yto, .int .i64 yep, .int .i64 yun, .int .u8 yst] 52) = V10 at *
    obtain ⟨B0, B1, B2, B3, B4, B5, B6, B7⟩ := sc_raw HYB.out
    obtain ⟨C0, C1, C2, C3, C4, C5, C6, C7⟩ := sc_raw HZB.out
    have HSK := Lib.hid fun w' (k' : Ok V10 w') => show w'.cell? ⟨py, 0, none⟩ = some (.int .i64 ynum) ∧ w'.cell? ⟨py, 1, none⟩ = some (.string ylo) ∧ w'.cell? ⟨py, 2, none⟩ = some (.string yhi) ∧ w'.cell? ⟨py, 3, none⟩ = some (.int .i64 yfr) ∧ w'.cell? ⟨py, 4, none⟩ = some (.int .i64 yto) ∧ w'.cell? ⟨py, 5, none⟩ = some (.int .i64 yep) ∧ w'.cell? ⟨py, 6, none⟩ = some (.int .i64 yun) ∧ w'.cell? ⟨py, 7, none⟩ = some (.int .u8 yst) ∧ w'.cell? ⟨pz, 0, none⟩ = some (.int .i64 ynum) ∧ w'.cell? ⟨pz, 1, none⟩ = some (.string ylo) ∧ w'.cell? ⟨pz, 2, none⟩ = some (.string yhi) ∧ w'.cell? ⟨pz, 3, none⟩ = some (.int .i64 yfr) ∧ w'.cell? ⟨pz, 4, none⟩ = some (.int .i64 yto) ∧ w'.cell? ⟨pz, 5, none⟩ = some (.int .i64 yep) ∧ w'.cell? ⟨pz, 6, none⟩ = some (.int .i64 yun) ∧ w'.cell? ⟨pz, 7, none⟩ = some (.int .u8 yst) ∧ w'.cell? ⟨q, 0, none⟩ = some (.slice Aq L cq) from ⟨Ok.cell k' B0, Ok.cell k' B1, Ok.cell k' B2, Ok.cell k' B3, Ok.cell k' B4, Ok.cell k' B5, Ok.cell k' B6, Ok.cell k' B7, Ok.cell k' C0, Ok.cell k' C1, Ok.cell k' C2, Ok.cell k' C3, Ok.cell k' C4, Ok.cell k' C5, Ok.cell k' C6, Ok.cell k' C7, Ok.cell k' e0⟩
    have HLF := Lib.hid (fun w' (k' : Ok V10 w') => left_n g L cg Ag ff w' (Ok.cell k' c0) (Ok.cell k' c1) (Ok.cell k' c2) HF.out)
    clear c0 c1 c2 HYB HZB
    go_cut [102] from 82 to 102 (fun v wx => v = .bool false ∧ Ok V10 wx)
    case first =>
      cases b with
      | true =>
        go_region_held3 (fun w' => w'.cell? ⟨py, 0, none⟩ = some (.int .i64 ynum) ∧ w'.cell? ⟨py, 1, none⟩ = some (.string ylo) ∧ w'.cell? ⟨py, 2, none⟩ = some (.string yhi) ∧ w'.cell? ⟨py, 3, none⟩ = some (.int .i64 yfr) ∧ w'.cell? ⟨py, 4, none⟩ = some (.int .i64 yto) ∧ w'.cell? ⟨py, 5, none⟩ = some (.int .i64 yep) ∧ w'.cell? ⟨py, 6, none⟩ = some (.int .i64 yun) ∧ w'.cell? ⟨py, 7, none⟩ = some (.int .u8 yst) ∧ w'.cell? ⟨pz, 0, none⟩ = some (.int .i64 ynum) ∧ w'.cell? ⟨pz, 1, none⟩ = some (.string ylo) ∧ w'.cell? ⟨pz, 2, none⟩ = some (.string yhi) ∧ w'.cell? ⟨pz, 3, none⟩ = some (.int .i64 yfr) ∧ w'.cell? ⟨pz, 4, none⟩ = some (.int .i64 yto) ∧ w'.cell? ⟨pz, 5, none⟩ = some (.int .i64 yep) ∧ w'.cell? ⟨pz, 6, none⟩ = some (.int .i64 yun) ∧ w'.cell? ⟨pz, 7, none⟩ = some (.int .u8 yst) ∧ w'.cell? ⟨q, 0, none⟩ = some (.slice Aq L cq))
          ((refine HSK.out _ ?_; (repeat (first | (with_reducible exact Ok.refl _) | (with_reducible assumption) | (with_reducible refine Ok.drew ?_) | (with_reducible refine Ok.alloc ?_ _) | ((with_reducible apply Ok.trans); rotate_left; (with_reducible assumption)))); done))
          ((go_at_call 47; (with_reducible refine (HLF.out _ ?_).mono ?_); (focus ((repeat (first | (with_reducible exact Ok.refl _) | (with_reducible assumption) | (with_reducible refine Ok.drew ?_) | (with_reducible refine Ok.alloc ?_ _) | ((with_reducible apply Ok.trans); rotate_left; (with_reducible assumption)))); done)); rintro e wl ⟨rfl, rfl⟩))
        all_goals (go_wp2_with fail; go_meet)
        all_goals exact ⟨by first | rfl | simp, by (repeat (first | (with_reducible exact Ok.refl _) | (with_reducible assumption) | (with_reducible refine Ok.drew ?_) | (with_reducible refine Ok.alloc ?_ _) | ((with_reducible apply Ok.trans); rotate_left; (with_reducible assumption))))⟩
      | false =>
        go_quiet (fail)
        all_goals (go_wp2_with fail; go_meet)
        all_goals exact ⟨by first | rfl | simp, ⟨rfl, rfl, rfl, Nat.le_refl _, fun _ _ => rfl⟩⟩
    case rest =>
      obtain ⟨rfl, ocut⟩ := hcut
      obtain ⟨w11, hw11⟩ : ∃ v, v = wc := ⟨_, rfl⟩
      subst hw11
      have HO11 := Lib.hid (Ok.trans HO10.out ocut)
      clear ocut HSK HLF HO10 B0 B1 B2 B3 B4 B5 B6 B7 C0 C1 C2 C3 C4 C5 C6 C7 e0
      go_wp2_with fail
      exact ⟨⟨k + 1, by omega, by go_num, HO11.out⟩, by simp [intOf]; omega⟩
  · obtain rfl : k = 2 := by omega
    have d1 : decide (((2 : Nat) : Int) < 2) = false := by decide
    go_wp2_with fail
    go_ret
    exact ⟨rfl, HK.out⟩
end Go.Proofs.YtdabdkedgigjdaaGreat
