/- The law DiskAppends: the chapter's example. -/
import Derived.Test.YtfchjdhjbepocaaMq
namespace Go.Proofs.Ytfchjdhjbepocaa
open Go Go.RowKit

def sA : Str := ⟨#[97]⟩
def sB : Str := ⟨#[98]⟩
def sC : Str := ⟨#[99]⟩
def ex1 : Dk := ((fresh0 4).appR sA [1#8, 2#8]).1
def ex2 : Dk := (ex1.appR sB [3#8]).1
def ex3 : Dk := (ex2.appR sA [4#8]).1
def ex4 : Dk := (ex3.appR sC [5#8]).1
def ex5 : Dk := ex4.crash 2
theorem ex_err : ((fresh0 4).appR sA [1#8, 2#8]).2 = 0 ∧ (ex1.appR sB [3#8]).2 = 0 ∧ (ex2.appR sA [4#8]).2 = 0 ∧ (ex3.appR sC [5#8]).2 = 8 := by decide +kernel
theorem ex_small : Small (fresh0 4) ∧ Small ex1 ∧ Small ex2 ∧ Small ex3 ∧ Small ex4 ∧ Small ex5 := by
  refine ⟨⟨by decide +kernel, by decide +kernel⟩, ⟨by decide +kernel, by decide +kernel⟩, ⟨by decide +kernel, by decide +kernel⟩, ⟨by decide +kernel, by decide +kernel⟩, ⟨by decide +kernel, by decide +kernel⟩, ⟨by decide +kernel, by decide +kernel⟩⟩
theorem ex_len : (fresh0 4).ps.length + 1 ≤ 1000000 ∧ ex1.ps.length + 1 ≤ 1000000 ∧ ex2.ps.length + 1 ≤ 1000000 ∧ ex3.ps.length + 1 ≤ 1000000 := by decide +kernel
theorem ex_end : ex5.file sA = [1#8, 2#8] ∧ ex5.file sB = [] ∧ (ex5.fs.at? sB).isSome = true ∧ (ex5.fs.at? sA).isSome = true ∧ many ex5.ps = 0 := by decide +kernel
/-- A row of one part of one byte, written out. -/
theorem lit_one (S : Nat → Prop) (w : World) (x : B8) (hS : ∀ b, S b → b < w.heap.size) : PtIn S ((w.alloc (.cells #[.int .u8 (ub x)] 5)).alloc (.cells #[.slice (some ⟨w.heap.size, 0, none⟩) 1 1] 48)) (some ⟨w.heap.size + 1, 0, none⟩) [[x]] := by
  have h1 := heap_alloc_new w (.cells #[.int .u8 (ub x)] 5)
  have hs : (w.alloc (.cells #[.int .u8 (ub x)] 5)).heap.size = w.heap.size + 1 := by show (w.heap.push _).size = _; simp
  have h2 := heap_alloc_new (w.alloc (.cells #[.int .u8 (ub x)] 5)) (.cells #[.slice (some ⟨w.heap.size, 0, none⟩) 1 1] 48)
  rw [hs] at h2
  have h3 := ok_blk ((Ok.refl _).alloc (.cells #[.slice (some ⟨w.heap.size, 0, none⟩) 1 1] 48)) h1
  intro j hj
  obtain rfl : j = 0 := by simpa using hj
  refine ⟨w.heap.size + 1, 0, some ⟨w.heap.size, 0, none⟩, 1, 1, rfl, fun q => by have := hS _ q; omega, ?_, rfl, .inr ⟨w.heap.size, 0, 1, rfl, Nat.le_refl _, by show 1 ≤ _; omega, fun i hi => ?_⟩, fun _ g e q => ?_⟩
  · unfold World.cell?; simp only [h2]; rfl
  · obtain rfl : i = 0 := by have : i < 1 := hi; omega
    unfold World.cell?; simp only [h3]; rfl
  · cases e; exact absurd (hS _ q) (by show ¬ w.heap.size < w.heap.size; omega)
theorem lit_two (S : Nat → Prop) (w : World) (x y : B8) (hS : ∀ b, S b → b < w.heap.size) : PtIn S (((w.alloc (.cells #[.int .u8 (ub x)] 5)).alloc (.cells #[.int .u8 (ub y)] 5)).alloc (.cells #[.slice (some ⟨w.heap.size, 0, none⟩) 1 1, .slice (some ⟨w.heap.size + 1, 0, none⟩) 1 1] 48)) (some ⟨w.heap.size + 1 + 1, 0, none⟩) [[x], [y]] := by
  have h1 := heap_alloc_new w (.cells #[.int .u8 (ub x)] 5)
  have hs : (w.alloc (.cells #[.int .u8 (ub x)] 5)).heap.size = w.heap.size + 1 := by show (w.heap.push _).size = _; simp
  have h2 := heap_alloc_new (w.alloc (.cells #[.int .u8 (ub x)] 5)) (.cells #[.int .u8 (ub y)] 5)
  have h1' := ok_blk ((Ok.refl _).alloc (.cells #[.int .u8 (ub y)] 5)) h1
  rw [hs] at h2
  have hs2 : ((w.alloc (.cells #[.int .u8 (ub x)] 5)).alloc (.cells #[.int .u8 (ub y)] 5)).heap.size = w.heap.size + 1 + 1 := by show ((w.heap.push _).push _).size = _; simp
  generalize (w.alloc (.cells #[.int .u8 (ub x)] 5)).alloc (.cells #[.int .u8 (ub y)] 5) = w2 at *
  have h3 := heap_alloc_new w2 (.cells #[.slice (some ⟨w.heap.size, 0, none⟩) 1 1, .slice (some ⟨w.heap.size + 1, 0, none⟩) 1 1] 48)
  rw [hs2] at h3
  have h4 := ok_blk ((Ok.refl w2).alloc (.cells #[.slice (some ⟨w.heap.size, 0, none⟩) 1 1, .slice (some ⟨w.heap.size + 1, 0, none⟩) 1 1] 48)) h1'
  have h5 := ok_blk ((Ok.refl w2).alloc (.cells #[.slice (some ⟨w.heap.size, 0, none⟩) 1 1, .slice (some ⟨w.heap.size + 1, 0, none⟩) 1 1] 48)) h2
  intro j hj
  have : j = 0 ∨ j = 1 := by have : j < 2 := hj; omega
  rcases this with rfl | rfl
  · refine ⟨w.heap.size + 1 + 1, 0, some ⟨w.heap.size, 0, none⟩, 1, 1, rfl, fun q => by have := hS _ q; omega, ?_, rfl, .inr ⟨w.heap.size, 0, 1, rfl, Nat.le_refl _, by show 1 ≤ _; omega, fun i hi => ?_⟩, fun _ g e q => ?_⟩
    · unfold World.cell?; simp only [h3]; rfl
    · obtain rfl : i = 0 := by have : i < 1 := hi; omega
      unfold World.cell?; simp only [h4]; rfl
    · cases e; exact absurd (hS _ q) (by show ¬ w.heap.size < w.heap.size; omega)
  · refine ⟨w.heap.size + 1 + 1, 0, some ⟨w.heap.size + 1, 0, none⟩, 1, 1, rfl, fun q => by have := hS _ q; omega, ?_, rfl, .inr ⟨w.heap.size + 1, 0, 1, rfl, Nat.le_refl _, by show 1 ≤ _; omega, fun i hi => ?_⟩, fun _ g e q => ?_⟩
    · unfold World.cell?; simp only [h3]; rfl
    · obtain rfl : i = 0 := by have : i < 1 := hi; omega
      unfold World.cell?; simp only [h5]; rfl
    · cases e; exact absurd (hS _ q) (by show ¬ w.heap.size + 1 < w.heap.size; omega)
/-- The disk lies from block B on. -/
def From0 (B p : Nat) (pv : Sl) (mb : Nat) (vs : Tb Sl) : Prop := ∀ b, Blk p pv mb vs b → B ≤ b
theorem From0.next {B p mb : Nat} {pv pv' : Sl} {vs vs' : Tb Sl} {W : World} (h : From0 B p pv mb vs) (hB : B ≤ W.heap.size) (k : ∀ b, Blk p pv' mb vs' b → New (Blk p pv mb vs) W b) : From0 B p pv' mb vs' := fun b hb => by
  rcases k b hb with q | q
  · exact h b q
  · omega
theorem From0.ok {p mb : Nat} {pv : Sl} {vs : Tb Sl} {W0 W w : World} (h : From0 W0.heap.size p pv mb vs) (o : Ok W0 W) (k : Kp (Blk p pv mb vs) W w) : Ok W0 w :=
  ⟨k.os.trans o.os, k.tape.trans o.tape, k.output.trans o.output, Nat.le_trans o.size k.size, fun j hj => (k.block j (Nat.lt_of_lt_of_le hj o.size) (fun q => by have := h j q; omega)).trans (o.block j hj)⟩
set_option maxRecDepth 100000 in
set_option maxHeartbeats 4000000 in
theorem awake_f (W : World) : Calls Try.prog 10 #[] W (Ret W (.bool true)) := by
  go_enter Try.func10, Try.ntmps10
  go_wp2_with fail
  refine (new_f 4 W).mono ?_
  rintro _ w1 ⟨p, mb, rfl, hd, o1, hp, hmb⟩
  have HD1 := Lib.hid hd
  have HO1 := Lib.hid o1
  have HF1 : Hid (From0 W.heap.size p sl0 mb []) := Lib.hid fun b hb => by
    rcases hb with rfl | rfl | e | ⟨q, hq, _⟩
    · exact hp
    · exact hmb
    · cases e
    · cases hq
  clear hd o1 hp hmb
  go_wp2_with fail
  have HOL1 : Hid (Ok w1 (((w1.alloc (.cells #[.int .u8 (ub 1#8)] 5)).alloc (.cells #[.int .u8 (ub 2#8)] 5)).alloc (.cells #[.slice (some ⟨w1.heap.size, 0, none⟩) 1 1, .slice (some ⟨w1.heap.size + 1, 0, none⟩) 1 1] 48))) := Lib.hid ((((Ok.refl w1).alloc _).alloc _).alloc _)
  have hR1 : (fresh0 4).appR sA ([[1#8], [2#8]] : List (List B8)).flatten = (ex1, 0) := Prod.ext rfl ex_err.1
  have hap := append_f p (fresh0 4) sl0 mb [] sA (some ⟨w1.heap.size + 1 + 1, 0, none⟩) 2 2 [[1#8], [2#8]] (((w1.alloc (.cells #[.int .u8 (ub 1#8)] 5)).alloc (.cells #[.int .u8 (ub 2#8)] 5)).alloc (.cells #[.slice (some ⟨w1.heap.size, 0, none⟩) 1 1, .slice (some ⟨w1.heap.size + 1, 0, none⟩) 1 1] 48)) (HD1.out.ok HOL1.out) ex_small.1 ex_len.1 rfl (by omega) (by decide) (lit_two _ w1 1#8 2#8 (fun b hb => HD1.out.lt hb))
  rw [hR1] at hap
  clear hR1
  refine hap.mono ?_
  rintro _ w2 ⟨rfl, pv2, vs2, hd, hb, hk⟩
  have HD2 := Lib.hid hd
  have HOW1 : Hid (Ok W (((w1.alloc (.cells #[.int .u8 (ub 1#8)] 5)).alloc (.cells #[.int .u8 (ub 2#8)] 5)).alloc (.cells #[.slice (some ⟨w1.heap.size, 0, none⟩) 1 1, .slice (some ⟨w1.heap.size + 1, 0, none⟩) 1 1] 48))) := Lib.hid (HO1.out.trans HOL1.out)
  have HO2 : Hid (Ok W w2) := Lib.hid (HF1.out.ok HOW1.out hk)
  have HF2 : Hid (From0 W.heap.size p pv2 mb vs2) := Lib.hid (HF1.out.next HOW1.out.size hb)
  clear hap hd hb hk HOL1 HOW1
  go_wp2_with fail
  have HOL2 : Hid (Ok w2 ((w2.alloc (.cells #[.int .u8 (ub 3#8)] 5)).alloc (.cells #[.slice (some ⟨w2.heap.size, 0, none⟩) 1 1] 48))) := Lib.hid (((Ok.refl w2).alloc _).alloc _)
  have hR2 : (ex1).appR sB ([[3#8]] : List (List B8)).flatten = (ex2, 0) := Prod.ext rfl ex_err.2.1
  have hap := append_f p (ex1) pv2 mb vs2 sB (some ⟨w2.heap.size + 1, 0, none⟩) 1 1 [[3#8]] ((w2.alloc (.cells #[.int .u8 (ub 3#8)] 5)).alloc (.cells #[.slice (some ⟨w2.heap.size, 0, none⟩) 1 1] 48)) (HD2.out.ok HOL2.out) ex_small.2.1 ex_len.2.1 rfl (by omega) (by decide) (lit_one _ w2 3#8 (fun b hb => HD2.out.lt hb))
  rw [hR2] at hap
  clear hR2
  refine hap.mono ?_
  rintro _ w3 ⟨rfl, pv3, vs3, hd, hb, hk⟩
  have HD3 := Lib.hid hd
  have HOW2 : Hid (Ok W ((w2.alloc (.cells #[.int .u8 (ub 3#8)] 5)).alloc (.cells #[.slice (some ⟨w2.heap.size, 0, none⟩) 1 1] 48))) := Lib.hid (HO2.out.trans HOL2.out)
  have HO3 : Hid (Ok W w3) := Lib.hid (HF2.out.ok HOW2.out hk)
  have HF3 : Hid (From0 W.heap.size p pv3 mb vs3) := Lib.hid (HF2.out.next HOW2.out.size hb)
  clear hap hd hb hk HOL2 HOW2
  go_wp2_with fail
  have HOL3 : Hid (Ok w3 ((w3.alloc (.cells #[.int .u8 (ub 4#8)] 5)).alloc (.cells #[.slice (some ⟨w3.heap.size, 0, none⟩) 1 1] 48))) := Lib.hid (((Ok.refl w3).alloc _).alloc _)
  have hR3 : (ex2).appR sA ([[4#8]] : List (List B8)).flatten = (ex3, 0) := Prod.ext rfl ex_err.2.2.1
  have hap := append_f p (ex2) pv3 mb vs3 sA (some ⟨w3.heap.size + 1, 0, none⟩) 1 1 [[4#8]] ((w3.alloc (.cells #[.int .u8 (ub 4#8)] 5)).alloc (.cells #[.slice (some ⟨w3.heap.size, 0, none⟩) 1 1] 48)) (HD3.out.ok HOL3.out) ex_small.2.2.1 ex_len.2.2.1 rfl (by omega) (by decide) (lit_one _ w3 4#8 (fun b hb => HD3.out.lt hb))
  rw [hR3] at hap
  clear hR3
  refine hap.mono ?_
  rintro _ w4 ⟨rfl, pv4, vs4, hd, hb, hk⟩
  have HD4 := Lib.hid hd
  have HOW3 : Hid (Ok W ((w3.alloc (.cells #[.int .u8 (ub 4#8)] 5)).alloc (.cells #[.slice (some ⟨w3.heap.size, 0, none⟩) 1 1] 48))) := Lib.hid (HO3.out.trans HOL3.out)
  have HO4 : Hid (Ok W w4) := Lib.hid (HF3.out.ok HOW3.out hk)
  have HF4 : Hid (From0 W.heap.size p pv4 mb vs4) := Lib.hid (HF3.out.next HOW3.out.size hb)
  clear hap hd hb hk HOL3 HOW3
  go_wp2_with fail
  have HOL4 : Hid (Ok w4 ((w4.alloc (.cells #[.int .u8 (ub 5#8)] 5)).alloc (.cells #[.slice (some ⟨w4.heap.size, 0, none⟩) 1 1] 48))) := Lib.hid (((Ok.refl w4).alloc _).alloc _)
  have hR4 : (ex3).appR sC ([[5#8]] : List (List B8)).flatten = (ex4, 8) := Prod.ext rfl ex_err.2.2.2
  have hap := append_f p (ex3) pv4 mb vs4 sC (some ⟨w4.heap.size + 1, 0, none⟩) 1 1 [[5#8]] ((w4.alloc (.cells #[.int .u8 (ub 5#8)] 5)).alloc (.cells #[.slice (some ⟨w4.heap.size, 0, none⟩) 1 1] 48)) (HD4.out.ok HOL4.out) ex_small.2.2.2.1 ex_len.2.2.2 rfl (by omega) (by decide) (lit_one _ w4 5#8 (fun b hb => HD4.out.lt hb))
  rw [hR4] at hap
  clear hR4
  refine hap.mono ?_
  rintro _ w5 ⟨rfl, pv5, vs5, hd, hb, hk⟩
  have HD5 := Lib.hid hd
  have HOW4 : Hid (Ok W ((w4.alloc (.cells #[.int .u8 (ub 5#8)] 5)).alloc (.cells #[.slice (some ⟨w4.heap.size, 0, none⟩) 1 1] 48))) := Lib.hid (HO4.out.trans HOL4.out)
  have HO5 : Hid (Ok W w5) := Lib.hid (HF4.out.ok HOW4.out hk)
  have HF5 : Hid (From0 W.heap.size p pv5 mb vs5) := Lib.hid (HF4.out.next HOW4.out.size hb)
  clear hap hd hb hk HOL4 HOW4
  go_wp2_with fail
  refine (crash_f p ex4 pv5 mb vs5 2 w5 HD5.out ex_small.2.2.2.2.1 (by omega) (by omega)).mono ?_
  rintro _ w6 ⟨rfl, pv6, vs6, hd, hb, hk⟩
  have HD6 : Hid (DkAt p ex5 pv6 mb vs6 w6) := Lib.hid hd
  have HO6 : Hid (Ok W w6) := Lib.hid (HF5.out.ok HO5.out hk)
  have HF6 : Hid (From0 W.heap.size p pv6 mb vs6) := Lib.hid (HF5.out.next HO5.out.size hb)
  clear hd hb hk
  go_wp2_with fail
  have hrd := read_f p ex5 pv6 mb vs6 sA w6 HD6.out ex_small.2.2.2.2.2
  rw [ex_end.1, ex_end.2.2.2.1] at hrd
  refine hrd.mono ?_
  rintro _ w7 ⟨s7, rfl, ho7, -, hn7, o7⟩
  have HO7 : Hid (Ok W w7) := Lib.hid (HO6.out.trans o7)
  have HD7 := Lib.hid (HD6.out.ok o7)
  have HA7 := Lib.hid (ho7.bytes (by decide))
  clear hrd ho7 hn7 o7
  unfold Sl.v at HA7 ⊢
  go_wp2_with fail
  have hrd := read_f p ex5 pv6 mb vs6 sB w7 HD7.out ex_small.2.2.2.2.2
  rw [ex_end.2.1, ex_end.2.2.1] at hrd
  refine hrd.mono ?_
  rintro _ w8 ⟨s8, rfl, ho8, -, hn8, o8⟩
  have HO8 : Hid (Ok W w8) := Lib.hid (HO7.out.trans o8)
  have HD8 := Lib.hid (HD7.out.ok o8)
  have HA8 := Lib.hid (HA7.out.ok o8)
  have hn80 : s8.n = 0 := hn8
  clear hrd ho8 hn8 o8
  unfold Sl.v
  go_wp2_with fail
  have HOL8 : Hid (Ok w8 (w8.alloc (.cells #[.int .u8 1, .int .u8 2] 5))) := Lib.hid ((Ok.refl w8).alloc _)
  have hlit : BytesIn (w8.alloc (.cells #[.int .u8 1, .int .u8 2] 5)) (.slice (some ⟨w8.heap.size, 0, none⟩) 2 2) [1#8, 2#8] := by
    have h := heap_alloc_new w8 (.cells #[.int .u8 1, .int .u8 2] 5)
    refine .inr ⟨w8.heap.size, 0, 2, rfl, Nat.le_refl _, by show 2 ≤ _; omega, fun i hi => ?_⟩
    have : i = 0 ∨ i = 1 := by have : i < 2 := hi; omega
    rcases this with rfl | rfl
    · unfold World.cell?; simp only [h]; rfl
    · unfold World.cell?; simp only [h]; rfl
  have hsm := sameBytes_any _ _ [1#8, 2#8] [1#8, 2#8] _ (HA8.out.ok HOL8.out) hlit
  have he : eqB [1#8, 2#8] [1#8, 2#8] = true := rfl
  rw [he] at hsm
  refine hsm.mono ?_
  rintro _ w9 ⟨rfl, o9⟩
  have HO9 : Hid (Ok W w9) := Lib.hid ((HO8.out.trans HOL8.out).trans o9)
  have HD9 := Lib.hid (HD8.out.ok (HOL8.out.trans o9))
  clear hsm he hlit o9 HOL8
  go_wp2_with fail
  have hwt := waits_f p ex5 pv6 mb vs6 w9 HD9.out ex_small.2.2.2.2.2
  rw [ex_end.2.2.2.2] at hwt
  refine hwt.mono ?_
  rintro _ w10 ⟨rfl, o10⟩
  have HO10 : Hid (Ok W w10) := Lib.hid (HO9.out.trans o10)
  clear hwt o10
  go_wp2_with fail
  go_ret
  exact ⟨rfl, HO10.out⟩
end Go.Proofs.Ytfchjdhjbepocaa
