/- A handoff read by the document. -/
import Derived.Test.YtdabdkedgigjdaaGreatYk
import Derived.Test.YtdabdkedgigjdaaGreatR
import Derived.Outline
import Derived.Test.YtdabdkedgigjdaaGreatVb
import Derived.Laws.Bits128
import Derived.Lib.ConvBytes
import Derived.Laws.IdiomStrings
namespace Go.Proofs.YtdabdkedgigjdaaGreat
open Go.RowKit

theorem sc_iffb (num : Int) (lo hi : Str) (fr tt xe un st : Int) : scB ⟨num, ⟨lo, hi⟩, fr, tt, xe, un, st⟩ = true ↔ (1 ≤ num ∧ num ≤ 1073741824) ∧ rightB ⟨lo, hi⟩ = true ∧ (1 ≤ fr ∧ fr ≤ 4) ∧ (1 ≤ tt ∧ tt ≤ 4) ∧ fr ≠ tt ∧ (1 ≤ xe ∧ xe ≤ 1073741824) ∧ (1 ≤ st ∧ st ≤ 9) ∧ (if 4 ≤ st ∧ st ≤ 6 then xe < un ∧ un ≤ 1073741824 else un = 0) := by
  unfold scB sc1 sc2 unB tuB upM stB
  simp only [Bool.and_eq_true, decide_eq_true_eq, Bool.not_eq_true', beq_eq_false_iff_ne, ne_eq]
  by_cases h : 4 ≤ st ∧ st ≤ 6
  · rw [if_pos h, if_pos h]
    simp only [Bool.and_eq_true, decide_eq_true_eq]
    constructor
    · rintro ⟨⟨⟨⟨⟨⟨a, b⟩, c⟩, d⟩, e⟩, f, g⟩, i⟩; exact ⟨a, b, c, d, e, f, g, i⟩
    · rintro ⟨a, b, c, d, e, f, g, i⟩; exact ⟨⟨⟨⟨⟨⟨a, b⟩, c⟩, d⟩, e⟩, f, g⟩, i⟩
  · rw [if_neg h, if_neg h]
    simp only [beq_iff_eq]
    constructor
    · rintro ⟨⟨⟨⟨⟨⟨a, b⟩, c⟩, d⟩, e⟩, f, g⟩, i⟩; exact ⟨a, b, c, d, e, f, g, i⟩
    · rintro ⟨a, b, c, d, e, f, g, i⟩; exact ⟨⟨⟨⟨⟨⟨a, b⟩, c⟩, d⟩, e⟩, f, g⟩, i⟩

set_option maxRecDepth 100000 in
set_option maxHeartbeats 4000000 in
theorem ronb_w (x : Sc) (w : World) : Calls Tryz.prog 79 #[scV x] w (Ret w (.bool (scB x))) := by
  obtain ⟨num, ⟨lo, hi⟩, fr, tt, xe, un, st⟩ := x
  have hiff := sc_iffb num lo hi fr tt xe un st
  obtain ⟨R, hR⟩ : ∃ R, scB ⟨num, ⟨lo, hi⟩, fr, tt, xe, un, st⟩ = R := ⟨_, rfl⟩
  rw [hR] at hiff ⊢
  clear hR
  have hrr := rright_w ⟨lo, hi⟩
  obtain ⟨rb, hrb⟩ : ∃ b, rightB ⟨lo, hi⟩ = b := ⟨_, rfl⟩
  rw [hrb] at hrr hiff
  clear hrb
  unfold spV at hrr
  simp only at hrr
  have HRR := Lib.hid hrr
  clear hrr
  unfold scV
  simp only
  obtain ⟨p, hp⟩ : ∃ p, w.heap.size = p := ⟨_, rfl⟩
  by_cases c0 : num < 1
  · have d0 : decide (num < 1) = true := decide_eq_true c0
    obtain rfl : R = false := Bool.eq_false_iff.2 (fun h => by have := hiff.1 h; omega)
    clear hiff c0
    go_enter Tryz.func79, Tryz.ntmps79
    go_wp2
    go_ret
    exact ⟨by first | rfl | simp, Ok.alloc (Ok.refl _) _⟩
  have d0 : decide (num < 1) = false := decide_eq_false c0
  have C0 := Lib.hid c0
  clear c0
  by_cases c1 : 1073741824 < num
  · have d1 : decide (1073741824 < num) = true := decide_eq_true c1
    obtain rfl : R = false := Bool.eq_false_iff.2 (fun h => by have := hiff.1 h; omega)
    clear hiff c1
    go_enter Tryz.func79, Tryz.ntmps79
    go_wp2
    go_ret
    exact ⟨by first | rfl | simp, Ok.alloc (Ok.refl _) _⟩
  have d1 : decide (1073741824 < num) = false := decide_eq_false c1
  have C1 := Lib.hid c1
  clear c1
  cases rb with
  | false =>
    obtain rfl : R = false := Bool.eq_false_iff.2 (fun h => absurd (hiff.1 h).2.1 (by decide))
    clear hiff
    go_enter Tryz.func79, Tryz.ntmps79
    go_wp2_with fail
    obtain ⟨W, hW⟩ : ∃ W, w.alloc (.cells #[.int .i64 num, .string lo, .string hi, .int .i64 fr, .int .i64 tt, .int .i64 xe, .int .i64 un, .int .u8 st] 52) = W := ⟨_, rfl⟩
    have X2 : W.cell? ⟨p, 3, none⟩ = some (.int .i64 fr) := by subst hW; subst hp; go_cell
    have X3 : W.cell? ⟨p, 4, none⟩ = some (.int .i64 tt) := by subst hW; subst hp; go_cell
    have X4 : W.cell? ⟨p, 5, none⟩ = some (.int .i64 xe) := by subst hW; subst hp; go_cell
    have X5 : W.cell? ⟨p, 6, none⟩ = some (.int .i64 un) := by subst hW; subst hp; go_cell
    have X6 : W.cell? ⟨p, 7, none⟩ = some (.int .u8 st) := by subst hW; subst hp; go_cell
    have oW : Ok w W := by rw [← hW]; exact Ok.alloc (Ok.refl _) _
    try rw [hp]
    rw [hW]
    clear hW hp
    (with_reducible refine (HRR.out W).mono ?_)
    rintro _ w1 ⟨rfl, o1⟩
    replace X2 := Ok.cell o1 X2; replace X3 := Ok.cell o1 X3; replace X4 := Ok.cell o1 X4; replace X5 := Ok.cell o1 X5; replace X6 := Ok.cell o1 X6
    have OK1 := Lib.hid (Ok.call oW o1)
    clear o1 oW
    go_wp2
    go_ret
    exact ⟨by first | rfl | simp, OK1.out⟩
  | true =>
  by_cases c3 : fr < 1
  · have d3 : decide (fr < 1) = true := decide_eq_true c3
    obtain rfl : R = false := Bool.eq_false_iff.2 (fun h => by have := hiff.1 h; omega)
    clear hiff c3
    go_enter Tryz.func79, Tryz.ntmps79
    go_wp2_with fail
    obtain ⟨W, hW⟩ : ∃ W, w.alloc (.cells #[.int .i64 num, .string lo, .string hi, .int .i64 fr, .int .i64 tt, .int .i64 xe, .int .i64 un, .int .u8 st] 52) = W := ⟨_, rfl⟩
    have X2 : W.cell? ⟨p, 3, none⟩ = some (.int .i64 fr) := by subst hW; subst hp; go_cell
    have X3 : W.cell? ⟨p, 4, none⟩ = some (.int .i64 tt) := by subst hW; subst hp; go_cell
    have X4 : W.cell? ⟨p, 5, none⟩ = some (.int .i64 xe) := by subst hW; subst hp; go_cell
    have X5 : W.cell? ⟨p, 6, none⟩ = some (.int .i64 un) := by subst hW; subst hp; go_cell
    have X6 : W.cell? ⟨p, 7, none⟩ = some (.int .u8 st) := by subst hW; subst hp; go_cell
    have oW : Ok w W := by rw [← hW]; exact Ok.alloc (Ok.refl _) _
    try rw [hp]
    rw [hW]
    clear hW hp
    (with_reducible refine (HRR.out W).mono ?_)
    rintro _ w1 ⟨rfl, o1⟩
    replace X2 := Ok.cell o1 X2; replace X3 := Ok.cell o1 X3; replace X4 := Ok.cell o1 X4; replace X5 := Ok.cell o1 X5; replace X6 := Ok.cell o1 X6
    have OK1 := Lib.hid (Ok.call oW o1)
    clear o1 oW
    go_wp2
    go_ret
    exact ⟨by first | rfl | simp, OK1.out⟩
  have d3 : decide (fr < 1) = false := decide_eq_false c3
  have C3 := Lib.hid c3
  clear c3
  by_cases c4 : 4 < fr
  · have d4 : decide (4 < fr) = true := decide_eq_true c4
    obtain rfl : R = false := Bool.eq_false_iff.2 (fun h => by have := hiff.1 h; omega)
    clear hiff c4
    go_enter Tryz.func79, Tryz.ntmps79
    go_wp2_with fail
    obtain ⟨W, hW⟩ : ∃ W, w.alloc (.cells #[.int .i64 num, .string lo, .string hi, .int .i64 fr, .int .i64 tt, .int .i64 xe, .int .i64 un, .int .u8 st] 52) = W := ⟨_, rfl⟩
    have X2 : W.cell? ⟨p, 3, none⟩ = some (.int .i64 fr) := by subst hW; subst hp; go_cell
    have X3 : W.cell? ⟨p, 4, none⟩ = some (.int .i64 tt) := by subst hW; subst hp; go_cell
    have X4 : W.cell? ⟨p, 5, none⟩ = some (.int .i64 xe) := by subst hW; subst hp; go_cell
    have X5 : W.cell? ⟨p, 6, none⟩ = some (.int .i64 un) := by subst hW; subst hp; go_cell
    have X6 : W.cell? ⟨p, 7, none⟩ = some (.int .u8 st) := by subst hW; subst hp; go_cell
    have oW : Ok w W := by rw [← hW]; exact Ok.alloc (Ok.refl _) _
    try rw [hp]
    rw [hW]
    clear hW hp
    (with_reducible refine (HRR.out W).mono ?_)
    rintro _ w1 ⟨rfl, o1⟩
    replace X2 := Ok.cell o1 X2; replace X3 := Ok.cell o1 X3; replace X4 := Ok.cell o1 X4; replace X5 := Ok.cell o1 X5; replace X6 := Ok.cell o1 X6
    have OK1 := Lib.hid (Ok.call oW o1)
    clear o1 oW
    go_wp2
    go_ret
    exact ⟨by first | rfl | simp, OK1.out⟩
  have d4 : decide (4 < fr) = false := decide_eq_false c4
  have C4 := Lib.hid c4
  clear c4
  by_cases c5 : tt < 1
  · have d5 : decide (tt < 1) = true := decide_eq_true c5
    obtain rfl : R = false := Bool.eq_false_iff.2 (fun h => by have := hiff.1 h; omega)
    clear hiff c5
    go_enter Tryz.func79, Tryz.ntmps79
    go_wp2_with fail
    obtain ⟨W, hW⟩ : ∃ W, w.alloc (.cells #[.int .i64 num, .string lo, .string hi, .int .i64 fr, .int .i64 tt, .int .i64 xe, .int .i64 un, .int .u8 st] 52) = W := ⟨_, rfl⟩
    have X2 : W.cell? ⟨p, 3, none⟩ = some (.int .i64 fr) := by subst hW; subst hp; go_cell
    have X3 : W.cell? ⟨p, 4, none⟩ = some (.int .i64 tt) := by subst hW; subst hp; go_cell
    have X4 : W.cell? ⟨p, 5, none⟩ = some (.int .i64 xe) := by subst hW; subst hp; go_cell
    have X5 : W.cell? ⟨p, 6, none⟩ = some (.int .i64 un) := by subst hW; subst hp; go_cell
    have X6 : W.cell? ⟨p, 7, none⟩ = some (.int .u8 st) := by subst hW; subst hp; go_cell
    have oW : Ok w W := by rw [← hW]; exact Ok.alloc (Ok.refl _) _
    try rw [hp]
    rw [hW]
    clear hW hp
    (with_reducible refine (HRR.out W).mono ?_)
    rintro _ w1 ⟨rfl, o1⟩
    replace X2 := Ok.cell o1 X2; replace X3 := Ok.cell o1 X3; replace X4 := Ok.cell o1 X4; replace X5 := Ok.cell o1 X5; replace X6 := Ok.cell o1 X6
    have OK1 := Lib.hid (Ok.call oW o1)
    clear o1 oW
    go_wp2
    go_ret
    exact ⟨by first | rfl | simp, OK1.out⟩
  have d5 : decide (tt < 1) = false := decide_eq_false c5
  have C5 := Lib.hid c5
  clear c5
  by_cases c6 : 4 < tt
  · have d6 : decide (4 < tt) = true := decide_eq_true c6
    obtain rfl : R = false := Bool.eq_false_iff.2 (fun h => by have := hiff.1 h; omega)
    clear hiff c6
    go_enter Tryz.func79, Tryz.ntmps79
    go_wp2_with fail
    obtain ⟨W, hW⟩ : ∃ W, w.alloc (.cells #[.int .i64 num, .string lo, .string hi, .int .i64 fr, .int .i64 tt, .int .i64 xe, .int .i64 un, .int .u8 st] 52) = W := ⟨_, rfl⟩
    have X2 : W.cell? ⟨p, 3, none⟩ = some (.int .i64 fr) := by subst hW; subst hp; go_cell
    have X3 : W.cell? ⟨p, 4, none⟩ = some (.int .i64 tt) := by subst hW; subst hp; go_cell
    have X4 : W.cell? ⟨p, 5, none⟩ = some (.int .i64 xe) := by subst hW; subst hp; go_cell
    have X5 : W.cell? ⟨p, 6, none⟩ = some (.int .i64 un) := by subst hW; subst hp; go_cell
    have X6 : W.cell? ⟨p, 7, none⟩ = some (.int .u8 st) := by subst hW; subst hp; go_cell
    have oW : Ok w W := by rw [← hW]; exact Ok.alloc (Ok.refl _) _
    try rw [hp]
    rw [hW]
    clear hW hp
    (with_reducible refine (HRR.out W).mono ?_)
    rintro _ w1 ⟨rfl, o1⟩
    replace X2 := Ok.cell o1 X2; replace X3 := Ok.cell o1 X3; replace X4 := Ok.cell o1 X4; replace X5 := Ok.cell o1 X5; replace X6 := Ok.cell o1 X6
    have OK1 := Lib.hid (Ok.call oW o1)
    clear o1 oW
    go_wp2
    go_ret
    exact ⟨by first | rfl | simp, OK1.out⟩
  have d6 : decide (4 < tt) = false := decide_eq_false c6
  have C6 := Lib.hid c6
  clear c6
  by_cases c7 : fr = tt
  · have d7 : (fr == tt) = true := beq_iff_eq.2 c7
    obtain rfl : R = false := Bool.eq_false_iff.2 (fun h => (hiff.1 h).2.2.2.2.1 c7)
    clear hiff c7
    go_enter Tryz.func79, Tryz.ntmps79
    go_wp2_with fail
    obtain ⟨W, hW⟩ : ∃ W, w.alloc (.cells #[.int .i64 num, .string lo, .string hi, .int .i64 fr, .int .i64 tt, .int .i64 xe, .int .i64 un, .int .u8 st] 52) = W := ⟨_, rfl⟩
    have X2 : W.cell? ⟨p, 3, none⟩ = some (.int .i64 fr) := by subst hW; subst hp; go_cell
    have X3 : W.cell? ⟨p, 4, none⟩ = some (.int .i64 tt) := by subst hW; subst hp; go_cell
    have X4 : W.cell? ⟨p, 5, none⟩ = some (.int .i64 xe) := by subst hW; subst hp; go_cell
    have X5 : W.cell? ⟨p, 6, none⟩ = some (.int .i64 un) := by subst hW; subst hp; go_cell
    have X6 : W.cell? ⟨p, 7, none⟩ = some (.int .u8 st) := by subst hW; subst hp; go_cell
    have oW : Ok w W := by rw [← hW]; exact Ok.alloc (Ok.refl _) _
    try rw [hp]
    rw [hW]
    clear hW hp
    (with_reducible refine (HRR.out W).mono ?_)
    rintro _ w1 ⟨rfl, o1⟩
    replace X2 := Ok.cell o1 X2; replace X3 := Ok.cell o1 X3; replace X4 := Ok.cell o1 X4; replace X5 := Ok.cell o1 X5; replace X6 := Ok.cell o1 X6
    have OK1 := Lib.hid (Ok.call oW o1)
    clear o1 oW
    go_wp2
    go_ret
    exact ⟨by first | rfl | simp, OK1.out⟩
  have d7 : (fr == tt) = false := beq_eq_false_iff_ne.2 c7
  have C7 := Lib.hid c7
  clear c7
  by_cases c8 : xe < 1
  · have d8 : decide (xe < 1) = true := decide_eq_true c8
    obtain rfl : R = false := Bool.eq_false_iff.2 (fun h => by have := hiff.1 h; omega)
    clear hiff c8
    go_enter Tryz.func79, Tryz.ntmps79
    go_wp2_with fail
    obtain ⟨W, hW⟩ : ∃ W, w.alloc (.cells #[.int .i64 num, .string lo, .string hi, .int .i64 fr, .int .i64 tt, .int .i64 xe, .int .i64 un, .int .u8 st] 52) = W := ⟨_, rfl⟩
    have X2 : W.cell? ⟨p, 3, none⟩ = some (.int .i64 fr) := by subst hW; subst hp; go_cell
    have X3 : W.cell? ⟨p, 4, none⟩ = some (.int .i64 tt) := by subst hW; subst hp; go_cell
    have X4 : W.cell? ⟨p, 5, none⟩ = some (.int .i64 xe) := by subst hW; subst hp; go_cell
    have X5 : W.cell? ⟨p, 6, none⟩ = some (.int .i64 un) := by subst hW; subst hp; go_cell
    have X6 : W.cell? ⟨p, 7, none⟩ = some (.int .u8 st) := by subst hW; subst hp; go_cell
    have oW : Ok w W := by rw [← hW]; exact Ok.alloc (Ok.refl _) _
    try rw [hp]
    rw [hW]
    clear hW hp
    (with_reducible refine (HRR.out W).mono ?_)
    rintro _ w1 ⟨rfl, o1⟩
    replace X2 := Ok.cell o1 X2; replace X3 := Ok.cell o1 X3; replace X4 := Ok.cell o1 X4; replace X5 := Ok.cell o1 X5; replace X6 := Ok.cell o1 X6
    have OK1 := Lib.hid (Ok.call oW o1)
    clear o1 oW
    go_wp2
    go_ret
    exact ⟨by first | rfl | simp, OK1.out⟩
  have d8 : decide (xe < 1) = false := decide_eq_false c8
  have C8 := Lib.hid c8
  clear c8
  by_cases c9 : 1073741824 < xe
  · have d9 : decide (1073741824 < xe) = true := decide_eq_true c9
    obtain rfl : R = false := Bool.eq_false_iff.2 (fun h => by have := hiff.1 h; omega)
    clear hiff c9
    go_enter Tryz.func79, Tryz.ntmps79
    go_wp2_with fail
    obtain ⟨W, hW⟩ : ∃ W, w.alloc (.cells #[.int .i64 num, .string lo, .string hi, .int .i64 fr, .int .i64 tt, .int .i64 xe, .int .i64 un, .int .u8 st] 52) = W := ⟨_, rfl⟩
    have X2 : W.cell? ⟨p, 3, none⟩ = some (.int .i64 fr) := by subst hW; subst hp; go_cell
    have X3 : W.cell? ⟨p, 4, none⟩ = some (.int .i64 tt) := by subst hW; subst hp; go_cell
    have X4 : W.cell? ⟨p, 5, none⟩ = some (.int .i64 xe) := by subst hW; subst hp; go_cell
    have X5 : W.cell? ⟨p, 6, none⟩ = some (.int .i64 un) := by subst hW; subst hp; go_cell
    have X6 : W.cell? ⟨p, 7, none⟩ = some (.int .u8 st) := by subst hW; subst hp; go_cell
    have oW : Ok w W := by rw [← hW]; exact Ok.alloc (Ok.refl _) _
    try rw [hp]
    rw [hW]
    clear hW hp
    (with_reducible refine (HRR.out W).mono ?_)
    rintro _ w1 ⟨rfl, o1⟩
    replace X2 := Ok.cell o1 X2; replace X3 := Ok.cell o1 X3; replace X4 := Ok.cell o1 X4; replace X5 := Ok.cell o1 X5; replace X6 := Ok.cell o1 X6
    have OK1 := Lib.hid (Ok.call oW o1)
    clear o1 oW
    go_wp2
    go_ret
    exact ⟨by first | rfl | simp, OK1.out⟩
  have d9 : decide (1073741824 < xe) = false := decide_eq_false c9
  have C9 := Lib.hid c9
  clear c9
  by_cases c10 : st < 1
  · have d10 : decide (st < 1) = true := decide_eq_true c10
    obtain rfl : R = false := Bool.eq_false_iff.2 (fun h => by have := hiff.1 h; omega)
    clear hiff c10
    go_enter Tryz.func79, Tryz.ntmps79
    go_wp2_with fail
    obtain ⟨W, hW⟩ : ∃ W, w.alloc (.cells #[.int .i64 num, .string lo, .string hi, .int .i64 fr, .int .i64 tt, .int .i64 xe, .int .i64 un, .int .u8 st] 52) = W := ⟨_, rfl⟩
    have X2 : W.cell? ⟨p, 3, none⟩ = some (.int .i64 fr) := by subst hW; subst hp; go_cell
    have X3 : W.cell? ⟨p, 4, none⟩ = some (.int .i64 tt) := by subst hW; subst hp; go_cell
    have X4 : W.cell? ⟨p, 5, none⟩ = some (.int .i64 xe) := by subst hW; subst hp; go_cell
    have X5 : W.cell? ⟨p, 6, none⟩ = some (.int .i64 un) := by subst hW; subst hp; go_cell
    have X6 : W.cell? ⟨p, 7, none⟩ = some (.int .u8 st) := by subst hW; subst hp; go_cell
    have oW : Ok w W := by rw [← hW]; exact Ok.alloc (Ok.refl _) _
    try rw [hp]
    rw [hW]
    clear hW hp
    (with_reducible refine (HRR.out W).mono ?_)
    rintro _ w1 ⟨rfl, o1⟩
    replace X2 := Ok.cell o1 X2; replace X3 := Ok.cell o1 X3; replace X4 := Ok.cell o1 X4; replace X5 := Ok.cell o1 X5; replace X6 := Ok.cell o1 X6
    have OK1 := Lib.hid (Ok.call oW o1)
    clear o1 oW
    go_wp2
    go_ret
    exact ⟨by first | rfl | simp, OK1.out⟩
  have d10 : decide (st < 1) = false := decide_eq_false c10
  have C10 := Lib.hid c10
  clear c10
  by_cases c11 : 9 < st
  · have d11 : decide (9 < st) = true := decide_eq_true c11
    obtain rfl : R = false := Bool.eq_false_iff.2 (fun h => by have := hiff.1 h; omega)
    clear hiff c11
    go_enter Tryz.func79, Tryz.ntmps79
    go_wp2_with fail
    obtain ⟨W, hW⟩ : ∃ W, w.alloc (.cells #[.int .i64 num, .string lo, .string hi, .int .i64 fr, .int .i64 tt, .int .i64 xe, .int .i64 un, .int .u8 st] 52) = W := ⟨_, rfl⟩
    have X2 : W.cell? ⟨p, 3, none⟩ = some (.int .i64 fr) := by subst hW; subst hp; go_cell
    have X3 : W.cell? ⟨p, 4, none⟩ = some (.int .i64 tt) := by subst hW; subst hp; go_cell
    have X4 : W.cell? ⟨p, 5, none⟩ = some (.int .i64 xe) := by subst hW; subst hp; go_cell
    have X5 : W.cell? ⟨p, 6, none⟩ = some (.int .i64 un) := by subst hW; subst hp; go_cell
    have X6 : W.cell? ⟨p, 7, none⟩ = some (.int .u8 st) := by subst hW; subst hp; go_cell
    have oW : Ok w W := by rw [← hW]; exact Ok.alloc (Ok.refl _) _
    try rw [hp]
    rw [hW]
    clear hW hp
    (with_reducible refine (HRR.out W).mono ?_)
    rintro _ w1 ⟨rfl, o1⟩
    replace X2 := Ok.cell o1 X2; replace X3 := Ok.cell o1 X3; replace X4 := Ok.cell o1 X4; replace X5 := Ok.cell o1 X5; replace X6 := Ok.cell o1 X6
    have OK1 := Lib.hid (Ok.call oW o1)
    clear o1 oW
    go_wp2
    go_ret
    exact ⟨by first | rfl | simp, OK1.out⟩
  have d11 : decide (9 < st) = false := decide_eq_false c11
  have C11 := Lib.hid c11
  clear c11
  have HB : Hid (R = true ↔ (if 4 ≤ st ∧ st ≤ 6 then xe < un ∧ un ≤ 1073741824 else un = 0)) := Lib.hid (hiff.trans ⟨fun h => h.2.2.2.2.2.2.2, fun h => ⟨by have := C0.out; have := C1.out; omega, rfl, by have := C3.out; have := C4.out; omega, by have := C5.out; have := C6.out; omega, C7.out, by have := C8.out; have := C9.out; omega, by have := C10.out; have := C11.out; omega, h⟩⟩)
  clear hiff
  by_cases e1 : 4 ≤ st
  · have f1 : decide (4 ≤ st) = true := decide_eq_true e1
    by_cases e2 : st ≤ 6
    · have f2 : decide (st ≤ 6) = true := decide_eq_true e2
      by_cases e3 : xe < un
      · have f3 : decide (xe < un) = true := decide_eq_true e3
        obtain rfl : R = decide (un ≤ 1073741824) := by
          have := HB.out
          rw [if_pos ⟨e1, e2⟩] at this
          rw [Bool.eq_iff_iff, this, decide_eq_true_eq]
          exact ⟨fun h => h.2, fun h => ⟨e3, h⟩⟩
        clear e1 e2 e3 HB
        go_enter Tryz.func79, Tryz.ntmps79
        go_wp2_with fail
        obtain ⟨W, hW⟩ : ∃ W, w.alloc (.cells #[.int .i64 num, .string lo, .string hi, .int .i64 fr, .int .i64 tt, .int .i64 xe, .int .i64 un, .int .u8 st] 52) = W := ⟨_, rfl⟩
        have X2 : W.cell? ⟨p, 3, none⟩ = some (.int .i64 fr) := by subst hW; subst hp; go_cell
        have X3 : W.cell? ⟨p, 4, none⟩ = some (.int .i64 tt) := by subst hW; subst hp; go_cell
        have X4 : W.cell? ⟨p, 5, none⟩ = some (.int .i64 xe) := by subst hW; subst hp; go_cell
        have X5 : W.cell? ⟨p, 6, none⟩ = some (.int .i64 un) := by subst hW; subst hp; go_cell
        have X6 : W.cell? ⟨p, 7, none⟩ = some (.int .u8 st) := by subst hW; subst hp; go_cell
        have oW : Ok w W := by rw [← hW]; exact Ok.alloc (Ok.refl _) _
        try rw [hp]
        rw [hW]
        clear hW hp
        (with_reducible refine (HRR.out W).mono ?_)
        rintro _ w1 ⟨rfl, o1⟩
        replace X2 := Ok.cell o1 X2; replace X3 := Ok.cell o1 X3; replace X4 := Ok.cell o1 X4; replace X5 := Ok.cell o1 X5; replace X6 := Ok.cell o1 X6
        have OK1 := Lib.hid (Ok.call oW o1)
        clear o1 oW
        go_wp2
        go_ret
        exact ⟨by first | rfl | simp, OK1.out⟩
      · have f3 : decide (xe < un) = false := decide_eq_false e3
        obtain rfl : R = false := Bool.eq_false_iff.2 (fun h => by
          have := HB.out.1 h
          rw [if_pos ⟨e1, e2⟩] at this
          exact e3 this.1)
        clear e1 e2 e3 HB
        go_enter Tryz.func79, Tryz.ntmps79
        go_wp2_with fail
        obtain ⟨W, hW⟩ : ∃ W, w.alloc (.cells #[.int .i64 num, .string lo, .string hi, .int .i64 fr, .int .i64 tt, .int .i64 xe, .int .i64 un, .int .u8 st] 52) = W := ⟨_, rfl⟩
        have X2 : W.cell? ⟨p, 3, none⟩ = some (.int .i64 fr) := by subst hW; subst hp; go_cell
        have X3 : W.cell? ⟨p, 4, none⟩ = some (.int .i64 tt) := by subst hW; subst hp; go_cell
        have X4 : W.cell? ⟨p, 5, none⟩ = some (.int .i64 xe) := by subst hW; subst hp; go_cell
        have X5 : W.cell? ⟨p, 6, none⟩ = some (.int .i64 un) := by subst hW; subst hp; go_cell
        have X6 : W.cell? ⟨p, 7, none⟩ = some (.int .u8 st) := by subst hW; subst hp; go_cell
        have oW : Ok w W := by rw [← hW]; exact Ok.alloc (Ok.refl _) _
        try rw [hp]
        rw [hW]
        clear hW hp
        (with_reducible refine (HRR.out W).mono ?_)
        rintro _ w1 ⟨rfl, o1⟩
        replace X2 := Ok.cell o1 X2; replace X3 := Ok.cell o1 X3; replace X4 := Ok.cell o1 X4; replace X5 := Ok.cell o1 X5; replace X6 := Ok.cell o1 X6
        have OK1 := Lib.hid (Ok.call oW o1)
        clear o1 oW
        go_wp2
        go_ret
        exact ⟨by first | rfl | simp, OK1.out⟩
    · have f2 : decide (st ≤ 6) = false := decide_eq_false e2
      obtain rfl : R = (un == 0) := by
        have := HB.out
        rw [if_neg (fun h => e2 h.2)] at this
        rw [Bool.eq_iff_iff, this, beq_iff_eq]
      clear e1 e2 HB
      go_enter Tryz.func79, Tryz.ntmps79
      go_wp2_with fail
      obtain ⟨W, hW⟩ : ∃ W, w.alloc (.cells #[.int .i64 num, .string lo, .string hi, .int .i64 fr, .int .i64 tt, .int .i64 xe, .int .i64 un, .int .u8 st] 52) = W := ⟨_, rfl⟩
      have X2 : W.cell? ⟨p, 3, none⟩ = some (.int .i64 fr) := by subst hW; subst hp; go_cell
      have X3 : W.cell? ⟨p, 4, none⟩ = some (.int .i64 tt) := by subst hW; subst hp; go_cell
      have X4 : W.cell? ⟨p, 5, none⟩ = some (.int .i64 xe) := by subst hW; subst hp; go_cell
      have X5 : W.cell? ⟨p, 6, none⟩ = some (.int .i64 un) := by subst hW; subst hp; go_cell
      have X6 : W.cell? ⟨p, 7, none⟩ = some (.int .u8 st) := by subst hW; subst hp; go_cell
      have oW : Ok w W := by rw [← hW]; exact Ok.alloc (Ok.refl _) _
      try rw [hp]
      rw [hW]
      clear hW hp
      (with_reducible refine (HRR.out W).mono ?_)
      rintro _ w1 ⟨rfl, o1⟩
      replace X2 := Ok.cell o1 X2; replace X3 := Ok.cell o1 X3; replace X4 := Ok.cell o1 X4; replace X5 := Ok.cell o1 X5; replace X6 := Ok.cell o1 X6
      have OK1 := Lib.hid (Ok.call oW o1)
      clear o1 oW
      go_wp2
      go_ret
      exact ⟨by first | rfl | simp, OK1.out⟩
  · have f1 : decide (4 ≤ st) = false := decide_eq_false e1
    obtain rfl : R = (un == 0) := by
      have := HB.out
      rw [if_neg (fun h => e1 h.1)] at this
      rw [Bool.eq_iff_iff, this, beq_iff_eq]
    clear e1 HB
    go_enter Tryz.func79, Tryz.ntmps79
    go_wp2_with fail
    obtain ⟨W, hW⟩ : ∃ W, w.alloc (.cells #[.int .i64 num, .string lo, .string hi, .int .i64 fr, .int .i64 tt, .int .i64 xe, .int .i64 un, .int .u8 st] 52) = W := ⟨_, rfl⟩
    have X2 : W.cell? ⟨p, 3, none⟩ = some (.int .i64 fr) := by subst hW; subst hp; go_cell
    have X3 : W.cell? ⟨p, 4, none⟩ = some (.int .i64 tt) := by subst hW; subst hp; go_cell
    have X4 : W.cell? ⟨p, 5, none⟩ = some (.int .i64 xe) := by subst hW; subst hp; go_cell
    have X5 : W.cell? ⟨p, 6, none⟩ = some (.int .i64 un) := by subst hW; subst hp; go_cell
    have X6 : W.cell? ⟨p, 7, none⟩ = some (.int .u8 st) := by subst hW; subst hp; go_cell
    have oW : Ok w W := by rw [← hW]; exact Ok.alloc (Ok.refl _) _
    try rw [hp]
    rw [hW]
    clear hW hp
    (with_reducible refine (HRR.out W).mono ?_)
    rintro _ w1 ⟨rfl, o1⟩
    replace X2 := Ok.cell o1 X2; replace X3 := Ok.cell o1 X3; replace X4 := Ok.cell o1 X4; replace X5 := Ok.cell o1 X5; replace X6 := Ok.cell o1 X6
    have OK1 := Lib.hid (Ok.call oW o1)
    clear o1 oW
    go_wp2
    go_ret
    exact ⟨by first | rfl | simp, OK1.out⟩
end Go.Proofs.YtdabdkedgigjdaaGreat
namespace Go.Proofs.YtdabdkedgigjdaaGreat
open Go.RowKit

/-- Bytes of the call's own, told. -/
def NumP (w : World) (xs : List B8) (e : Ending) (w' : World) : Prop := ∃ A c, e = .returned (.tuple #[.slice A xs.length c, .bool true]) ∧ OwnN w' w.heap.size (.slice A xs.length c) xs ∧ Ok w w'
theorem OwnN.alloc {w : World} {B : Nat} {v : Value} {xs : List B8} (h : OwnN w B v xs) (o : Obj) : OwnN (w.alloc o) B v xs := World.ownsRow.alloc h o
theorem OwnN.posn {w : World} {B : Nat} {A : Option Addr} {n c : Nat} {xs : List B8} (h : OwnN w B (.slice A n c) xs) (hp : 0 < xs.length) : ∃ g, A = some ⟨g, 0, none⟩ ∧ n = xs.length ∧ B ≤ g ∧ g < w.heap.size := by
  have hlt := World.ownsRow.lt h
  rcases h.2 with ⟨e, h5⟩ | ⟨g, cap, cur, e, r1, _⟩
  · omega
  · simp only [Value.slice.injEq] at e
    obtain ⟨rfl, rfl, rfl⟩ := e
    exact ⟨g, rfl, rfl, r1, (hlt g rfl).2⟩
theorem set_last (pre : List B8) (b b' : B8) : ((pre ++ [b]).map bv).set pre.length (bv b') = (pre ++ [b']).map bv := by
  induction pre with
  | nil => rfl
  | cons x xs ih => simp only [List.cons_append, List.map_cons, List.length_cons, List.set_cons_succ, ih]
theorem OwnN.last {w : World} {B g n c : Nat} {pre : List B8} {b : B8} (h : OwnN w B (.slice (some ⟨g, 0, none⟩) n c) (pre ++ [b])) (hn : n = pre.length + 1) : w.cell? ⟨g, pre.length, none⟩ = some (.int .u8 (ub b)) ∧ w.frozen? ⟨g, pre.length, none⟩ = false := by
  subst hn
  have hl : (pre ++ [b]).length = pre.length + 1 := by simp
  unfold OwnN at h
  rw [hl] at h
  refine ⟨?_, World.ownsRow.frozenAt h _⟩
  rw [World.ownsRow.cellAt h _ (by omega)]
  simp [bv]
theorem OwnN.put {w : World} {B g n c : Nat} {pre : List B8} {b : B8} (h : OwnN w B (.slice (some ⟨g, 0, none⟩) n c) (pre ++ [b])) (hn : n = pre.length + 1) (b' : B8) : OwnN (w.setCell ⟨g, pre.length, none⟩ (.int .u8 (ub b'))) B (.slice (some ⟨g, 0, none⟩) n c) (pre ++ [b']) := by
  subst hn
  have hl : ∀ b, (pre ++ [b]).length = pre.length + 1 := fun b => by simp
  unfold OwnN at h ⊢
  rw [hl] at h ⊢
  have := (World.ownsRow.stored h pre.length (bv b')).1
  rwa [set_last] at this
theorem Ok.own {w w' : World} (k : Ok w w') {g : Nat} (hg : w.heap.size ≤ g) (o : Nat) (v : Value) : Ok w (w'.setCell ⟨g, o, none⟩ v) := Below.setCell k hg _
theorem own_one (w : World) (b : B8) : OwnN (w.alloc (.cells #[.int .u8 (ub b)] 5)) w.heap.size (.slice (some ⟨w.heap.size, 0, none⟩) 1 1) [b] :=
  ⟨rfl, .inr ⟨w.heap.size, 1, #[.int .u8 (ub b)], rfl, Nat.le_refl _, heap_alloc_new w _, Nat.le_refl _, by unfold maxLen; omega, rfl, rfl⟩⟩
theorem u8_low (m : Nat) : ub (BitVec.ofNat 8 (m % 128)) = (m : Int) % 128 := by rw [ub, BitVec.toNat_ofNat]; omega
theorem u8_up (m : Nat) : bits .or .u8 (ub (BitVec.ofNat 8 (m % 128))) 128 = ub (BitVec.ofNat 8 (m % 128 + 128)) := by
  rw [u8_low, u8_or128_right _ (by omega) (by omega), ub, BitVec.toNat_ofNat]; omega

set_option maxRecDepth 100000 in
set_option maxHeartbeats 2000000 in
theorem rnumber_w (n : Nat) (hn : n ≤ 4611686018427387903) (W : World) :
    Calls Tryz.prog 116 #[.int .i64 (n : Int)] W (NumP W (enc n)) := by
  have HE : Hid (enc n = [] ++ encF 9 n) := Lib.hid rfl
  have HNN : Hid (n < 128 ^ 10) := Lib.hid (by omega)
  have hn0 : decide ((n : Int) < 0) = false := decide_eq_false (by omega)
  have hn1 : decide ((4611686018427387903 : Int) < (n : Int)) = false := decide_eq_false (by omega)
  have h1 := and127 n hn
  go_enter Tryz.func116, Tryz.ntmps116
  go_wp2_with fail
  have HO1 : Hid (OwnN (W.alloc (.cells #[.int .u8 ((n : Int) % 128)] 5)) W.heap.size (.slice (some ⟨W.heap.size, 0, none⟩) 1 1) ([] ++ [BitVec.ofNat 8 (n % 128)])) := Lib.hid (by have := own_one W (BitVec.ofNat 8 (n % 128)); rwa [u8_low] at this)
  have HK1 : Hid (Ok W (W.alloc (.cells #[.int .u8 ((n : Int) % 128)] 5))) := Lib.hid (Ok.alloc (Ok.refl W) _)
  clear h1 hn0 hn1
  go_loopw [0, 4] (fun i o wr => ∃ (m f : Nat) (pre : List B8) (A : Option Addr) (L c : Nat), i = .int .i64 ((m / 128 : Nat) : Int) ∧ m ≤ 4611686018427387903 ∧ m < 128 ^ (f + 1) ∧ enc n = pre ++ encF f m ∧ L = pre.length + 1 ∧ o = .slice A L c ∧ OwnN wr W.heap.size (.slice A L c) (pre ++ [BitVec.ofNat 8 (m % 128)]) ∧ Ok W wr) (fun i _ _ => (intOf i).toNat)
  case atStart => exact ⟨n, 9, [], _, _, _, by go_num, hn, HNN.out, HE.out, rfl, rfl, HO1.out, HK1.out⟩
  case round =>
    obtain ⟨m, f, pre, A, L, c, rfl, hm, hmf, hpre, hL, rfl, hown, hok⟩ := hrel
    obtain ⟨g, rfl, -, hBg, hgs⟩ := hown.posn (by simp)
    have HOK := Lib.hid hok
    have HPRE := Lib.hid hpre
    have HLL := Lib.hid hL
    have HPL : Hid (pre.length ≤ 10) := Lib.hid (by
      have h1 := congrArg List.length hpre
      have h2 := enc_len n
      rw [List.length_append] at h1; omega)
    clear hok hpre HO1 HK1 HE HNN
    by_cases hlt : 0 < m / 128
    · have hlt2 : 127 < m := by omega
      have hf : ∃ f', f = f' + 1 := by
        cases f with
        | zero => simp at hmf; omega
        | succ f' => exact ⟨f', rfl⟩
      obtain ⟨f', rfl⟩ := hf
      have HEN := Lib.hid (encF_more f' m hlt2)
      have HMF : Hid (m / 128 < 128 ^ (f' + 1)) := Lib.hid (by
        rw [Nat.pow_succ] at hmf
        exact Nat.div_lt_of_lt_mul (by rw [Nat.mul_comm]; exact hmf))
      clear hmf
      obtain ⟨q, hq⟩ : ∃ q, m / 128 = q := ⟨_, rfl⟩
      rw [hq] at HEN HMF hlt ⊢
      have hqn : q ≤ 4611686018427387903 := by omega
      have hd1 : decide ((0 : Int) < (q : Int)) = true := decide_eq_true (by omega)
      have h1 := and127 q hqn
      obtain ⟨C0, F0⟩ := hown.last hL
      have h3 := u8_up m
      have HOP := Lib.hid (hown.put hL (BitVec.ofNat 8 (m % 128 + 128)))
      have HOK2 := Lib.hid (Ok.own HOK.out hBg pre.length (.int .u8 (ub (BitVec.ofNat 8 (m % 128 + 128)))))
      generalize BitVec.ofNat 8 (m % 128 + 128) = y2 at *
      generalize BitVec.ofNat 8 (m % 128) = y1 at *
      clear hown
      obtain ⟨P, hP⟩ : ∃ P, pre.length = P := ⟨_, rfl⟩
      rw [hP] at C0 F0 HOP HOK2 HLL HPL
      rw [hP] at hL
      subst hL
      have s1 : wrap64 (P : Int) = (P : Int) := by have := HPL.out; simp only [wrap64]; omega
      have s2 : (0 : Int) ≤ (P : Int) := Int.natCast_nonneg _
      have s3 : (P : Int) < (P : Int) + 1 := by omega
      have HPP := Lib.hid hP
      have HLEN : Hid ((pre ++ [y2]).length = P + 1) := Lib.hid (by simp [hP])
      have HPL2 : Hid (P ≤ 10) := Lib.hid HPL.out
      clear hP HPL
      generalize hW2 : wr.setCell ⟨g, P, none⟩ (.int .u8 (ub y2)) = w2 at *
      have HNEW : Hid (BytesIn (w2.alloc (.cells #[.int .u8 ((q : Int) % 128)] 5)) (.slice (some ⟨w2.heap.size, 0, none⟩) 1 1) [BitVec.ofNat 8 (q % 128)]) := Lib.hid (bytes_new w2 _ _ 5 _ _ _ 1 rfl rfl (by decide) (by simp) (by simp [u8_low]))
      have HOWA : Hid (OwnN (w2.alloc (.cells #[.int .u8 ((q : Int) % 128)] 5)) W.heap.size (.slice (some ⟨g, 0, none⟩) (P + 1) c) (pre ++ [y2])) := Lib.hid (HOP.out.alloc _)
      have HOKA : Hid (Ok W (w2.alloc (.cells #[.int .u8 ((q : Int) % 128)] 5))) := Lib.hid (Ok.alloc HOK2.out _)
      obtain ⟨y3, hy3⟩ : ∃ y, BitVec.ofNat 8 (q % 128) = y := ⟨_, rfl⟩
      rw [hy3] at HNEW
      have HY3 := Lib.hid hy3
      clear hy3
      go_wp2_with (first
        | (at_builtin; go_must (refine wpList_app rfl (.tmp 27) (.tmp 31) rfl W.heap.size (.slice (some ⟨g, 0, none⟩) (P + 1) c) (pre ++ [y2]) [y3] (.slice (some ⟨w2.heap.size, 0, none⟩) 1 1) rfl rfl HOWA.out HNEW.out (by have := HPL2.out; rw [HLEN.out]; simp; omega) HOKA.out.size ?_; intro A' c' w3 hown3 hbel3; have HOWN3 := Lib.hid hown3; have HOK3 : Hid (Ok W w3) := Lib.hid (Below.trans HOKA.out hbel3); clear hown3 hbel3; rw [HLEN.out])))
      refine ⟨⟨q, f', pre ++ [y2], A', _, c', by go_num, hqn, HMF.out, by rw [HPRE.out, HEN.out]; simp, by rw [HLEN.out], rfl, by have h := HOWN3.out; rw [HLEN.out] at h; rw [HY3.out]; exact h, HOK3.out⟩, ?_⟩
      simp [intOf]; omega
    · have hd1 : decide ((0 : Int) < ((m / 128 : Nat) : Int)) = false := decide_eq_false (by omega)
      have hle : ¬ 127 < m := by omega
      have HFI : Hid (enc n = pre ++ [BitVec.ofNat 8 (m % 128)]) := Lib.hid (by rw [HPRE.out, encF_last f m hle, Nat.mod_eq_of_lt (by omega)])
      have HLE : Hid ((enc n).length = L) := Lib.hid (by rw [HFI.out, HLL.out]; simp)
      have HFIN : Hid (∀ e, e = .returned (.tuple #[.slice (some ⟨g, 0, none⟩) L c, .bool true]) → NumP W (enc n) e wr) := Lib.hid fun e he => ⟨some ⟨g, 0, none⟩, c, by rw [HLE.out]; exact he, by rw [HLE.out, HFI.out]; exact hown, HOK.out⟩
      clear hown hmf HPRE HLL HPL hL HLE HFI
      obtain ⟨q, hq⟩ : ∃ q, m / 128 = q := ⟨_, rfl⟩
      rw [hq] at hd1 ⊢
      obtain rfl : q = 0 := by omega
      clear hq hlt hd1
      go_wp2_with fail
      go_ret2
      exact HFIN.out _ rfl
end Go.Proofs.YtdabdkedgigjdaaGreat
namespace Go.Proofs.YtdabdkedgigjdaaGreat
open Go.RowKit
theorem OwnN.ok {w w' : World} {B : Nat} {v : Value} {xs : List B8} (h : OwnN w B v xs) (k : Ok w w') : OwnN w' B v xs := by
  refine World.ownsRow.kept (row := none) h ⟨k.os, k.tape, k.output, k.size, fun i hi _ => k.block i hi⟩ ?_
  cases Value.ownBlock v with
  | none => exact .inl rfl
  | some b => exact .inr (fun e => by cases e)
theorem OwnN.nil (w : World) (base : Nat) : OwnN w base (.slice none 0 0) [] := World.ownsRow_nil _ _ _ _

set_option maxHeartbeats 400000 in
theorem rnumber_bad (n : Int) (W : World) (hn : n < 0 ∨ 4611686018427387903 < n) :
    Calls Tryz.prog 116 #[.int .i64 n] W fun e w' => e = .returned (.tuple #[.slice none 0 0, .bool false]) ∧ W = w' := by
  rcases hn with hn | hn
  · have hd : decide (n < 0) = true := decide_eq_true hn
    go_enter Tryz.func116, Tryz.ntmps116
    go_wp2_with fail
    go_ret2
    exact ⟨rfl, rfl⟩
  · have hd : decide (n < 0) = false := decide_eq_false (by omega)
    have hd1 : decide ((4611686018427387903 : Int) < n) = true := decide_eq_true hn
    go_enter Tryz.func116, Tryz.ntmps116
    go_wp2_with fail
    go_ret2
    exact ⟨rfl, rfl⟩
/-- Bytes of the call's own, told alone. -/
def RowP (w : World) (xs : List B8) (e : Ending) (w' : World) : Prop := ∃ A c, e = .returned (.slice A xs.length c) ∧ OwnN w' w.heap.size (.slice A xs.length c) xs ∧ Ok w w'
set_option maxRecDepth 100000 in
set_option maxHeartbeats 1000000 in
theorem rRow_w (v : Value) (xs : List B8) (W : World) (h : BytesIn W v xs) (hx : xs.length ≤ 1000000000) :
    Calls Tryz.prog 118 #[v] W (RowP W (enc xs.length ++ xs)) := by
  obtain ⟨A, c, rfl, -⟩ := h.form
  have HB := Lib.hid h
  clear h
  obtain ⟨n, hn⟩ : ∃ n, xs.length = n := ⟨_, rfl⟩
  have HN := Lib.hid hn
  rw [hn] at hx ⊢
  rw [hn] at HB
  clear hn
  have HW := Lib.hid (rnumber_w n (by omega) W)
  have HEL := Lib.hid (enc_len n)
  go_enter Tryz.func118, Tryz.ntmps118
  go_wp2_with fail
  refine HW.out.mono ?_
  rintro _ w1 ⟨A1, c1, rfl, hown1, hok1⟩
  have HO1 := Lib.hid hown1
  have HK1 := Lib.hid hok1
  have HB1 := Lib.hid (hok1.bytes HB.out)
  clear hown1 hok1 HW
  generalize enc n = ys at *
  obtain ⟨M, hM⟩ : ∃ M, ys.length = M := ⟨_, rfl⟩
  rw [hM] at HO1 HEL ⊢
  have HM := Lib.hid hM
  clear hM
  go_wp2_with (at_builtin; go_must (refine wpList_app rfl (.tmp 11) (.tmp 12) rfl W.heap.size (.slice A1 M c1) ys xs (.slice A n c) rfl rfl HO1.out HB1.out (by have := HM.out; have := HN.out; have := HEL.out; omega) HK1.out.size ?_; intro A' c' w3 hown3 hbel3; have HOWN3 := Lib.hid hown3; have HOK3 : Hid (Ok W w3) := Lib.hid (Below.trans HK1.out hbel3); clear hown3 hbel3; rw [HM.out, HN.out]))
  go_ret
  refine ⟨A', c', ?_, ?_, HOK3.out⟩
  · rw [List.length_append, HM.out, HN.out]
    rfl
  · exact List.length_append ▸ HOWN3.out
theorem grownCap_ge5 (w : World) (s : ByteArray) : s.size ≤ grownCap w s.size 0 5 := grownCap_ge w s.size 0 5
theorem ofStr_get (s : ByteArray) (i : Nat) (h : i < s.size) : (ofStr s).getD i 0#8 = BitVec.ofNat 8 (s.data.toList.getD i 0).toNat := by
  have h2 : i < s.data.toList.length := by rw [Array.length_toList]; exact h
  unfold ofStr
  simp only [List.getD_eq_getElem?_getD, List.getElem?_map, List.getElem?_eq_getElem h2, Option.map_some, Option.getD_some]
theorem ub_byte (b : UInt8) : ub (BitVec.ofNat 8 b.toNat) = (b.toNat : Int) := by
  have := b.toNat_lt
  rw [ub, BitVec.toNat_ofNat, Nat.mod_eq_of_lt (by simpa using this)]
theorem bytesWorld_ok (w : World) (s : ByteArray) : Ok w (Lib.bytesWorld w 5 s) := by
  have h1 : Ok w (w.drew.alloc (.cells (Lib.bytesCells w 5 s) 5)) := Ok.alloc (Ok.drew (Ok.refl w)) _
  exact ⟨h1.os, h1.tape, h1.output, by rw [Lib.bytesWorld_size]; exact Nat.le_succ _, fun k hk => Lib.bytesWorld_at_old w 5 s k hk⟩
theorem bytesWorld_bytes (w : World) (s : ByteArray) (h : s.size ≤ 1000000000) : BytesIn (Lib.bytesWorld w 5 s) (.slice (some ⟨w.heap.size, 0, none⟩) s.size (grownCap w s.size 0 5)) (ofStr s) := by
  refine .inr ⟨w.heap.size, 0, grownCap w s.size 0 5, by rw [ofStr_len], by rw [ofStr_len]; exact grownCap_ge5 w s, by rw [ofStr_len]; omega, fun i hi => ?_⟩
  rw [ofStr_len] at hi
  rw [Nat.zero_add, Lib.bytesWorld_cell w 5 s i hi, ofStr_get s i hi, ub_byte]
end Go.Proofs.YtdabdkedgigjdaaGreat
namespace Go.Proofs.YtdabdkedgigjdaaGreat
open Go.RowKit
/-- Bytes of the call's own, told with no error. -/
def WriteP (w : World) (xs : List B8) (e : Ending) (w' : World) : Prop := ∃ A c, e = .returned (.tuple #[.slice A xs.length c, .int .i64 0]) ∧ OwnN w' w.heap.size (.slice A xs.length c) xs ∧ Ok w w'
/-- No bytes, and the error. -/
def WriteN (w : World) (e : Ending) (w' : World) : Prop := e = .returned (.tuple #[.slice none 0 0, .int .i64 2]) ∧ Ok w w'
theorem encsI_take_len (l : List Int) (k : Nat) (h : k ≤ l.length) : (encsI (l.take k)).length ≤ 10 * k := by
  have := encsI_len (l.take k)
  rw [List.length_take] at this
  omega
theorem any_at {l : List Int} {k : Nat} (hk : k < l.length) (h : badN (l.getD k 0) = true) : l.any badN = true := by
  rw [List.any_eq_true]
  refine ⟨l[k], List.getElem_mem hk, ?_⟩
  simpa [hk] using h
/-- Bytes, or none. -/
def WriteQ (w : World) (b : Bool) (xs : List B8) (e : Ending) (w' : World) : Prop := (b = true ∧ WriteN w e w') ∨ (b = false ∧ WriteP w xs e w')
set_option maxRecDepth 100000 in
set_option maxHeartbeats 2000000 in
theorem rWriteI_w (l : List Int) (A : Option Addr) (n c : Nat) (hn : l.length = n) (hnm : n ≤ 1000) (W : World)
    (hcell : ∀ k, k < n → ∃ b o, A = some ⟨b, o, none⟩ ∧ W.cell? ⟨b, o + k, none⟩ = some (.int .i64 (l.getD k 0))) :
    Calls Tryz.prog 89 #[.slice A n c, .slice none 0 0, .slice none 0 0, .slice none 0 0] W (WriteQ W (l.any badN) (encsI l)) := by
  have HC := Lib.hid hcell
  have HN := Lib.hid hn
  clear hcell hn
  go_enter Tryz.func89, Tryz.ntmps89
  go_wp2_with fail
  go_loopw [10, 11, 12, 13] (fun o i _ _ wr => ∃ (k : Nat) (B : Option Addr) (L d : Nat), k ≤ n ∧ i = .int .i64 k ∧ o = .slice B L d ∧ L = (encsI (l.take k)).length ∧ OwnN wr W.heap.size (.slice B L d) (encsI (l.take k)) ∧ Ok W wr ∧ (l.take k).any badN = false) (fun _ i _ _ _ => n - (intOf i).toNat)
  case atStart => exact ⟨0, none, 0, 0, Nat.zero_le _, rfl, rfl, by simp [encsI], by simpa [encsI] using OwnN.nil W _, Ok.refl _, rfl⟩
  case round =>
    obtain ⟨k, B, L, d, hk, rfl, rfl, hL, hown, hok, hbd⟩ := hrel
    have HL := Lib.hid hL
    have HOWN := Lib.hid hown
    have HOK := Lib.hid hok
    have HBD := Lib.hid hbd
    clear hL hown hok hbd
    by_cases hlt : k < n
    · have d1 : decide ((k : Int) < (n : Int)) = true := decide_eq_true (by omega)
      obtain ⟨b, off, rfl, C0⟩ := HC.out k hlt
      have C0 := Ok.cell HOK.out C0
      have HE := Lib.hid (encsI_take l k (by rw [HN.out]; exact hlt))
      have HBT := Lib.hid (bad_take l k (by rw [HN.out]; exact hlt))
      have HLN := Lib.hid (encsI_take_len l k (by rw [HN.out]; omega))
      have HAT := Lib.hid (any_at (l := l) (k := k) (by rw [HN.out]; exact hlt))
      have hi0 : (0 : Int) ≤ (k : Int) := Int.natCast_nonneg _
      have hi1 : (k : Int) < (n : Int) := by omega
      generalize l.getD k 0 = m at *
      by_cases hb : badN m = true
      · have h2 : m < 0 ∨ 4611686018427387903 < m := by unfold badN at hb; simpa using hb
        have HW := Lib.hid (rnumber_bad m wr h2)
        have HQ := Lib.hid (HAT.out hb)
        clear h2 hb HAT HBT HE
        generalize encsI (l.take k) = xs at *
        go_wp2_with fail
        refine HW.out.mono ?_
        rintro _ w2 ⟨rfl, rfl⟩
        clear HW
        go_wp2_with fail
        go_ret2
        exact .inl ⟨HQ.out, rfl, HOK.out⟩
      · have h1 : badN m = false := by simpa using hb
        have h2 : ¬ m < 0 ∧ ¬ 4611686018427387903 < m := by unfold badN at h1; simpa using h1
        obtain ⟨m, rfl⟩ : ∃ x : Nat, m = x := ⟨m.toNat, by omega⟩
        have HW := Lib.hid (rnumber_w m (by omega) wr)
        have HEL := Lib.hid (enc_len m)
        have HE2 : Hid (encsI (l.take (k + 1)) = encsI (l.take k) ++ enc m) := Lib.hid (by rw [HE.out, encI, if_neg hb]; rfl)
        have HBT2 : Hid ((l.take (k + 1)).any badN = false) := Lib.hid (by rw [HBT.out, HBD.out, h1]; rfl)
        clear h2 h1 hb HAT HE HBT
        generalize enc m = ys at *
        generalize encsI (l.take k) = xs at *
        go_wp2_with fail
        refine HW.out.mono ?_
        rintro _ w2 ⟨A2, c2, rfl, hown2, hok2⟩
        have HB2 : Hid (BytesIn w2 (.slice A2 ys.length c2) ys) := Lib.hid (hown2.bytes (by have := HEL.out; omega))
        have HOW2 := Lib.hid (HOWN.out.ok hok2)
        have HOK2 := Lib.hid (Ok.trans HOK.out hok2)
        clear hown2 hok2
        obtain ⟨M, hM⟩ : ∃ M, ys.length = M := ⟨_, rfl⟩
        rw [hM] at HB2 HEL ⊢
        have HM := Lib.hid hM
        clear hM
        go_wp2_with (at_builtin; go_must (refine wpList_app rfl (.tmp 33) (.tmp 34) rfl W.heap.size (.slice B L d) xs ys (.slice A2 M c2) rfl rfl HOW2.out HB2.out (by have := HLN.out; have := HEL.out; have := HM.out; omega) HOK2.out.size ?_; intro A' c' w3 hown3 hbel3; have HOWN3 := Lib.hid hown3; have HOK3 : Hid (Ok W w3) := Lib.hid (Below.trans HOK2.out hbel3); clear hown3 hbel3; rw [← HL.out, HM.out]))
        refine ⟨⟨k + 1, A', L + M, c', hlt, by go_num, rfl, by rw [HE2.out, List.length_append, HL.out, HM.out], by have h := HOWN3.out; rw [← HL.out, HM.out] at h; rw [HE2.out]; exact h, HOK3.out, HBT2.out⟩, ?_⟩
        simp [intOf]; omega
    · have d1 : decide ((k : Int) < (n : Int)) = false := decide_eq_false (by omega)
      have HFI : Hid (l.take k = l) := Lib.hid (List.take_of_length_le (by rw [HN.out]; omega))
      rw [HFI.out] at HL HOWN HBD
      have HFIN : Hid (∀ e, e = .returned (.tuple #[.slice B L d, .int .i64 0]) → WriteQ W (l.any badN) (encsI l) e wr) := Lib.hid fun e he => .inr ⟨HBD.out, B, d, by rw [← HL.out]; exact he, by rw [← HL.out]; exact HOWN.out, HOK.out⟩
      clear HFI HOWN HL HBD
      go_wp2_with fail
      go_loopw [10, 14] (fun o i wq => o = .slice B L d ∧ i = .int .i64 0 ∧ wq = wr) (fun _ _ _ => 0)
      case atStart => exact ⟨rfl, rfl, rfl⟩
      case round =>
        obtain ⟨rfl, rfl, rfl⟩ := hrel
        go_wp2_with fail
        go_loopw [10, 15] (fun o i wq => o = .slice B L d ∧ i = .int .i64 0 ∧ wq = wr) (fun _ _ _ => 0)
        case atStart => exact ⟨rfl, rfl, rfl⟩
        case round =>
          obtain ⟨rfl, rfl, rfl⟩ := hrel
          go_wp2_with fail
          go_loopw [10, 16] (fun o i wq => o = .slice B L d ∧ i = .int .i64 0 ∧ wq = wr) (fun _ _ _ => 0)
          case atStart => exact ⟨rfl, rfl, rfl⟩
          case round =>
            obtain ⟨rfl, rfl, rfl⟩ := hrel
            go_wp2_with fail
            go_ret2
            exact HFIN.out _ rfl

set_option maxRecDepth 100000 in
set_option maxHeartbeats 2000000 in
theorem rWriteT_w (l : List ByteArray) (A : Option Addr) (n c : Nat) (hn : l.length = n) (hnm : n ≤ 10) (W : World) (hsz : ∀ s ∈ l, s.size ≤ 1000000000)
    (hcell : ∀ k, k < n → ∃ b o, A = some ⟨b, o, none⟩ ∧ W.cell? ⟨b, o + k, none⟩ = some (.string (l.getD k ⟨#[]⟩))) :
    Calls Tryz.prog 89 #[.slice none 0 0, .slice none 0 0, .slice A n c, .slice none 0 0] W (WriteP W (encsT l)) := by
  have HC := Lib.hid hcell
  have HN := Lib.hid hn
  have HSZ := Lib.hid hsz
  clear hcell hn hsz
  go_enter Tryz.func89, Tryz.ntmps89
  go_wp2_with fail
  go_loopw [10, 11] (fun o i wq => o = .slice none 0 0 ∧ i = .int .i64 0 ∧ W = wq) (fun _ _ _ => 0)
  case atStart => exact ⟨rfl, rfl, rfl⟩
  case round =>
  obtain ⟨rfl, rfl, rfl⟩ := hrel
  go_wp2_with fail
  go_loopw [10, 14] (fun o i wq => o = .slice none 0 0 ∧ i = .int .i64 0 ∧ W = wq) (fun _ _ _ => 0)
  case atStart => exact ⟨rfl, rfl, rfl⟩
  case round =>
  obtain ⟨rfl, rfl, rfl⟩ := hrel
  go_wp2_with fail
  go_loopw [10, 15] (fun o i wr => ∃ (k : Nat) (B : Option Addr) (L d : Nat), k ≤ n ∧ i = .int .i64 k ∧ o = .slice B L d ∧ L = (encsT (l.take k)).length ∧ OwnN wr W.heap.size (.slice B L d) (encsT (l.take k)) ∧ Ok W wr) (fun _ i _ => n - (intOf i).toNat)
  case atStart => exact ⟨0, none, 0, 0, Nat.zero_le _, rfl, rfl, by simp [encsT], by simpa [encsT] using OwnN.nil W _, Ok.refl _⟩
  case round =>
    obtain ⟨k, B, L, d, hk, rfl, rfl, hL, hown, hok⟩ := hrel
    have HL := Lib.hid hL
    have HOWN := Lib.hid hown
    have HOK := Lib.hid hok
    clear hL hown hok
    by_cases hlt : k < n
    · have d1 : decide ((k : Int) < (n : Int)) = true := decide_eq_true (by omega)
      obtain ⟨b, off, rfl, C0⟩ := HC.out k hlt
      have C0 := Ok.cell HOK.out C0
      have HE := Lib.hid (encsT_take l k (by rw [HN.out]; exact hlt))
      have HLN : Hid ((encsT (l.take k)).length ≤ 10000000100) := Lib.hid (by
        have h1 := encsT_len (l.take k) 1000000000 (fun s hs => HSZ.out s (List.mem_of_mem_take hs))
        rw [List.length_take] at h1
        have h2 : min k l.length ≤ 10 := by omega
        have h3 := Nat.mul_le_mul_left (10 + 1000000000) h2
        omega)
      have HM0 : Hid ((l.getD k ⟨#[]⟩).size ≤ 1000000000) := Lib.hid (HSZ.out _ (by
        have h1 : k < l.length := by rw [HN.out]; exact hlt
        simp [h1]))
      have hi0 : (0 : Int) ≤ (k : Int) := Int.natCast_nonneg _
      have hi1 : (k : Int) < (n : Int) := by omega
      generalize l.getD k ⟨#[]⟩ = s at *
      have hcv := Lib.run_convert_string_bytes (P := Tryz.prog) wr 9 49 5 s Tryz.underlying9 Tryz.underlying49 Tryz.underlying5
      have HBW := Lib.hid (bytesWorld_bytes wr s HM0.out)
      have HKW : Hid (Ok wr (Lib.bytesWorld wr 5 s)) := Lib.hid (bytesWorld_ok _ _)
      have HEL := Lib.hid (encT_len s)
      have HET : Hid (encT s = enc (ofStr s).length ++ ofStr s) := Lib.hid (by rw [ofStr_len]; rfl)
      obtain ⟨cap, hcap⟩ : ∃ cap, grownCap wr s.size 0 5 = cap := ⟨_, rfl⟩
      rw [hcap] at hcv HBW
      clear hcap
      generalize Lib.bytesWorld wr 5 s = w1 at *
      have HW := Lib.hid (rRow_w _ (ofStr s) w1 HBW.out (by rw [ofStr_len]; exact HM0.out))
      rw [← HET.out] at HW
      clear HET
      generalize encT s = ys at *
      generalize encsT (l.take k) = xs at *
      go_wp2_with fail
      clear hcv
      refine HW.out.mono ?_
      rintro _ w2 ⟨A2, c2, rfl, hown2, hok2⟩
      have HB2 : Hid (BytesIn w2 (.slice A2 ys.length c2) ys) := Lib.hid (hown2.bytes (by have := HEL.out; have := HM0.out; omega))
      have HOW2 := Lib.hid (HOWN.out.ok (Ok.trans HKW.out hok2))
      have HOK2 := Lib.hid (Ok.trans (Ok.trans HOK.out HKW.out) hok2)
      clear hown2 hok2
      obtain ⟨M, hM⟩ : ∃ M, ys.length = M := ⟨_, rfl⟩
      rw [hM] at HB2 HEL ⊢
      have HM := Lib.hid hM
      clear hM
      go_wp2_with (at_builtin; go_must (refine wpList_app rfl (.tmp 55) (.tmp 61) rfl W.heap.size (.slice B L d) xs ys (.slice A2 M c2) rfl rfl HOW2.out HB2.out (by have := HLN.out; have := HEL.out; have := HM.out; have := HM0.out; omega) HOK2.out.size ?_; intro A' c' w3 hown3 hbel3; have HOWN3 := Lib.hid hown3; have HOK3 : Hid (Ok W w3) := Lib.hid (Below.trans HOK2.out hbel3); clear hown3 hbel3; rw [← HL.out, HM.out]))
      refine ⟨⟨k + 1, A', L + M, c', hlt, by go_num, rfl, by rw [HE.out, List.length_append, HL.out, HM.out], by have h := HOWN3.out; rw [← HL.out, HM.out] at h; rw [HE.out]; exact h, HOK3.out⟩, ?_⟩
      simp [intOf]; omega
    · have d1 : decide ((k : Int) < (n : Int)) = false := decide_eq_false (by omega)
      have HFI : Hid (l.take k = l) := Lib.hid (List.take_of_length_le (by rw [HN.out]; omega))
      rw [HFI.out] at HL HOWN
      have HFIN : Hid (∀ e, e = .returned (.tuple #[.slice B L d, .int .i64 0]) → WriteP W (encsT l) e wr) := Lib.hid fun e he => ⟨B, d, by rw [← HL.out]; exact he, by rw [← HL.out]; exact HOWN.out, HOK.out⟩
      clear HFI HOWN HL
      go_wp2_with fail
      go_loopw [10, 16] (fun o i wq => o = .slice B L d ∧ i = .int .i64 0 ∧ wq = wr) (fun _ _ _ => 0)
      case atStart => exact ⟨rfl, rfl, rfl⟩
      case round =>
        obtain ⟨rfl, rfl, rfl⟩ := hrel
        go_wp2_with fail
        go_ret2
        exact HFIN.out _ rfl
end Go.Proofs.YtdabdkedgigjdaaGreat
namespace Go.Proofs.YtdabdkedgigjdaaGreat
open Go.RowKit
/-- Bytes of the call's own, told with an error that says whether they are these. -/
def WriteA (w : World) (b : Bool) (xs : List B8) (e : Ending) (w' : World) : Prop := ∃ (A : Option Addr) (c n : Nat) (ys : List B8) (k : Int), e = .returned (.tuple #[.slice A n c, .int .i64 k]) ∧ n = ys.length ∧ OwnN w' w.heap.size (.slice A n c) ys ∧ Ok w w' ∧ (k == 0) = !b ∧ (b = false → ys = xs) ∧ ys.length ≤ 10000
theorem WriteQ.all {w w' : World} {b : Bool} {xs : List B8} {e : Ending} (h : WriteQ w b xs e w') (hx : xs.length ≤ 10000) : WriteA w b xs e w' := by
  rcases h with ⟨rfl, rfl, h1⟩ | ⟨rfl, A, c, rfl, h1, h2⟩
  · exact ⟨none, 0, 0, [], 2, rfl, rfl, OwnN.nil _ _, h1, rfl, (fun h => Bool.noConfusion h), Nat.zero_le _⟩
  · exact ⟨A, c, _, xs, 0, rfl, rfl, h1, h2, rfl, fun _ => rfl, hx⟩
theorem wi1_w (W : World) (b : Nat) (a0 : Int) (hh : W.heap[b]? = some (.cells #[.int .i64 a0] 3 (0, 0))) :
    Calls Tryz.prog 89 #[.slice (some ⟨b, 0, none⟩) 1 1, .slice none 0 0, .slice none 0 0, .slice none 0 0] W (WriteA W ([a0].any badN) (encsI [a0])) := by
  refine (rWriteI_w [a0] (some ⟨b, 0, none⟩) 1 1 rfl (by decide) W ?_).mono fun e w' h => h.all (by have := encsI_len [a0]; simp only [List.length_cons, List.length_nil] at this; omega)
  intro k hk
  refine ⟨b, 0, rfl, ?_⟩
  rw [cell_of_heap hh]
  match k, hk with
  | 0, _ => rfl
theorem wi5_w (W : World) (b : Nat) (a0 a1 a2 a3 a4 : Int) (hh : W.heap[b]? = some (.cells #[.int .i64 a0, .int .i64 a1, .int .i64 a2, .int .i64 a3, .int .i64 a4] 3 (0, 0))) :
    Calls Tryz.prog 89 #[.slice (some ⟨b, 0, none⟩) 5 5, .slice none 0 0, .slice none 0 0, .slice none 0 0] W (WriteA W ([a0, a1, a2, a3, a4].any badN) (encsI [a0, a1, a2, a3, a4])) := by
  refine (rWriteI_w [a0, a1, a2, a3, a4] (some ⟨b, 0, none⟩) 5 5 rfl (by decide) W ?_).mono fun e w' h => h.all (by have := encsI_len [a0, a1, a2, a3, a4]; simp only [List.length_cons, List.length_nil] at this; omega)
  intro k hk
  refine ⟨b, 0, rfl, ?_⟩
  rw [cell_of_heap hh]
  match k, hk with
  | 0, _ => rfl
  | 1, _ => rfl
  | 2, _ => rfl
  | 3, _ => rfl
  | 4, _ => rfl
def WriteT (w : World) (xs : List B8) (e : Ending) (w' : World) : Prop := ∃ (A : Option Addr) (c n : Nat), e = .returned (.tuple #[.slice A n c, .int .i64 0]) ∧ n = xs.length ∧ OwnN w' w.heap.size (.slice A n c) xs ∧ Ok w w'
theorem wt2_w (W : World) (b : Nat) (s0 s1 : ByteArray) (hh : W.heap[b]? = some (.cells #[.string s0, .string s1] 9 (0, 0))) (h0 : s0.size ≤ 1000000000) (h1 : s1.size ≤ 1000000000) :
    Calls Tryz.prog 89 #[.slice none 0 0, .slice none 0 0, .slice (some ⟨b, 0, none⟩) 2 2, .slice none 0 0] W (WriteT W (encsT [s0, s1])) := by
  refine (rWriteT_w [s0, s1] (some ⟨b, 0, none⟩) 2 2 rfl (by decide) W ?_ ?_).mono ?_
  · intro s hs
    simp only [List.mem_cons, List.not_mem_nil, or_false] at hs
    rcases hs with rfl | rfl <;> assumption
  · intro k hk
    refine ⟨b, 0, rfl, ?_⟩
    rw [cell_of_heap hh]
    match k, hk with
    | 0, _ => rfl
    | 1, _ => rfl
  · rintro e w' ⟨A, c, rfl, h1, h2⟩
    exact ⟨A, c, _, rfl, rfl, h1, h2⟩
theorem blk_ok {w w' : World} {n : Nat} {o : Obj} (k : Ok w w') (h : w.heap[n]? = some o) : w'.heap[n]? = some o := by
  rw [k.block n (Array.getElem?_eq_some_iff.1 h).1]; exact h
/-- The document's bytes of x: these, or none. -/
def RBytesP (w : World) (bad : Bool) (zs : List B8) (e : Ending) (w' : World) : Prop := ∃ (A : Option Addr) (c n : Nat) (ys : List B8) (ok : Bool), e = .returned (.tuple #[.slice A n c, .bool ok]) ∧ n = ys.length ∧ ok = (!bad) ∧ (bad = false → ys = zs) ∧ BytesIn w' (.slice A n c) ys ∧ Ok w w' ∧ ys.length ≤ 100000
theorem bad_split (x : Sc) : badSc x = ([x.num].any badN || [x.fr, x.to, x.ep, x.un, x.st].any badN) := by unfold badSc; rw [Bool.false_or]
theorem OwnN.mono {w : World} {B B' : Nat} {v : Value} {xs : List B8} (h : OwnN w B v xs) (k : B' ≤ B) : OwnN w B' v xs := by
  unfold OwnN World.ownsRow at *
  rcases h with ⟨h1, h2 | ⟨g, cap, cur, e, r1, r2⟩⟩
  · exact ⟨h1, .inl h2⟩
  · exact ⟨h1, .inr ⟨g, cap, cur, e, Nat.le_trans k r1, r2⟩⟩
theorem BytesIn.same {w w' : World} {v : Value} {xs : List B8} (h : BytesIn w v xs) (k : ∀ b, v.ownBlock = some b → w'.heap[b]? = w.heap[b]?) : BytesIn w' v xs := by
  rcases h with h | ⟨b, o, c, rfl, hn, hm, hc⟩
  · exact .inl h
  · refine .inr ⟨b, o, c, rfl, hn, hm, fun i hi => ?_⟩
    rw [World.cell?_of_block (a := ⟨b, o + i, none⟩) (k b rfl)]
    exact hc i hi
/-- What stands behind c, when b was put behind a: c's block is another one. -/
theorem apart {w : World} {C : Nat} {va vc : Value} {yc : List B8} (ha : ∀ b, va.ownBlock = some b → b < C) (hc : OwnN w C vc yc) : ∀ b, vc.ownBlock = some b → b < w.heap.size ∧ va.ownBlock ≠ some b := fun b hb => by
  have h2 := World.ownsRow.lt hc b hb
  exact ⟨h2.2, fun e => by have := ha b e; omega⟩
set_option maxRecDepth 100000 in
set_option maxHeartbeats 4000000 in
theorem rBytesSc_w (W : World) (x : Sc) (h1 : x.sp.lo.size ≤ 1000) (h2 : x.sp.hi.size ≤ 1000) (hst : 0 ≤ x.st ∧ x.st ≤ 255) :
    Calls Tryz.prog 42 #[scV x] W (RBytesP W (badSc x) (encSc x)) := by
  have HSPL := Lib.hid (bad_split x)
  obtain ⟨num, ⟨lo, hi⟩, fr, tt, ep, un, st⟩ := x
  unfold encSc
  unfold scV
  simp only at h1 h2 hst HSPL ⊢
  generalize badSc ⟨num, ⟨lo, hi⟩, fr, tt, ep, un, st⟩ = bad at *
  obtain ⟨zs, hzs⟩ : ∃ zs, [] ++ encsI [num] ++ encsT [lo, hi] ++ encsI [fr, tt, ep, un, st] = zs := ⟨_, rfl⟩
  rw [hzs]
  have HZS := Lib.hid hzs
  clear hzs
  have HTL := Lib.hid (encsT_len [lo, hi] 1000 (by intro s hs; simp only [List.mem_cons, List.not_mem_nil, or_false] at hs; rcases hs with rfl | rfl <;> assumption))
  obtain ⟨p, hp⟩ : ∃ p, W.heap.size = p := ⟨_, rfl⟩
  have HP := Lib.hid (blk_new (o := .cells #[.int .i64 num, .string lo, .string hi, .int .i64 fr, .int .i64 tt, .int .i64 ep, .int .i64 un, .int .u8 st] 52) hp)
  have HB := Lib.hid ((Ok.refl W).alloc (.cells #[.int .i64 num, .string lo, .string hi, .int .i64 fr, .int .i64 tt, .int .i64 ep, .int .i64 un, .int .u8 st] 52))
  have HWS : Hid (wrap64 st = st) := Lib.hid (by simp only [wrap64]; omega)
  have HI1 := Lib.hid (encsI_len [num])
  have HI5 := Lib.hid (encsI_len [fr, tt, ep, un, st])
  clear hst
  generalize hb1 : [num].any badN = b1 at *
  generalize hb5 : [fr, tt, ep, un, st].any badN = b5 at *
  have HB1 := Lib.hid hb1
  have HB5 := Lib.hid hb5
  clear hb1 hb5
  have hzv : (W.alloc (.cells #[.int .i64 num, .string lo, .string hi, .int .i64 fr, .int .i64 tt, .int .i64 ep, .int .i64 un, .int .u8 st] 52)).heap.size = p + 1 := by simp [hp]
  have HPW : Hid (W.heap.size = p) := Lib.hid hp
  go_enter Tryz.func42, Tryz.ntmps42
  go_wp2_with fail
  generalize W.alloc (.cells #[.int .i64 num, .string lo, .string hi, .int .i64 fr, .int .i64 tt, .int .i64 ep, .int .i64 un, .int .u8 st] 52) = V at *
  have HZV : Hid (V.heap.size = p + 1) := Lib.hid hzv
  clear hzv hp
  have HV1 := Lib.hid (blk_new (o := .cells #[.int .i64 num] 3) HZV.out)
  have HP1 := Lib.hid (blk_old (o' := .cells #[.int .i64 num] 3) HP.out)
  have HK1 := Lib.hid (HB.out.alloc (.cells #[.int .i64 num] 3))
  generalize V.alloc (.cells #[.int .i64 num] 3) = V1 at *
  refine (wi1_w _ (p + 1) num HV1.out).mono ?_
  rw [HB1.out]
  rintro _ w1 ⟨A1, c1, n1, ys1, k1, rfl, hn1, ho1, ok1, hk1, hy1, hl1⟩
  have HN1 := Lib.hid hn1
  have HO1 := Lib.hid (ho1.mono HK1.out.size)
  have HLT1 : Hid (∀ b, (Value.slice A1 n1 c1).ownBlock = some b → b < w1.heap.size) := Lib.hid fun b hb => (World.ownsRow.lt ho1 b hb).2
  have HY1 := Lib.hid (And.intro hk1 (And.intro hy1 hl1))
  replace HK1 := Lib.hid (Ok.trans HK1.out ok1)
  replace HP1 := Lib.hid (blk_ok ok1 HP1.out)
  clear hn1 ho1 ok1 hk1 hy1 hl1 HV1 HP HB HZV
  obtain ⟨B0, B1, B2, B3, B4, B5, B6, B7⟩ := sc_raw HP1.out
  go_wp2_with fail
  have HV2 := Lib.hid (blk_new (o := .cells #[.string lo, .string hi] 9) (w := w1) rfl)
  have HP2 := Lib.hid (blk_old (o' := .cells #[.string lo, .string hi] 9) HP1.out)
  have OK2 := (Ok.refl w1).alloc (.cells #[.string lo, .string hi] 9)
  have HK2 := Lib.hid (HK1.out.alloc (.cells #[.string lo, .string hi] 9))
  have HO2 := Lib.hid (HO1.out.ok OK2)
  have HL2 : Hid (∀ b, (Value.slice A1 n1 c1).ownBlock = some b → b < (w1.alloc (.cells #[.string lo, .string hi] 9)).heap.size) := Lib.hid fun b hb => Nat.lt_of_lt_of_le (HLT1.out b hb) OK2.size
  clear OK2 HP1 HK1 HO1 HLT1 B0 B1 B2 B3 B4 B5 B6 B7
  generalize w1.heap.size = p2 at *
  generalize w1.alloc (.cells #[.string lo, .string hi] 9) = V2 at *
  refine (wt2_w _ p2 lo hi HV2.out (by omega) (by omega)).mono ?_
  rintro _ w2 ⟨A2, c2, n2, rfl, hn2, ho2, ok2⟩
  have HN2 := Lib.hid hn2
  have HY2 := Lib.hid (ho2.bytes (by have := HTL.out; simp only [List.length_cons, List.length_nil] at this; omega))
  have HO1 := Lib.hid (HO2.out.ok ok2)
  have HLT1 : Hid (∀ b, (Value.slice A1 n1 c1).ownBlock = some b → b < w2.heap.size) := Lib.hid fun b hb => Nat.lt_of_lt_of_le (HL2.out b hb) ok2.size
  have HK1 := Lib.hid (Ok.trans HK2.out ok2)
  have HP1 := Lib.hid (blk_ok ok2 HP2.out)
  clear hn2 ho2 ok2 HV2 HP2 HK2 HO2 HL2
  obtain ⟨B0, B1, B2, B3, B4, B5, B6, B7⟩ := sc_raw HP1.out
  go_wp2_with fail
  rw [HWS.out]
  have HV2 := Lib.hid (blk_new (o := .cells #[.int .i64 fr, .int .i64 tt, .int .i64 ep, .int .i64 un, .int .i64 st] 3) (w := w2) rfl)
  have OK2 := (Ok.refl w2).alloc (.cells #[.int .i64 fr, .int .i64 tt, .int .i64 ep, .int .i64 un, .int .i64 st] 3)
  have HK2 := Lib.hid (HK1.out.alloc (.cells #[.int .i64 fr, .int .i64 tt, .int .i64 ep, .int .i64 un, .int .i64 st] 3))
  have HO2 := Lib.hid (HO1.out.ok OK2)
  have HY3 := Lib.hid (OK2.bytes HY2.out)
  have HL2 : Hid (∀ b, (Value.slice A1 n1 c1).ownBlock = some b → b < (w2.alloc (.cells #[.int .i64 fr, .int .i64 tt, .int .i64 ep, .int .i64 un, .int .i64 st] 3)).heap.size) := Lib.hid fun b hb => Nat.lt_of_lt_of_le (HLT1.out b hb) OK2.size
  clear OK2 HP1 HK1 HO1 HLT1 HY2 B0 B1 B2 B3 B4 B5 B6 B7
  generalize w2.heap.size = p3 at *
  generalize w2.alloc (.cells #[.int .i64 fr, .int .i64 tt, .int .i64 ep, .int .i64 un, .int .i64 st] 3) = V3 at *
  refine (wi5_w _ p3 fr tt ep un st HV2.out).mono ?_
  rw [HB5.out]
  rintro _ w3 ⟨A3, c3, n3, ys3, k3, rfl, hn3, ho3, ok3, hk3, hy3, hl3⟩
  have HN3 := Lib.hid hn3
  have HAP := Lib.hid (apart HL2.out ho3)
  have HC3 := Lib.hid (ho3.bytes (by omega))
  have HO1 := Lib.hid (HO2.out.ok ok3)
  have HY2 := Lib.hid (ok3.bytes HY3.out)
  have HK1 := Lib.hid (Ok.trans HK2.out ok3)
  have HYY := Lib.hid (And.intro hy3 hl3)
  obtain ⟨hk1, hy1, hl1⟩ := HY1.out
  have HYX := Lib.hid (And.intro hy1 hl1)
  clear hn3 ho3 ok3 HV2 HK2 HO2 HL2 HY3 hy3 hl3 hy1 hl1 HY1
  have HEND : Hid (∀ (A : Option Addr) (c : Nat) (w' : World) (ok : Bool), ok = (!b1 && !b5) → BytesIn w' (.slice A (n1 + n2 + n3) c) (ys1 ++ encsT [lo, hi] ++ ys3) → Ok W w' → RBytesP W bad zs (.returned (.tuple #[.slice A (n1 + n2 + n3) c, .bool ok])) w') := Lib.hid (by
    intro A c w' ok hok hb hO
    have h1 := HYX.out.2
    have h3 := HYY.out.2
    have h2 := HTL.out
    simp only [List.length_cons, List.length_nil] at h2
    refine ⟨A, c, _, ys1 ++ encsT [lo, hi] ++ ys3, ok, rfl, ?_, ?_, ?_, hb, hO, ?_⟩
    · rw [List.length_append, List.length_append, HN1.out, HN2.out, HN3.out]
    · rw [hok, HSPL.out]; cases b1 <;> cases b5 <;> rfl
    · intro hbad
      rw [HSPL.out] at hbad
      cases b1 with
      | true => cases hbad
      | false =>
        cases b5 with
        | true => cases hbad
        | false => rw [HYX.out.1 rfl, HYY.out.1 rfl, ← HZS.out]; rfl
    · rw [List.length_append, List.length_append]; omega)
  generalize encsT [lo, hi] = ys2 at *
  have HLN : Hid (ys1.length ≤ 10000 ∧ ys2.length ≤ 10000 ∧ ys3.length ≤ 10000) := Lib.hid (by
    have h2 := HTL.out
    simp only [List.length_cons, List.length_nil] at h2
    exact ⟨HYX.out.2, by omega, HYY.out.2⟩)
  clear HZS HTL HYX HYY HSPL HI1 HI5 HWS
  have hk1 : (k1 == 0) = !b1 := hk1
  have hk3 : (k3 == 0) = !b5 := hk3
  have HPS : Hid (p ≤ w3.heap.size) := Lib.hid (by have := HK1.out.size; have := HPW.out; omega)
  have HBP : Hid (Below p W w3) := Lib.hid (by have h := HK1.out; unfold Ok at h; rw [HPW.out] at h; exact h)
  replace HO1 : Hid (OwnN w3 p (.slice A1 n1 c1) ys1) := Lib.hid (by have h := HO1.out; rw [HPW.out] at h; exact h)
  clear HB1 HB5 h1 h2
  cases b1 with
  | true =>
    simp only [Bool.not_true] at hk1
    go_wp2_with (first | (at_builtin; (refine wpList_app2 rfl (.tmp 44) (.tmp 45) rfl p (.slice A1 n1 c1) ys1 ys2 (.slice A2 n2 c2) rfl rfl HO1.out HY2.out (by have := HLN.out; omega) HPS.out ?_; intro A' c' w4 hown4 hbel4 hst4; have HO4 := Lib.hid hown4; have HK4 := Lib.hid (Below.trans HBP.out hbel4); have HY4 := Lib.hid (HC3.out.same fun b hb => (hst4 b (HAP.out b hb).1 (HAP.out b hb).2).1); have HZ4 := Lib.hid hbel4.size; clear hown4 hbel4 hst4; rw [← HN1.out, ← HN2.out])) | (at_builtin; go_must (refine wpList_app2 rfl (.tmp 46) (.tmp 47) rfl p (.slice A' (n1 + n2) c') (ys1 ++ ys2) ys3 (.slice A3 n3 c3) rfl rfl (by rw [HN1.out, HN2.out]; exact HO4.out) HY4.out (by have := HLN.out; rw [List.length_append]; omega) (Nat.le_trans HPS.out HZ4.out) ?_; intro A5 c5 w5 hown5 hbel5 _; have HO5 := Lib.hid hown5; have HK5 := Lib.hid (Below.trans HK4.out hbel5); clear hown5 hbel5; rw [List.length_append, ← HN1.out, ← HN2.out, ← HN3.out]))); (rw [List.length_append, ← HN1.out, ← HN2.out, ← HN3.out] at HO5; go_ret2; refine HEND.out A5 c5 w5 _ rfl (HO5.out.bytes ?_) ?_; (focus (have := HLN.out; rw [List.length_append, List.length_append]; omega)); (have h := HK5.out; rw [← HPW.out] at h; exact h))
  | false =>
    simp only [Bool.not_false] at hk1
    cases b5 with
    | true =>
      simp only [Bool.not_true] at hk3
      go_wp2_with (first | (at_builtin; (refine wpList_app2 rfl (.tmp 44) (.tmp 45) rfl p (.slice A1 n1 c1) ys1 ys2 (.slice A2 n2 c2) rfl rfl HO1.out HY2.out (by have := HLN.out; omega) HPS.out ?_; intro A' c' w4 hown4 hbel4 hst4; have HO4 := Lib.hid hown4; have HK4 := Lib.hid (Below.trans HBP.out hbel4); have HY4 := Lib.hid (HC3.out.same fun b hb => (hst4 b (HAP.out b hb).1 (HAP.out b hb).2).1); have HZ4 := Lib.hid hbel4.size; clear hown4 hbel4 hst4; rw [← HN1.out, ← HN2.out])) | (at_builtin; go_must (refine wpList_app2 rfl (.tmp 46) (.tmp 47) rfl p (.slice A' (n1 + n2) c') (ys1 ++ ys2) ys3 (.slice A3 n3 c3) rfl rfl (by rw [HN1.out, HN2.out]; exact HO4.out) HY4.out (by have := HLN.out; rw [List.length_append]; omega) (Nat.le_trans HPS.out HZ4.out) ?_; intro A5 c5 w5 hown5 hbel5 _; have HO5 := Lib.hid hown5; have HK5 := Lib.hid (Below.trans HK4.out hbel5); clear hown5 hbel5; rw [List.length_append, ← HN1.out, ← HN2.out, ← HN3.out]))); (rw [List.length_append, ← HN1.out, ← HN2.out, ← HN3.out] at HO5; go_ret2; refine HEND.out A5 c5 w5 _ rfl (HO5.out.bytes ?_) ?_; (focus (have := HLN.out; rw [List.length_append, List.length_append]; omega)); (have h := HK5.out; rw [← HPW.out] at h; exact h))
    | false =>
      simp only [Bool.not_false] at hk3
      go_wp2_with (first | (at_builtin; (refine wpList_app2 rfl (.tmp 44) (.tmp 45) rfl p (.slice A1 n1 c1) ys1 ys2 (.slice A2 n2 c2) rfl rfl HO1.out HY2.out (by have := HLN.out; omega) HPS.out ?_; intro A' c' w4 hown4 hbel4 hst4; have HO4 := Lib.hid hown4; have HK4 := Lib.hid (Below.trans HBP.out hbel4); have HY4 := Lib.hid (HC3.out.same fun b hb => (hst4 b (HAP.out b hb).1 (HAP.out b hb).2).1); have HZ4 := Lib.hid hbel4.size; clear hown4 hbel4 hst4; rw [← HN1.out, ← HN2.out])) | (at_builtin; go_must (refine wpList_app2 rfl (.tmp 46) (.tmp 47) rfl p (.slice A' (n1 + n2) c') (ys1 ++ ys2) ys3 (.slice A3 n3 c3) rfl rfl (by rw [HN1.out, HN2.out]; exact HO4.out) HY4.out (by have := HLN.out; rw [List.length_append]; omega) (Nat.le_trans HPS.out HZ4.out) ?_; intro A5 c5 w5 hown5 hbel5 _; have HO5 := Lib.hid hown5; have HK5 := Lib.hid (Below.trans HK4.out hbel5); clear hown5 hbel5; rw [List.length_append, ← HN1.out, ← HN2.out, ← HN3.out]))); (rw [List.length_append, ← HN1.out, ← HN2.out, ← HN3.out] at HO5; go_ret2; refine HEND.out A5 c5 w5 _ rfl (HO5.out.bytes ?_) ?_; (focus (have := HLN.out; rw [List.length_append, List.length_append]; omega)); (have h := HK5.out; rw [← HPW.out] at h; exact h))
end Go.Proofs.YtdabdkedgigjdaaGreat
namespace Go.Proofs.YtdabdkedgigjdaaGreat
open Go.RowKit
/-- A row read: the bytes, what is left, whether it has failed. -/
def rowM (m : Nat) (xs : List B8) (f : Bool) : List B8 × List B8 × Bool :=
  if (numM m xs f).2.2 = true then ([], (numM m xs f).2.1, true) else if (numM m xs f).2.1.length < (numM m xs f).1 then ([], [], true) else ((numM m xs f).2.1.take (numM m xs f).1, (numM m xs f).2.1.drop (numM m xs f).1, false)
theorem numM_zero (m : Nat) (xs : List B8) (f : Bool) (h : (numM m xs f).2.2 = true) : (numM m xs f).1 = 0 := by
  unfold numM at h ⊢
  split
  · rfl
  · rename_i hf
    rw [if_neg hf] at h
    cases hr : rd m xs with
    | none => rfl
    | some p => rw [hr] at h; cases h
theorem rowM_ok (m : Nat) (xs : List B8) (f : Bool) (h : f = true → xs = []) : (rowM m xs f).2.2 = true → (rowM m xs f).2.1 = [] := by
  unfold rowM
  split
  · rename_i h2; intro _; exact numM_ok m xs f h h2
  · split
    · intro _; rfl
    · intro e; cases e
theorem rowM_dead (m : Nat) (xs : List B8) : rowM m xs true = ([], xs, true) := rfl
/-- Live: too few left, or these. -/
theorem rowM_few (m : Nat) (xs : List B8) (f : Bool) (h : (numM m xs f).2.1.length < (numM m xs f).1) : rowM m xs f = ([], [], true) := by
  unfold rowM
  rw [if_pos h]
  split
  · rename_i h2; have := numM_zero m xs f h2; omega
  · rfl
theorem rowM_take (m : Nat) (xs : List B8) (h : ¬ (numM m xs false).2.1.length < (numM m xs false).1) : rowM m xs false = ((numM m xs false).2.1.take (numM m xs false).1, (numM m xs false).2.1.drop (numM m xs false).1, (numM m xs false).2.2) := by
  unfold rowM
  rw [if_neg h]
  split
  · rename_i h2
    have h3 := numM_ok m xs false (fun e => by cases e) h2
    rw [h3, h2]; simp
  · rename_i h2
    rw [show (numM m xs false).2.2 = false by simpa using h2]
theorem rowM_fail (m : Nat) (xs : List B8) (f : Bool) (h : (numM m xs f).2.2 = true) : rowM m xs f = ([], (numM m xs f).2.1, true) := by
  unfold rowM
  rw [if_pos h]
theorem rowM_live (m : Nat) (xs : List B8) (f : Bool) (h : (numM m xs f).2.2 = false) (h2 : ¬ (numM m xs f).2.1.length < (numM m xs f).1) : rowM m xs f = ((numM m xs f).2.1.take (numM m xs f).1, (numM m xs f).2.1.drop (numM m xs f).1, false) := by
  unfold rowM
  rw [if_neg (by rw [h]; decide), if_neg h2]
/-- The text that bytes are. -/
def toStr (zs : List B8) : ByteArray := ⟨(zs.map fun b => UInt8.ofNat b.toNat).toArray⟩
theorem toStr_size (zs : List B8) : (toStr zs).size = zs.length := by
  show (zs.map _).toArray.size = _
  simp
theorem conv_str {w : World} {v : Value} {zs : List B8} (h : BytesIn w v zs) : (convert 49 9 v).run Tryz.prog w = .ok (.string (toStr zs)) w := by
  rcases h with ⟨rfl, A, c, rfl, _⟩ | ⟨b, o, c, rfl, _, _, hc⟩
  · cases A with
    | none =>
      rw [run_convert_bytes_string w 49 9 5 none 0 c Tryz.underlying49 Tryz.underlying5 Tryz.underlying9]
      simp [Conv.bytesToString]
      rfl
    | some a =>
      have := run_convert_bytes_back (P := Tryz.prog) w 49 9 5 a c [] Tryz.underlying49 Tryz.underlying5 Tryz.underlying9 (fun j hj => by simp at hj)
      simpa [toStr] using this
  · have := run_convert_bytes_back (P := Tryz.prog) w 49 9 5 ⟨b, o, none⟩ c (zs.map fun b => UInt8.ofNat b.toNat) Tryz.underlying49 Tryz.underlying5 Tryz.underlying9 (fun j hj => by
      have hj2 : j < zs.length := by simpa using hj
      rw [Addr.add_lit, hc j hj2]
      simp [ub, hj2])
    rwa [List.length_map] at this
def RowR (W0 : World) (g : Nat) (w : World) (zs ys : List B8) (f : Bool) (e : Ending) (w' : World) : Prop := ∃ v, e = .returned v ∧ BytesIn W0 v zs ∧ Rd W0 g w' ys f ∧ Only g w w'
set_option maxRecDepth 100000 in
set_option maxHeartbeats 2000000 in
theorem placeRow_r (W0 : World) (g : Nat) (w : World) (xs : List B8) (m : Nat) (hm : m ≤ topN) (h : Rd W0 g w xs false) :
    Calls Tryz.prog 120 #[.pointer (some ⟨g, 0, none⟩), .int .i64 (m : Int)] w (RowR W0 g w (rowM m xs false).1 (rowM m xs false).2.1 (rowM m xs false).2.2) := by
  have HN := Lib.hid (number_r W0 g w xs m hm h)
  have HFEW := Lib.hid (rowM_few m xs false)
  have HTAKE := Lib.hid (rowM_take m xs)
  have HNM : Hid (numM m xs false = (resN (rd m xs), resL (rd m xs), resF (rd m xs))) := Lib.hid rfl
  clear h
  rw [HNM.out] at HFEW HTAKE
  clear HNM
  generalize rowM m xs false = R at *
  generalize resN (rd m xs) = N at *
  generalize resL (rd m xs) = ys at *
  generalize resF (rd m xs) = ff at *
  simp only at HFEW HTAKE
  go_enter Tryz.func120, Tryz.ntmps120
  go_wp2_with fail
  refine HN.out.mono ?_
  rintro _ w1 ⟨rfl, hr, ho⟩
  have HR := Lib.hid hr
  have HO := Lib.hid ho
  obtain ⟨_, _, ⟨v, hv, h0⟩, h1, h2, h3, h4⟩ := hr
  clear ho HN h1
  obtain ⟨A, c, rfl, _⟩ := hv.form
  obtain ⟨l, hl⟩ : ∃ l, ys.length = l := ⟨_, rfl⟩
  rw [hl] at hv h0 HFEW HTAKE
  have HL := Lib.hid hl
  have HV := Lib.hid hv
  have hlc : l ≤ c := by
    rcases hv with ⟨rfl, _⟩ | ⟨_, _, _, e, hc, _⟩
    · simp at hl; omega
    · simp only [Value.slice.injEq] at e; omega
  clear hv hl
  by_cases hlt : l < N
  · have HZ := Lib.hid (HFEW.out hlt)
    have d1 : decide ((l : Int) < (N : Int)) = true := decide_eq_true (by omega)
    have d3 : decide (l < N) = true := decide_eq_true (by omega)
    clear HFEW HTAKE hlt
    go_wp2_with fail
    refine (fail_r W0 g _ _ _ HR.out).mono ?_
    rintro _ w2 ⟨rfl, hr2, ho2⟩
    have HR2 := Lib.hid hr2
    have HO2 := Lib.hid ho2
    clear hr2 ho2
    go_wp2_with fail
    go_ret
    rw [HZ.out]
    exact ⟨_, rfl, BytesIn.nil W0, HR2.out, HO.out.trans HO2.out⟩
  · have HZ := Lib.hid (HTAKE.out hlt)
    have d1 : decide ((l : Int) < (N : Int)) = false := decide_eq_false (by omega)
    have d3 : decide (l < N) = false := decide_eq_false (by omega)
    have HT := Lib.hid (bytes_take HV.out (show N ≤ ys.length by have := HL.out; omega))
    have HD := Lib.hid (bytes_drop HV.out (show N ≤ ys.length by have := HL.out; omega))
    have HF : Hid (∀ V, BytesIn W0 V (ys.drop N) → Rd W0 g (w1.setCell ⟨g, 0, none⟩ V) (ys.drop N) ff) := Lib.hid fun V hV =>
      HR.out.set hV ((Only.refl g w1).set 0 _) (by go_simp) (by have h5 := HR.out.2.2.2.1; go_simp) (by go_simp) (by go_simp) (by go_simp)
    have hNl : N ≤ l := by omega
    have hNc : N ≤ c := by omega
    have hN0 : (0 : Int) ≤ (N : Int) := by omega
    have hN1 : (N : Int) ≤ (l : Int) := by omega
    have hN2 : (N : Int) ≤ (c : Int) := by omega
    have HEND : Hid (∀ v V, BytesIn W0 v (ys.take N) → BytesIn W0 V (ys.drop N) → RowR W0 g w R.1 R.2.1 R.2.2 (.returned v) (w1.setCell ⟨g, 0, none⟩ V)) := Lib.hid fun v V h1 h2 => by
      rw [HZ.out]
      exact ⟨v, rfl, h1, HF.out V h2, HO.out.trans ((Only.refl g w1).set 0 _)⟩
    clear HFEW HTAKE hlt HF HZ
    cases A with
    | none =>
      have HD2 : Hid (BytesIn W0 (.slice none (l - N) (c - N)) (ys.drop N)) := Lib.hid (by
        have := HD.out
        split at this <;> exact this)
      go_wp2_with fail
      go_ret
      exact HEND.out _ _ HT.out HD2.out
    | some a =>
      by_cases hcN : c = N
      · have HD2 : Hid (BytesIn W0 (.slice (some a) 0 0) (ys.drop N)) := Lib.hid (by
          have := HD.out
          rwa [if_pos hcN, show l - N = 0 by omega, show c - N = 0 by omega] at this)
        subst hcN
        go_wp2_with fail
        go_ret
        exact HEND.out _ _ HT.out HD2.out
      · have HD2 : Hid (BytesIn W0 (.slice (some (a.add N)) (l - N) (c - N)) (ys.drop N)) := Lib.hid (by
          have := HD.out
          rwa [if_neg hcN] at this)
        go_wp2_with fail
        go_ret
        exact HEND.out _ _ HT.out HD2.out
set_option maxHeartbeats 400000 in
theorem Text_any (W0 : World) (g : Nat) (w : World) (xs : List B8) (f : Bool) (m : Nat) (hm : m ≤ topN) (h : Rd W0 g w xs f) :
    Calls Tryz.prog 91 #[.pointer (some ⟨g, 0, none⟩), .int .i64 (m : Int)] w (RdPost W0 g w (.string (toStr (rowM m xs f).1)) (rowM m xs f).2.1 (rowM m xs f).2.2) := by
  have HR := Lib.hid h
  clear h
  cases f with
  | true =>
    rw [rowM_dead]
    go_enter Tryz.func91, Tryz.ntmps91
    go_wp2_with fail
    refine (dead_r W0 g w _ true HR.out).mono ?_
    rintro e w' ⟨rfl, rfl⟩
    go_wp2_with fail
    go_ret
    exact ⟨rfl, HR.out, Only.refl _ _⟩
  | false =>
    have HP := Lib.hid (placeRow_r W0 g w xs m hm HR.out)
    generalize rowM m xs false = R at *
    obtain ⟨zs, ys, ff⟩ := R
    simp only at HP ⊢
    go_enter Tryz.func91, Tryz.ntmps91
    go_wp2_with fail
    refine (dead_r W0 g w _ false HR.out).mono ?_
    rintro e w' ⟨rfl, rfl⟩
    go_wp2_with fail
    refine HP.out.mono ?_
    rintro _ w2 ⟨v, rfl, hz, hr2, ho2⟩
    have hcv := conv_str (hr2.2.1.bytes hz)
    have HR2 := Lib.hid hr2
    have HO2 := Lib.hid ho2
    clear hr2 ho2 hz
    go_wp2_with fail
    clear hcv
    go_ret
    exact ⟨rfl, HR2.out, HO2.out⟩
end Go.Proofs.YtdabdkedgigjdaaGreat
namespace Go.Proofs.YtdabdkedgigjdaaGreat
open Go.RowKit
/-- At most block g has turned of what was there. -/
structure Alo (g : Nat) (w w' : World) : Prop where
  os : w'.os = w.os
  tape : w'.tape = w.tape
  output : w'.output = w.output
  size : w.heap.size ≤ w'.heap.size
  block : ∀ k, k ≠ g → k < w.heap.size → w'.heap[k]? = w.heap[k]?
theorem Alo.refl (g : Nat) (w : World) : Alo g w w := ⟨rfl, rfl, rfl, Nat.le_refl _, fun _ _ _ => rfl⟩
theorem Alo.trans {g : Nat} {a b c : World} (h : Alo g a b) (k : Alo g b c) : Alo g a c :=
  ⟨k.os.trans h.os, k.tape.trans h.tape, k.output.trans h.output, Nat.le_trans h.size k.size, fun i hi hj => (k.block i hi (Nat.lt_of_lt_of_le hj h.size)).trans (h.block i hi hj)⟩
theorem Alo.only {g : Nat} {a b : World} (h : Only g a b) : Alo g a b := ⟨h.1, h.2.1, h.2.2.1, Nat.le_of_eq h.2.2.2.1.symm, fun k hk _ => h.2.2.2.2 k hk⟩
theorem Alo.ok {g : Nat} {a b : World} (h : Ok a b) : Alo g a b := ⟨h.os, h.tape, h.output, h.size, fun k _ hk => h.block k hk⟩
theorem Alo.below {g : Nat} {a b : World} (h : Alo g a b) {B : Nat} (hB : B ≤ g) (hs : B ≤ a.heap.size) : Below B a b :=
  ⟨h.os, h.tape, h.output, h.size, fun k hk => h.block k (by omega) (by omega)⟩
theorem Rf.ok {W0 : World} {m : Nat} {w w' : World} {xs : List B8} {f : Bool} (h : Rf W0 m w xs f) (k : Ok w w') : Rf W0 m w' xs f := by
  obtain ⟨h1, h2, ⟨v, hv, h0⟩, h3, h4, h5⟩ := h
  have hm : m < w.heap.size := World.block_lt_of_cell? _ _ h0
  exact ⟨h1, Ok.trans h2 k, ⟨v, hv, k.cell h0⟩, k.cell h3, by rw [Below.frozen k (p := ⟨m, 0, none⟩) hm]; exact h4, by rw [Below.frozen k (p := ⟨m, 1, none⟩) hm]; exact h5⟩
theorem Rf.lt {W0 : World} {m : Nat} {w : World} {xs : List B8} {f : Bool} (h : Rf W0 m w xs f) : m < w.heap.size := by
  obtain ⟨v, _, h0⟩ := h.2.2.1
  exact World.block_lt_of_cell? _ _ h0
theorem own_zero (w : World) : OwnN (w.alloc (.cells #[] 5)) w.heap.size (.slice (some ⟨w.heap.size, 0, none⟩) 0 0) [] :=
  ⟨rfl, .inr ⟨w.heap.size, 0, #[], rfl, Nat.le_refl _, heap_alloc_new w _, Nat.le_refl _, by unfold maxLen; omega, rfl, rfl⟩⟩
def RowF (W0 : World) (g : Nat) (w : World) (zs ys : List B8) (f : Bool) (e : Ending) (w' : World) : Prop := ∃ v, e = .returned v ∧ BytesIn w' v zs ∧ Rf W0 g w' ys f ∧ Alo g w w'
set_option maxRecDepth 100000 in
set_option maxHeartbeats 2000000 in
theorem Row_any (W0 : World) (g : Nat) (w : World) (xs : List B8) (f : Bool) (m : Nat) (hm : m ≤ 1000000) (h : Rf W0 g w xs f) :
    Calls Tryz.prog 93 #[.pointer (some ⟨g, 0, none⟩), .int .i64 (m : Int)] w (RowF W0 g w (rowM m xs f).1 (rowM m xs f).2.1 (rowM m xs f).2.2) := by
  have HN := Lib.hid (rnum_w W0 g w xs f m (by unfold topN; omega) h)
  have HFAIL := Lib.hid (rowM_fail m xs f)
  have HFEW := Lib.hid (rowM_few m xs f)
  have HLIVE := Lib.hid (rowM_live m xs f)
  have HLE := Lib.hid (numM_le m xs f)
  clear h
  generalize rowM m xs f = R at *
  generalize numM m xs f = Z at *
  obtain ⟨N, ys, ff⟩ := Z
  simp only at HN HFEW HFAIL HLIVE HLE
  go_enter Tryz.func93, Tryz.ntmps93
  go_wp2_with fail
  refine HN.out.mono ?_
  rintro _ w1 ⟨rfl, hr, ho⟩
  have HR := Lib.hid hr
  have HO := Lib.hid ho
  obtain ⟨_, _, ⟨v, hv, h0⟩, h1, h3, h4⟩ := hr
  have hgs := HR.out.lt
  clear ho HN
  cases ff with
  | true =>
    have HZ := Lib.hid (HFAIL.out rfl)
    clear HFEW HLIVE HFAIL hv
    go_wp2_with fail
    go_ret
    rw [HZ.out]
    exact ⟨_, rfl, BytesIn.nil _, HR.out, Alo.only HO.out⟩
  | false =>
  obtain ⟨A, c, rfl, _⟩ := hv.form
  obtain ⟨l, hl⟩ : ∃ l, ys.length = l := ⟨_, rfl⟩
  rw [hl] at hv h0 HFEW HLIVE
  have HL := Lib.hid hl
  have HV := Lib.hid hv
  have hlc : l ≤ c := by
    rcases hv with ⟨rfl, _⟩ | ⟨_, _, _, e, hc, _⟩
    · simp at hl; omega
    · simp only [Value.slice.injEq] at e; omega
  clear hv hl HFAIL
  by_cases hlt : l < N
  · have HZ := Lib.hid (HFEW.out hlt)
    have d1 : decide ((l : Int) < (N : Int)) = true := decide_eq_true (by omega)
    have d3 : decide (l < N) = true := decide_eq_true (by omega)
    clear HFEW HLIVE hlt
    go_wp2_with fail
    refine (rfail_w W0 g _ _ _ HR.out).mono ?_
    rintro _ w2 ⟨rfl, hr2, ho2⟩
    have HR2 := Lib.hid hr2
    have HO2 := Lib.hid ho2
    clear hr2 ho2
    go_wp2_with fail
    go_ret
    rw [HZ.out]
    exact ⟨_, rfl, BytesIn.nil _, HR2.out, Alo.only (HO.out.trans HO2.out)⟩
  · have HZ := Lib.hid (HLIVE.out rfl hlt)
    have d1 : decide ((l : Int) < (N : Int)) = false := decide_eq_false (by omega)
    have d3 : decide (l < N) = false := decide_eq_false (by omega)
    have HT := Lib.hid (bytes_take HV.out (show N ≤ ys.length by have := HL.out; omega))
    have HD := Lib.hid (bytes_drop HV.out (show N ≤ ys.length by have := HL.out; omega))
    have HTL : Hid ((ys.take N).length = N) := Lib.hid (by rw [List.length_take]; have := HL.out; omega)
    have hNl : N ≤ l := by omega
    have hNc : N ≤ c := by omega
    have hN0 : (0 : Int) ≤ (N : Int) := by omega
    have hN1 : (N : Int) ≤ (l : Int) := by omega
    have hN2 : (N : Int) ≤ (c : Int) := by omega
    generalize hts : ys.take N = ts at *
    generalize hds : ys.drop N = ds at *
    clear hts hds HFEW HLIVE hlt
    have HO1 := Lib.hid (own_zero w1)
    have HOK1 : Hid (Ok w1 (w1.alloc (.cells #[] 5))) := Lib.hid ((Ok.refl w1).alloc _)
    have HT1 : Hid (BytesIn (w1.alloc (.cells #[] 5)) (.slice A N c) ts) := Lib.hid (HOK1.out.bytes (HR.out.2.1.bytes HT.out))
    have HEND : Hid (∀ (A' : Option Addr) (c' : Nat) (w3 : World) (V : Value), OwnN w3 w1.heap.size (.slice A' N c') ts → Ok w1 w3 → BytesIn W0 V ds → RowF W0 g w R.1 R.2.1 R.2.2 (.returned (.slice A' N c')) (w3.setCell ⟨g, 0, none⟩ V)) := Lib.hid fun A' c' w3 V h1 h2 h3 => by
      have hr3 := HR.out.ok h2
      have hlt3 : ∀ b, (Value.slice A' N c').ownBlock = some b → b ≠ g := fun b hb => by
        have := (World.ownsRow.lt h1 b hb).1; omega
      obtain ⟨_, _, ⟨v, _, k0⟩, k1, k3, k4⟩ := hr3
      rw [HZ.out]
      refine ⟨_, rfl, (h1.bytes (by rw [HTL.out]; have := HLE.out; omega)).same fun b hb => Below.heap_setCell _ _ _ _ (hlt3 b hb), ?_, (Alo.only HO.out).trans ((Alo.ok h2).trans (Alo.only ((Only.refl g w3).set 0 _)))⟩
      exact (HR.out.ok h2).set h3 ((Only.refl g w3).set 0 _) (by go_simp) (by go_simp) (by go_simp) (by go_simp)
    have HSL : Hid ([] ++ ts = ts) := Lib.hid rfl
    clear HZ HR HO
    cases A with
    | none =>
      have HD2 : Hid (BytesIn W0 (.slice none (l - N) (c - N)) ds) := Lib.hid (by
        have := HD.out
        split at this <;> exact this)
      go_wp2_with (at_builtin; go_must (refine wpList_app rfl (.tmp 23) (.tmp 29) rfl w1.heap.size (.slice (some ⟨w1.heap.size, 0, none⟩) 0 0) [] ts (.slice none N c) rfl rfl HO1.out HT1.out (by rw [HTL.out]; have := HLE.out; simp only [List.length_nil]; omega) HOK1.out.size ?_; rw [List.length_nil, HTL.out, Nat.zero_add, HSL.out]; intro A' c' w3 hown3 hbel3; have hok3 : Ok w1 w3 := Below.trans HOK1.out hbel3; have HOW := Lib.hid hown3; have c0 := hok3.cell h0; have f0 : w3.frozen? ⟨g, 0, none⟩ = false := (by rw [Below.frozen hok3 (p := ⟨g, 0, none⟩) hgs]; exact h3); have HOK3 := Lib.hid hok3; clear hown3 hbel3 hok3))
      go_ret
      exact HEND.out _ _ _ _ HOW.out HOK3.out HD2.out
    | some a =>
      by_cases hcN : c = N
      · have HD2 : Hid (BytesIn W0 (.slice (some a) 0 0) ds) := Lib.hid (by
          have := HD.out
          rwa [if_pos hcN, show l - N = 0 by omega, show c - N = 0 by omega] at this)
        subst hcN
        go_wp2_with (at_builtin; go_must (refine wpList_app rfl (.tmp 23) (.tmp 29) rfl w1.heap.size (.slice (some ⟨w1.heap.size, 0, none⟩) 0 0) [] ts (.slice (some a) c c) rfl rfl HO1.out HT1.out (by rw [HTL.out]; have := HLE.out; simp only [List.length_nil]; omega) HOK1.out.size ?_; rw [List.length_nil, HTL.out, Nat.zero_add, HSL.out]; intro A' c' w3 hown3 hbel3; have hok3 : Ok w1 w3 := Below.trans HOK1.out hbel3; have HOW := Lib.hid hown3; have c0 := hok3.cell h0; have f0 : w3.frozen? ⟨g, 0, none⟩ = false := (by rw [Below.frozen hok3 (p := ⟨g, 0, none⟩) hgs]; exact h3); have HOK3 := Lib.hid hok3; clear hown3 hbel3 hok3))
        go_ret
        exact HEND.out _ _ _ _ HOW.out HOK3.out HD2.out
      · have HD2 : Hid (BytesIn W0 (.slice (some (a.add N)) (l - N) (c - N)) ds) := Lib.hid (by
          have := HD.out
          rwa [if_neg hcN] at this)
        go_wp2_with (at_builtin; go_must (refine wpList_app rfl (.tmp 23) (.tmp 29) rfl w1.heap.size (.slice (some ⟨w1.heap.size, 0, none⟩) 0 0) [] ts (.slice (some a) N c) rfl rfl HO1.out HT1.out (by rw [HTL.out]; have := HLE.out; simp only [List.length_nil]; omega) HOK1.out.size ?_; rw [List.length_nil, HTL.out, Nat.zero_add, HSL.out]; intro A' c' w3 hown3 hbel3; have hok3 : Ok w1 w3 := Below.trans HOK1.out hbel3; have HOW := Lib.hid hown3; have c0 := hok3.cell h0; have f0 : w3.frozen? ⟨g, 0, none⟩ = false := (by rw [Below.frozen hok3 (p := ⟨g, 0, none⟩) hgs]; exact h3); have HOK3 := Lib.hid hok3; clear hown3 hbel3 hok3))
        go_ret
        exact HEND.out _ _ _ _ HOW.out HOK3.out HD2.out
end Go.Proofs.YtdabdkedgigjdaaGreat
namespace Go.Proofs.YtdabdkedgigjdaaGreat
open Go.RowKit
theorem numA (W0 : World) (g : Nat) (w : World) (xs : List B8) (f : Bool) (h : Rd W0 g w xs f) :
    Calls Tryz.prog 90 #[.pointer (some ⟨g, 0, none⟩), .int .i64 1073741824] w (RdPost W0 g w (.int .i64 ((numM 1073741824 xs f).1 : Int)) (numM 1073741824 xs f).2.1 (numM 1073741824 xs f).2.2) := Num_any W0 g w xs f 1073741824 (by decide) h
theorem numB (W0 : World) (g : Nat) (w : World) (xs : List B8) (f : Bool) (h : Rd W0 g w xs f) :
    Calls Tryz.prog 90 #[.pointer (some ⟨g, 0, none⟩), .int .i64 4] w (RdPost W0 g w (.int .i64 ((numM 4 xs f).1 : Int)) (numM 4 xs f).2.1 (numM 4 xs f).2.2) := Num_any W0 g w xs f 4 (by decide) h
theorem numC (W0 : World) (g : Nat) (w : World) (xs : List B8) (f : Bool) (h : Rd W0 g w xs f) :
    Calls Tryz.prog 90 #[.pointer (some ⟨g, 0, none⟩), .int .i64 9] w (RdPost W0 g w (.int .i64 ((numM 9 xs f).1 : Int)) (numM 9 xs f).2.1 (numM 9 xs f).2.2) := Num_any W0 g w xs f 9 (by decide) h
theorem txtA (W0 : World) (g : Nat) (w : World) (xs : List B8) (f : Bool) (h : Rd W0 g w xs f) :
    Calls Tryz.prog 91 #[.pointer (some ⟨g, 0, none⟩), .int .i64 20] w (RdPost W0 g w (.string (toStr (rowM 20 xs f).1)) (rowM 20 xs f).2.1 (rowM 20 xs f).2.2) := Text_any W0 g w xs f 20 (by decide) h
/-- What is read as a handoff, right or not; what is left; whether the reader has failed. -/
def scRd (xs : List B8) (f : Bool) : Sc × List B8 × Bool :=
  let r1 := numM 1073741824 xs f
  let r2 := rowM 20 r1.2.1 r1.2.2
  let r3 := rowM 20 r2.2.1 r2.2.2
  let r4 := numM 4 r3.2.1 r3.2.2
  let r5 := numM 4 r4.2.1 r4.2.2
  let r6 := numM 1073741824 r5.2.1 r5.2.2
  let r7 := numM 1073741824 r6.2.1 r6.2.2
  let r8 := numM 9 r7.2.1 r7.2.2
  (⟨r1.1, ⟨toStr r2.1, toStr r3.1⟩, r4.1, r5.1, r6.1, r7.1, r8.1⟩, r8.2.1, r8.2.2)
theorem scRd_steps (xs : List B8) (f : Bool) : ∃ n1 x1 f1 z2 x2 f2 z3 x3 f3 n4 x4 f4 n5 x5 f5 n6 x6 f6 n7 x7 f7 n8 x8 f8, numM 1073741824 xs f = (n1, x1, f1) ∧ rowM 20 x1 f1 = (z2, x2, f2) ∧ rowM 20 x2 f2 = (z3, x3, f3) ∧ numM 4 x3 f3 = (n4, x4, f4) ∧ numM 4 x4 f4 = (n5, x5, f5) ∧ numM 1073741824 x5 f5 = (n6, x6, f6) ∧ numM 1073741824 x6 f6 = (n7, x7, f7) ∧ numM 9 x7 f7 = (n8, x8, f8) ∧ scRd xs f = (⟨n1, ⟨toStr z2, toStr z3⟩, n4, n5, n6, n7, n8⟩, x8, f8) :=
  ⟨_, _, _, _, _, _, _, _, _, _, _, _, _, _, _, _, _, _, _, _, _, _, _, _, rfl, rfl, rfl, rfl, rfl, rfl, rfl, rfl, rfl⟩
/-- One that failed has no stage. -/
theorem scRd_bad (xs : List B8) (f : Bool) (h : (scRd xs f).2.2 = true) : scB (scRd xs f).1 = false := by
  obtain ⟨n1, x1, f1, z2, x2, f2, z3, x3, f3, n4, x4, f4, n5, x5, f5, n6, x6, f6, n7, x7, f7, n8, x8, f8, -, -, -, -, -, -, -, e8, e⟩ := scRd_steps xs f
  rw [e] at h ⊢
  have h8 := numM_zero 9 x7 f7 (by rw [e8]; exact h)
  rw [e8] at h8
  obtain rfl : n8 = 0 := h8
  simp [scB, sc2, stB]
theorem scRd_ok (xs : List B8) (f : Bool) (h : f = true → xs = []) : (scRd xs f).2.2 = true → (scRd xs f).2.1 = [] := by
  obtain ⟨n1, x1, f1, z2, x2, f2, z3, x3, f3, n4, x4, f4, n5, x5, f5, n6, x6, f6, n7, x7, f7, n8, x8, f8, e1, e2, e3, e4, e5, e6, e7, e8, e⟩ := scRd_steps xs f
  have h1 := numM_ok 1073741824 xs f h
  rw [e1] at h1
  have h2 := rowM_ok 20 x1 f1 h1
  rw [e2] at h2
  have h3 := rowM_ok 20 x2 f2 h2
  rw [e3] at h3
  have h4 := numM_ok 4 x3 f3 h3
  rw [e4] at h4
  have h5 := numM_ok 4 x4 f4 h4
  rw [e5] at h5
  have h6 := numM_ok 1073741824 x5 f5 h5
  rw [e6] at h6
  have h7 := numM_ok 1073741824 x6 f6 h6
  rw [e7] at h7
  have h8 := numM_ok 9 x7 f7 h7
  rw [e8] at h8
  rw [e]
  exact h8
theorem Rd.lt {W0 : World} {g : Nat} {w : World} {xs : List B8} {f : Bool} (h : Rd W0 g w xs f) : g < w.heap.size := by
  obtain ⟨v, _, h0⟩ := h.2.2.1
  exact World.block_lt_of_cell? _ _ h0
theorem Rd.below {W0 : World} {g p : Nat} {w w' : World} {xs : List B8} {f : Bool} (h : Rd W0 g w xs f) (k : Below p w w') (hp : g < p) : Rd W0 g w' xs f := by
  obtain ⟨h1, h2, ⟨v, hv, h0⟩, h3, h4, h5, h6⟩ := h
  exact ⟨h1, Below.trans h2 (k.mono (by omega)), ⟨v, hv, by rw [k.cell (p := ⟨g, 0, none⟩) hp]; exact h0⟩, by rw [k.cell (p := ⟨g, 1, none⟩) hp]; exact h3, by rw [k.cell (p := ⟨g, 2, none⟩) hp]; exact h4, by rw [k.frozen (p := ⟨g, 0, none⟩) hp]; exact h5, by rw [k.frozen (p := ⟨g, 1, none⟩) hp]; exact h6⟩
theorem Rf.below {W0 : World} {g p : Nat} {w w' : World} {xs : List B8} {f : Bool} (h : Rf W0 g w xs f) (k : Below p w w') (hp : g < p) : Rf W0 g w' xs f := by
  obtain ⟨h1, h2, ⟨v, hv, h0⟩, h3, h5, h6⟩ := h
  exact ⟨h1, Below.trans h2 (k.mono (by omega)), ⟨v, hv, by rw [k.cell (p := ⟨g, 0, none⟩) hp]; exact h0⟩, by rw [k.cell (p := ⟨g, 1, none⟩) hp]; exact h3, by rw [k.frozen (p := ⟨g, 0, none⟩) hp]; exact h5, by rw [k.frozen (p := ⟨g, 1, none⟩) hp]; exact h6⟩
theorem Alo.tail {g : Nat} {w a b : World} (h : Alo g w a) (k : Below w.heap.size a b) : Alo g w b :=
  ⟨k.os.trans h.os, k.tape.trans h.tape, k.output.trans h.output, Nat.le_trans h.size k.size, fun i hi hj => (k.block i hj).trans (h.block i hi hj)⟩
theorem Alo.cell {g : Nat} {w w' : World} (h : Alo g w w') {b o : Nat} {v : Value} (hb : b ≠ g) (hc : w.cell? ⟨b, o, none⟩ = some v) : w'.cell? ⟨b, o, none⟩ = some v := by
  have hl := World.block_lt_of_cell? _ _ hc
  rw [World.cell?_of_block (a := ⟨b, o, none⟩) (h.block b hb hl)]; exact hc
theorem Alo.frozen {g : Nat} {w w' : World} (h : Alo g w w') {b o : Nat} (hb : b ≠ g) (hl : b < w.heap.size) (hc : w.frozen? ⟨b, o, none⟩ = false) : w'.frozen? ⟨b, o, none⟩ = false := by
  have := h.block b hb hl
  unfold World.frozen? at hc ⊢
  simp only at hc ⊢
  rw [this]; exact hc
theorem frz_raw {w : World} {p ty : Nat} {cs : Array Value} (h : w.heap[p]? = some (.cells cs ty (0, 0))) (i : Nat) : w.frozen? ⟨p, i, none⟩ = false := by
  simp [World.frozen?, h]
theorem scs_at {w : World} {n : Nat} (x : Sc) (h : w.heap.size = n) : ScsAt (w.alloc (.cells #[.int .i64 x.num, .string x.sp.lo, .string x.sp.hi, .int .i64 x.fr, .int .i64 x.to, .int .i64 x.ep, .int .i64 x.un, .int .u8 x.st] 52)) (some ⟨n, 0, none⟩) [x] := h ▸ scs_one w x
theorem all_one (x : Sc) : [x].all scB = scB x := by simp
def ReadP (W0 : World) (g : Nat) (w : World) (y : Sc) (b : Bool) (ys : List B8) (f : Bool) (e : Ending) (w' : World) : Prop := e = .returned (.tuple #[scV y, .bool b]) ∧ Rd W0 g w' ys f ∧ Alo g w w'
def scIf (x : Sc) : Sc := if scB x = true then x else sc0
set_option maxRecDepth 100000 in
set_option maxHeartbeats 4000000 in
theorem scRead_w (W0 : World) (g : Nat) (w : World) (xs : List B8) (f : Bool) (h : Rd W0 g w xs f) :
    Calls Tryz.prog 45 #[.pointer (some ⟨g, 0, none⟩)] w (ReadP W0 g w (scIf (scRd xs f).1) (scB (scRd xs f).1) (scRd xs f).2.1 (scRd xs f).2.2) := by
  obtain ⟨n1, x1, f1, z2, x2, f2, z3, x3, f3, n4, x4, f4, n5, x5, f5, n6, x6, f6, n7, x7, f7, n8, x8, f8, e1, e2, e3, e4, e5, e6, e7, e8, e⟩ := scRd_steps xs f
  have HLE : Hid (n8 ≤ 9) := Lib.hid (by have := numM_le 9 x7 f7; rw [e8] at this; exact this)
  rw [e]
  simp only
  obtain ⟨R, hR⟩ : ∃ R, scB ⟨n1, ⟨toStr z2, toStr z3⟩, n4, n5, n6, n7, n8⟩ = R := ⟨_, rfl⟩
  obtain ⟨Y, hY⟩ : ∃ Y, scIf ⟨n1, ⟨toStr z2, toStr z3⟩, n4, n5, n6, n7, n8⟩ = Y := ⟨_, rfl⟩
  have HY : Hid (Y = if R = true then ⟨n1, ⟨toStr z2, toStr z3⟩, n4, n5, n6, n7, n8⟩ else sc0) := Lib.hid (by rw [← hY, scIf, hR])
  rw [hR, hY]
  have HRR := Lib.hid hR
  clear hR hY
  have hg := h.lt
  have HR0 := Lib.hid (h.below (((Below.refl w.heap.size w)).alloc (Nat.le_refl _) (.cells #[.int .i64 0, .string ⟨#[]⟩, .string ⟨#[]⟩, .int .i64 0, .int .i64 0, .int .i64 0, .int .i64 0, .int .u8 0] 52)) hg)
  have E1 := Lib.hid e1
  have E2 := Lib.hid e2
  have E3 := Lib.hid e3
  have E4 := Lib.hid e4
  have E5 := Lib.hid e5
  have E6 := Lib.hid e6
  have E7 := Lib.hid e7
  have E8 := Lib.hid e8
  clear e1 e2 e3 e4 e5 e6 e7 e8 e h
  obtain ⟨p, hp⟩ : ∃ p, w.heap.size = p := ⟨_, rfl⟩
  go_enter Tryz.func45, Tryz.ntmps45
  go_wp2_with fail
  have Z0 : (w.alloc (.cells #[.int .i64 0, .string ⟨#[]⟩, .string ⟨#[]⟩, .int .i64 0, .int .i64 0, .int .i64 0, .int .i64 0, .int .u8 0] 52)).heap.size = p + 1 := by simp [hp]
  have ZB := blk_new (o := .cells #[.int .i64 0, .string ⟨#[]⟩, .string ⟨#[]⟩, .int .i64 0, .int .i64 0, .int .i64 0, .int .i64 0, .int .u8 0] 52) hp
  have HA0 := Lib.hid (Alo.ok (g := g) ((Ok.refl w).alloc (.cells #[.int .i64 0, .string ⟨#[]⟩, .string ⟨#[]⟩, .int .i64 0, .int .i64 0, .int .i64 0, .int .i64 0, .int .u8 0] 52)))
  generalize w.alloc (.cells #[.int .i64 0, .string ⟨#[]⟩, .string ⟨#[]⟩, .int .i64 0, .int .i64 0, .int .i64 0, .int .i64 0, .int .u8 0] 52) = V0 at *
  have hgp : g < p := by omega
  have HP := Lib.hid hp
  have HZB := Lib.hid ZB
  have HZ0 := Lib.hid Z0
  clear hp ZB Z0 hg
  refine (by have C := numA W0 g V0 xs f HR0.out; rw [E1.out] at C; exact C : Calls Tryz.prog 90 _ V0 (RdPost W0 g V0 (.int .i64 (n1 : Int)) x1 f1)).mono ?_
  rintro _ w1 ⟨rfl, hr1, o1⟩
  have HR1 := Lib.hid hr1
  have O1 := Lib.hid o1
  clear hr1 o1 HR0 E1
  go_wp2_with fail
  refine (by have C := txtA W0 g w1 x1 f1 HR1.out; rw [E2.out] at C; exact C : Calls Tryz.prog 91 _ w1 (RdPost W0 g w1 (.string (toStr z2)) x2 f2)).mono ?_
  rintro _ w2 ⟨rfl, hr2, o2⟩
  have HR2 := Lib.hid hr2
  have O2 := Lib.hid (O1.out.trans o2)
  clear hr2 o2 O1 HR1 E2
  go_wp2_with fail
  refine (by have C := txtA W0 g w2 x2 f2 HR2.out; rw [E3.out] at C; exact C : Calls Tryz.prog 91 _ w2 (RdPost W0 g w2 (.string (toStr z3)) x3 f3)).mono ?_
  rintro _ w3 ⟨rfl, hr3, o3⟩
  have HR3 := Lib.hid hr3
  have O3 := Lib.hid (O2.out.trans o3)
  clear hr3 o3 O2 HR2 E3
  go_wp2_with fail
  refine (by have C := numB W0 g w3 x3 f3 HR3.out; rw [E4.out] at C; exact C : Calls Tryz.prog 90 _ w3 (RdPost W0 g w3 (.int .i64 (n4 : Int)) x4 f4)).mono ?_
  rintro _ w4 ⟨rfl, hr4, o4⟩
  have HR4 := Lib.hid hr4
  have O4 := Lib.hid (O3.out.trans o4)
  clear hr4 o4 O3 HR3 E4
  go_wp2_with fail
  refine (by have C := numB W0 g w4 x4 f4 HR4.out; rw [E5.out] at C; exact C : Calls Tryz.prog 90 _ w4 (RdPost W0 g w4 (.int .i64 (n5 : Int)) x5 f5)).mono ?_
  rintro _ w5 ⟨rfl, hr5, o5⟩
  have HR5 := Lib.hid hr5
  have O5 := Lib.hid (O4.out.trans o5)
  clear hr5 o5 O4 HR4 E5
  go_wp2_with fail
  refine (by have C := numA W0 g w5 x5 f5 HR5.out; rw [E6.out] at C; exact C : Calls Tryz.prog 90 _ w5 (RdPost W0 g w5 (.int .i64 (n6 : Int)) x6 f6)).mono ?_
  rintro _ w6 ⟨rfl, hr6, o6⟩
  have HR6 := Lib.hid hr6
  have O6 := Lib.hid (O5.out.trans o6)
  clear hr6 o6 O5 HR5 E6
  go_wp2_with fail
  refine (by have C := numA W0 g w6 x6 f6 HR6.out; rw [E7.out] at C; exact C : Calls Tryz.prog 90 _ w6 (RdPost W0 g w6 (.int .i64 (n7 : Int)) x7 f7)).mono ?_
  rintro _ w7 ⟨rfl, hr7, o7⟩
  have HR7 := Lib.hid hr7
  have O7 := Lib.hid (O6.out.trans o7)
  clear hr7 o7 O6 HR6 E7
  go_wp2_with fail
  refine (by have C := numC W0 g w7 x7 f7 HR7.out; rw [E8.out] at C; exact C : Calls Tryz.prog 90 _ w7 (RdPost W0 g w7 (.int .i64 (n8 : Int)) x8 f8)).mono ?_
  rintro _ w8 ⟨rfl, hr8, o8⟩
  have HR8 := Lib.hid hr8
  have O8 := Lib.hid (O7.out.trans o8)
  have hm8 : (n8 : Int) % 256 = n8 := by have := HLE.out; omega
  clear hr8 o8 O7 HR7 E8
  go_wp2_with fail
  clear hm8
  have HRT := Lib.hid (scRight_w (some ⟨w8.heap.size + 1, 0, none⟩) 1 1 [⟨n1, ⟨toStr z2, toStr z3⟩, n4, n5, n6, n7, n8⟩] rfl (by decide) _ (scs_at (w := w8.alloc (.cells #[.int .i64 n1, .string (toStr z2), .string (toStr z3), .int .i64 n4, .int .i64 n5, .int .i64 n6, .int .i64 n7, .int .u8 n8] 52)) ⟨n1, ⟨toStr z2, toStr z3⟩, n4, n5, n6, n7, n8⟩ (by simp)))
  rw [all_one, HRR.out] at HRT
  have HB4 := Lib.hid (blk_old (o' := .cells #[.int .i64 n1, .string (toStr z2), .string (toStr z3), .int .i64 n4, .int .i64 n5, .int .i64 n6, .int .i64 n7, .int .u8 n8] 52) (blk_new (w := w8) (o := .cells #[.int .i64 n1, .string (toStr z2), .string (toStr z3), .int .i64 n4, .int .i64 n5, .int .i64 n6, .int .i64 n7, .int .u8 n8] 52) rfl))
  have HK4 := Lib.hid (((Ok.refl w8).alloc (.cells #[.int .i64 n1, .string (toStr z2), .string (toStr z3), .int .i64 n4, .int .i64 n5, .int .i64 n6, .int .i64 n7, .int .u8 n8] 52)).alloc (.cells #[.int .i64 n1, .string (toStr z2), .string (toStr z3), .int .i64 n4, .int .i64 n5, .int .i64 n6, .int .i64 n7, .int .u8 n8] 52))
  generalize (w8.alloc (.cells #[.int .i64 n1, .string (toStr z2), .string (toStr z3), .int .i64 n4, .int .i64 n5, .int .i64 n6, .int .i64 n7, .int .u8 n8] 52)).alloc (.cells #[.int .i64 n1, .string (toStr z2), .string (toStr z3), .int .i64 n4, .int .i64 n5, .int .i64 n6, .int .i64 n7, .int .u8 n8] 52) = V8 at *
  have HPB := Lib.hid ((O8.out.2.2.2.2 p (by omega)).trans HZB.out)
  have hp4 : p < w8.heap.size := by have h1 := O8.out.2.2.2.1; have h2 := HZ0.out; omega
  have HP4 := Lib.hid hp4
  obtain ⟨p4, hp4e⟩ : ∃ q, w8.heap.size = q := ⟨_, rfl⟩
  rw [hp4e] at HB4 HP4 hp4 HRT ⊢
  have HE4 := Lib.hid hp4e
  clear hp4e hp4
  refine HRT.out.mono ?_
  rintro _ w9 ⟨rfl, o9⟩
  have hb4 := blk_ok o9 HB4.out
  have hbp := blk_ok o9 (blk_ok HK4.out HPB.out)
  obtain ⟨B0, B1, B2, B3, B4, B5, B6, B7⟩ := sc_raw hb4
  obtain ⟨C0, C1, C2, C3, C4, C5, C6, C7⟩ := sc_raw hbp
  have F0 := frz_raw hbp 0; have F1 := frz_raw hbp 1; have F2 := frz_raw hbp 2; have F3 := frz_raw hbp 3; have F4 := frz_raw hbp 4; have F5 := frz_raw hbp 5; have F6 := frz_raw hbp 6; have F7 := frz_raw hbp 7
  have HBL : Hid (Below p w8 w9) := Lib.hid (Below.mono (Ok.trans HK4.out o9) (by rw [HE4.out]; have := HP4.out; omega))
  have HEND : Hid (∀ y b (w' : World), Below p w9 w' → ReadP W0 g w y b x8 f8 (.returned (.tuple #[scV y, .bool b])) w') := Lib.hid fun y b w' k => ⟨rfl, HR8.out.below (HBL.out.trans k) hgp, (HA0.out.trans (Alo.only O8.out)).tail (by rw [HP.out]; exact HBL.out.trans k)⟩
  clear hb4 hbp o9 HRT HB4 HK4 HPB HZB HA0 O8 HR8 HBL HLE
  have S8 : Sc8 w9 p sc0 := ⟨C0, C1, C2, C3, C4, C5, C6, C7⟩
  cases R with
  | true =>
    have HYY : Hid (Y = ⟨n1, ⟨toStr z2, toStr z3⟩, n4, n5, n6, n7, n8⟩) := Lib.hid (HY.out.trans (if_pos rfl))
    have HS8 := Lib.hid (S8.put8 ⟨n1, ⟨toStr z2, toStr z3⟩, n4, n5, n6, n7, n8⟩)
    clear HY S8 HRR
    go_wp2_with fail
    (try simp only [Exit.inBlock, Exit.then])
    change bodyPost Tryz.prog _ _ Exit.ret _ (put8 w9 p ⟨n1, ⟨toStr z2, toStr z3⟩, n4, n5, n6, n7, n8⟩)
    have k8 : Below p w9 (put8 w9 p ⟨n1, ⟨toStr z2, toStr z3⟩, n4, n5, n6, n7, n8⟩) := by unfold put8; exact (((((((((Below.refl p w9).setCell (Nat.le_refl _) _).setCell (Nat.le_refl _) _).setCell (Nat.le_refl _) _).setCell (Nat.le_refl _) _).setCell (Nat.le_refl _) _).setCell (Nat.le_refl _) _).setCell (Nat.le_refl _) _).setCell (Nat.le_refl _) _)
    obtain ⟨b0, b1, b2, b3, b4, b5, b6, b7⟩ := HS8.out
    generalize put8 w9 p ⟨n1, ⟨toStr z2, toStr z3⟩, n4, n5, n6, n7, n8⟩ = Z at *
    refine bodyPost_ret (by simp [results, Tryz.results45, go_sem, b0, b1, b2, b3, b4, b5, b6, b7]; try rfl) rfl ?_
    rw [HYY.out]
    exact HEND.out _ _ _ k8
  | false =>
    have HYY : Hid (Y = sc0) := Lib.hid (HY.out.trans (if_neg (by decide)))
    have HS8 := Lib.hid (S8.put8 sc0)
    clear HY S8 HRR
    go_wp2_with fail
    (try simp only [Exit.inBlock, Exit.then])
    change bodyPost Tryz.prog _ _ Exit.ret _ (put8 w9 p sc0)
    have k8 : Below p w9 (put8 w9 p sc0) := by unfold put8; exact (((((((((Below.refl p w9).setCell (Nat.le_refl _) _).setCell (Nat.le_refl _) _).setCell (Nat.le_refl _) _).setCell (Nat.le_refl _) _).setCell (Nat.le_refl _) _).setCell (Nat.le_refl _) _).setCell (Nat.le_refl _) _).setCell (Nat.le_refl _) _)
    obtain ⟨b0, b1, b2, b3, b4, b5, b6, b7⟩ := HS8.out
    generalize put8 w9 p sc0 = Z at *
    refine bodyPost_ret (by simp [results, Tryz.results45, go_sem, b0, b1, b2, b3, b4, b5, b6, b7]; try rfl) rfl ?_
    rw [HYY.out]
    exact HEND.out _ _ _ k8
end Go.Proofs.YtdabdkedgigjdaaGreat
namespace Go.Proofs.YtdabdkedgigjdaaGreat
open Go.RowKit
theorem rnumA (W0 : World) (g : Nat) (w : World) (xs : List B8) (f : Bool) (h : Rf W0 g w xs f) :
    Calls Tryz.prog 92 #[.pointer (some ⟨g, 0, none⟩), .int .i64 1073741824] w (RfPost W0 g w (.int .i64 ((numM 1073741824 xs f).1 : Int)) (numM 1073741824 xs f).2.1 (numM 1073741824 xs f).2.2) := rnum_w W0 g w xs f 1073741824 (by decide) h
theorem rnumB (W0 : World) (g : Nat) (w : World) (xs : List B8) (f : Bool) (h : Rf W0 g w xs f) :
    Calls Tryz.prog 92 #[.pointer (some ⟨g, 0, none⟩), .int .i64 4] w (RfPost W0 g w (.int .i64 ((numM 4 xs f).1 : Int)) (numM 4 xs f).2.1 (numM 4 xs f).2.2) := rnum_w W0 g w xs f 4 (by decide) h
theorem rnumC (W0 : World) (g : Nat) (w : World) (xs : List B8) (f : Bool) (h : Rf W0 g w xs f) :
    Calls Tryz.prog 92 #[.pointer (some ⟨g, 0, none⟩), .int .i64 9] w (RfPost W0 g w (.int .i64 ((numM 9 xs f).1 : Int)) (numM 9 xs f).2.1 (numM 9 xs f).2.2) := rnum_w W0 g w xs f 9 (by decide) h
theorem rrowA (W0 : World) (g : Nat) (w : World) (xs : List B8) (f : Bool) (h : Rf W0 g w xs f) :
    Calls Tryz.prog 93 #[.pointer (some ⟨g, 0, none⟩), .int .i64 20] w (RowF W0 g w (rowM 20 xs f).1 (rowM 20 xs f).2.1 (rowM 20 xs f).2.2) := Row_any W0 g w xs f 20 (by decide) h
/-- A handoff's block. -/
def HasSc (w : World) (p : Nat) (num : Int) (lo hi : Str) (fr tt ep un st : Int) : Prop := w.heap[p]? = some (.cells #[.int .i64 num, .string lo, .string hi, .int .i64 fr, .int .i64 tt, .int .i64 ep, .int .i64 un, .int .u8 st] 52 (0, 0))
/-- What stands while a handoff is read: the reader; the new block p for what is told; the handoff so far at q. -/
structure Rs (W0 : World) (g : Nat) (w : World) (p q : Nat) (W : World) (xs : List B8) (f : Bool) (num : Int) (lo hi : Str) (fr tt ep un st : Int) : Prop where
  rf : Rf W0 g W xs f
  alo : Alo g w W
  hp : HasSc W p 0 ⟨#[]⟩ ⟨#[]⟩ 0 0 0 0 0
  hx : HasSc W q num lo hi fr tt ep un st
theorem Rs.call {W0 : World} {g : Nat} {w : World} {p q : Nat} {W W' : World} {xs ys : List B8} {f f' : Bool} {num : Int} {lo hi : Str} {fr tt ep un st : Int} (h : Rs W0 g w p q W xs f num lo hi fr tt ep un st) (hp : p ≠ g) (hq : q ≠ g) (r : Rf W0 g W' ys f') (k : Alo g W W') : Rs W0 g w p q W' ys f' num lo hi fr tt ep un st where
  rf := r
  alo := h.alo.trans k
  hp := (k.block p hp (Array.getElem?_eq_some_iff.1 h.hp).1).trans h.hp
  hx := (k.block q hq (Array.getElem?_eq_some_iff.1 h.hx).1).trans h.hx
theorem set_sc {W : World} {p : Nat} {cs : Array Value} (h : W.heap[p]? = some (.cells cs 52 (0, 0))) (i : Nat) (v : Value) : (W.setCell ⟨p, i, none⟩ v).heap[p]? = some (.cells (cs.setIfInBounds i v) 52 (0, 0)) := by
  exact heap_setCell_same W p i cs 52 v h
theorem Rs.set {W0 : World} {g : Nat} {w : World} {p q : Nat} {W : World} {xs : List B8} {f : Bool} {num : Int} {lo hi : Str} {fr tt ep un st : Int} (h : Rs W0 g w p q W xs f num lo hi fr tt ep un st) (hq : g < q) (hqw : w.heap.size ≤ q) (hpq : p ≠ q) (i : Nat) (v : Value) {num' : Int} {lo' hi' : Str} {fr' tt' ep' un' st' : Int}
    (e : (#[.int .i64 num, .string lo, .string hi, .int .i64 fr, .int .i64 tt, .int .i64 ep, .int .i64 un, .int .u8 st] : Array Value).setIfInBounds i v = #[.int .i64 num', .string lo', .string hi', .int .i64 fr', .int .i64 tt', .int .i64 ep', .int .i64 un', .int .u8 st']) : Rs W0 g w p q (W.setCell ⟨q, i, none⟩ v) xs f num' lo' hi' fr' tt' ep' un' st' where
  rf := h.rf.below ((Below.refl q W).setCell (Nat.le_refl _) _) hq
  alo := h.alo.tail ((Below.refl _ W).setCell hqw _)
  hp := (Below.heap_setCell _ _ _ _ hpq).trans h.hp
  hx := by
    have := set_sc h.hx i v
    rw [e] at this
    exact this
theorem HasSc.raw {w : World} {p : Nat} {num fr tt ep un st : Int} {lo hi : Str} (h : HasSc w p num lo hi fr tt ep un st) : (w.cell? ⟨p, 0, none⟩ = some (.int .i64 num) ∧ w.cell? ⟨p, 1, none⟩ = some (.string lo) ∧ w.cell? ⟨p, 2, none⟩ = some (.string hi) ∧ w.cell? ⟨p, 3, none⟩ = some (.int .i64 fr) ∧ w.cell? ⟨p, 4, none⟩ = some (.int .i64 tt) ∧ w.cell? ⟨p, 5, none⟩ = some (.int .i64 ep) ∧ w.cell? ⟨p, 6, none⟩ = some (.int .i64 un) ∧ w.cell? ⟨p, 7, none⟩ = some (.int .u8 st)) ∧ (∀ i, w.frozen? ⟨p, i, none⟩ = false) := ⟨sc_raw h, frz_raw h⟩
def ReadF (W0 : World) (g : Nat) (w : World) (y : Sc) (b : Bool) (ys : List B8) (f : Bool) (e : Ending) (w' : World) : Prop := e = .returned (.tuple #[scV y, .bool b]) ∧ Rf W0 g w' ys f ∧ Alo g w w'
set_option maxRecDepth 100000 in
set_option maxHeartbeats 4000000 in
theorem rscRead_w (W0 : World) (g : Nat) (w : World) (xs : List B8) (f : Bool) (h : Rf W0 g w xs f) :
    Calls Tryz.prog 46 #[.pointer (some ⟨g, 0, none⟩)] w (ReadF W0 g w (scIf (scRd xs f).1) (scB (scRd xs f).1) (scRd xs f).2.1 (scRd xs f).2.2) := by
  have HBAD := Lib.hid (scRd_bad xs f)
  obtain ⟨n1, x1, f1, z2, x2, f2, z3, x3, f3, n4, x4, f4, n5, x5, f5, n6, x6, f6, n7, x7, f7, n8, x8, f8, e1, e2, e3, e4, e5, e6, e7, e8, e⟩ := scRd_steps xs f
  have HLE : Hid (n8 ≤ 9) := Lib.hid (by have := numM_le 9 x7 f7; rw [e8] at this; exact this)
  rw [e] at HBAD ⊢
  simp only at HBAD ⊢
  obtain ⟨R, hR⟩ : ∃ R, scB ⟨n1, ⟨toStr z2, toStr z3⟩, n4, n5, n6, n7, n8⟩ = R := ⟨_, rfl⟩
  obtain ⟨Y, hY⟩ : ∃ Y, scIf ⟨n1, ⟨toStr z2, toStr z3⟩, n4, n5, n6, n7, n8⟩ = Y := ⟨_, rfl⟩
  have HY : Hid (Y = if R = true then ⟨n1, ⟨toStr z2, toStr z3⟩, n4, n5, n6, n7, n8⟩ else sc0) := Lib.hid (by rw [← hY, scIf, hR])
  rw [hR] at HBAD
  rw [hR, hY]
  have HRR := Lib.hid hR
  clear hR hY
  have hg := h.lt
  have HR0 := Lib.hid (h.ok ((Ok.refl w).alloc (.cells #[.int .i64 0, .string ⟨#[]⟩, .string ⟨#[]⟩, .int .i64 0, .int .i64 0, .int .i64 0, .int .i64 0, .int .u8 0] 52)))
  have E1 := Lib.hid e1
  have E2 := Lib.hid e2
  have E3 := Lib.hid e3
  have E4 := Lib.hid e4
  have E5 := Lib.hid e5
  have E6 := Lib.hid e6
  have E7 := Lib.hid e7
  have E8 := Lib.hid e8
  clear e1 e2 e3 e4 e5 e6 e7 e8 e h
  obtain ⟨p, hp⟩ : ∃ p, w.heap.size = p := ⟨_, rfl⟩
  go_enter Tryz.func46, Tryz.ntmps46
  go_wp2_with fail
  have Z0 : (w.alloc (.cells #[.int .i64 0, .string ⟨#[]⟩, .string ⟨#[]⟩, .int .i64 0, .int .i64 0, .int .i64 0, .int .i64 0, .int .u8 0] 52)).heap.size = p + 1 := by simp [hp]
  have HZB := Lib.hid (blk_new (o := .cells #[.int .i64 0, .string ⟨#[]⟩, .string ⟨#[]⟩, .int .i64 0, .int .i64 0, .int .i64 0, .int .i64 0, .int .u8 0] 52) hp)
  have HA0 := Lib.hid (Alo.ok (g := g) ((Ok.refl w).alloc (.cells #[.int .i64 0, .string ⟨#[]⟩, .string ⟨#[]⟩, .int .i64 0, .int .i64 0, .int .i64 0, .int .i64 0, .int .u8 0] 52)))
  generalize w.alloc (.cells #[.int .i64 0, .string ⟨#[]⟩, .string ⟨#[]⟩, .int .i64 0, .int .i64 0, .int .i64 0, .int .i64 0, .int .u8 0] 52) = V0 at *
  have hgp : g < p := by omega
  have HP := Lib.hid hp
  have HZ0 := Lib.hid Z0
  clear hp Z0 hg
  refine (by have C := rnumA W0 g V0 xs f HR0.out; rw [E1.out] at C; exact C : Calls Tryz.prog 92 _ V0 (RfPost W0 g V0 (.int .i64 (n1 : Int)) x1 f1)).mono ?_
  rintro _ w1 ⟨rfl, hr1, o1⟩
  have HRR1 := Lib.hid hr1
  have HAL1 := Lib.hid (HA0.out.trans (Alo.only o1))
  have HPB1 := Lib.hid ((o1.2.2.2.2 p (by omega)).trans HZB.out)
  obtain ⟨q, hq⟩ : ∃ q, w1.heap.size = q := ⟨_, rfl⟩
  have hpq : p < q := by have h1 := o1.2.2.2.1; have h2 := HZ0.out; omega
  clear hr1 o1 HR0 E1 HA0 HZB
  go_wp2_with fail
  have HS : Hid (Rs W0 g w p q (w1.alloc (.cells #[.int .i64 n1, .string ⟨#[]⟩, .string ⟨#[]⟩, .int .i64 0, .int .i64 0, .int .i64 0, .int .i64 0, .int .u8 0] 52)) x1 f1 n1 ⟨#[]⟩ ⟨#[]⟩ 0 0 0 0 0) := Lib.hid ⟨HRR1.out.ok ((Ok.refl w1).alloc _), HAL1.out.trans (Alo.ok ((Ok.refl w1).alloc _)), blk_old HPB1.out, blk_new hq⟩
  generalize w1.alloc (.cells #[.int .i64 n1, .string ⟨#[]⟩, .string ⟨#[]⟩, .int .i64 0, .int .i64 0, .int .i64 0, .int .i64 0, .int .u8 0] 52) = V1 at *
  have HQW : Hid (w.heap.size ≤ q) := Lib.hid (by have := HP.out; omega)
  clear hq HRR1 HAL1 HPB1
  refine (by have C := rrowA W0 g V1 x1 f1 HS.out.rf; rw [E2.out] at C; exact C : Calls Tryz.prog 93 _ V1 (RowF W0 g V1 z2 x2 f2)).mono ?_
  rintro _ w2 ⟨v, rfl, hz, hr, ho⟩
  have hcv := conv_str hz
  replace HS := Lib.hid (HS.out.call (by omega) (by omega) hr ho)
  clear hz hr ho E2
  obtain ⟨⟨B0, B1, B2, B3, B4, B5, B6, B7⟩, FF⟩ := HS.out.hx.raw
  have F0 := FF 1
  clear FF
  go_wp2_with fail
  clear hcv
  have HS2 : Hid (Rs W0 g w p q (w2.setCell ⟨q, 1, none⟩ (.string (toStr z2))) x2 f2 n1 (toStr z2) ⟨#[]⟩ 0 0 0 0 0) := Lib.hid (HS.out.set (by omega) HQW.out (by omega) 1 (.string (toStr z2)) rfl)
  clear B0 B1 B2 B3 B4 B5 B6 B7 F0
  generalize w2.setCell ⟨q, 1, none⟩ (.string (toStr z2)) = V2 at *
  have HS := HS2
  clear HS2
  refine (by have C := rrowA W0 g V2 x2 f2 HS.out.rf; rw [E3.out] at C; exact C : Calls Tryz.prog 93 _ V2 (RowF W0 g V2 z3 x3 f3)).mono ?_
  rintro _ w3 ⟨v, rfl, hz, hr, ho⟩
  have hcv := conv_str hz
  replace HS := Lib.hid (HS.out.call (by omega) (by omega) hr ho)
  clear hz hr ho E3
  obtain ⟨⟨B0, B1, B2, B3, B4, B5, B6, B7⟩, FF⟩ := HS.out.hx.raw
  have F0 := FF 2
  clear FF
  go_wp2_with fail
  clear hcv
  have HS2 : Hid (Rs W0 g w p q (w3.setCell ⟨q, 2, none⟩ (.string (toStr z3))) x3 f3 n1 (toStr z2) (toStr z3) 0 0 0 0 0) := Lib.hid (HS.out.set (by omega) HQW.out (by omega) 2 (.string (toStr z3)) rfl)
  clear B0 B1 B2 B3 B4 B5 B6 B7 F0
  generalize w3.setCell ⟨q, 2, none⟩ (.string (toStr z3)) = V3 at *
  have HS := HS2
  clear HS2
  refine (by have C := rnumB W0 g V3 x3 f3 HS.out.rf; rw [E4.out] at C; exact C : Calls Tryz.prog 92 _ V3 (RfPost W0 g V3 (.int .i64 (n4 : Int)) x4 f4)).mono ?_
  rintro _ w4 ⟨rfl, hr, ho⟩
  replace HS := Lib.hid (HS.out.call (by omega) (by omega) hr (Alo.only ho))
  clear hr ho E4
  obtain ⟨⟨B0, B1, B2, B3, B4, B5, B6, B7⟩, FF⟩ := HS.out.hx.raw
  have F0 := FF 3
  clear FF
  go_wp2_with fail
  have HS2 : Hid (Rs W0 g w p q (w4.setCell ⟨q, 3, none⟩ (.int .i64 n4)) x4 f4 n1 (toStr z2) (toStr z3) n4 0 0 0 0) := Lib.hid (HS.out.set (by omega) HQW.out (by omega) 3 (.int .i64 n4) rfl)
  clear B0 B1 B2 B3 B4 B5 B6 B7 F0
  generalize w4.setCell ⟨q, 3, none⟩ (.int .i64 n4) = V4 at *
  have HS := HS2
  clear HS2
  refine (by have C := rnumB W0 g V4 x4 f4 HS.out.rf; rw [E5.out] at C; exact C : Calls Tryz.prog 92 _ V4 (RfPost W0 g V4 (.int .i64 (n5 : Int)) x5 f5)).mono ?_
  rintro _ w5 ⟨rfl, hr, ho⟩
  replace HS := Lib.hid (HS.out.call (by omega) (by omega) hr (Alo.only ho))
  clear hr ho E5
  obtain ⟨⟨B0, B1, B2, B3, B4, B5, B6, B7⟩, FF⟩ := HS.out.hx.raw
  have F0 := FF 4
  clear FF
  go_wp2_with fail
  have HS2 : Hid (Rs W0 g w p q (w5.setCell ⟨q, 4, none⟩ (.int .i64 n5)) x5 f5 n1 (toStr z2) (toStr z3) n4 n5 0 0 0) := Lib.hid (HS.out.set (by omega) HQW.out (by omega) 4 (.int .i64 n5) rfl)
  clear B0 B1 B2 B3 B4 B5 B6 B7 F0
  generalize w5.setCell ⟨q, 4, none⟩ (.int .i64 n5) = V5 at *
  have HS := HS2
  clear HS2
  refine (by have C := rnumA W0 g V5 x5 f5 HS.out.rf; rw [E6.out] at C; exact C : Calls Tryz.prog 92 _ V5 (RfPost W0 g V5 (.int .i64 (n6 : Int)) x6 f6)).mono ?_
  rintro _ w6 ⟨rfl, hr, ho⟩
  replace HS := Lib.hid (HS.out.call (by omega) (by omega) hr (Alo.only ho))
  clear hr ho E6
  obtain ⟨⟨B0, B1, B2, B3, B4, B5, B6, B7⟩, FF⟩ := HS.out.hx.raw
  have F0 := FF 5
  clear FF
  go_wp2_with fail
  have HS2 : Hid (Rs W0 g w p q (w6.setCell ⟨q, 5, none⟩ (.int .i64 n6)) x6 f6 n1 (toStr z2) (toStr z3) n4 n5 n6 0 0) := Lib.hid (HS.out.set (by omega) HQW.out (by omega) 5 (.int .i64 n6) rfl)
  clear B0 B1 B2 B3 B4 B5 B6 B7 F0
  generalize w6.setCell ⟨q, 5, none⟩ (.int .i64 n6) = V6 at *
  have HS := HS2
  clear HS2
  refine (by have C := rnumA W0 g V6 x6 f6 HS.out.rf; rw [E7.out] at C; exact C : Calls Tryz.prog 92 _ V6 (RfPost W0 g V6 (.int .i64 (n7 : Int)) x7 f7)).mono ?_
  rintro _ w7 ⟨rfl, hr, ho⟩
  replace HS := Lib.hid (HS.out.call (by omega) (by omega) hr (Alo.only ho))
  clear hr ho E7
  obtain ⟨⟨B0, B1, B2, B3, B4, B5, B6, B7⟩, FF⟩ := HS.out.hx.raw
  have F0 := FF 6
  clear FF
  go_wp2_with fail
  have HS2 : Hid (Rs W0 g w p q (w7.setCell ⟨q, 6, none⟩ (.int .i64 n7)) x7 f7 n1 (toStr z2) (toStr z3) n4 n5 n6 n7 0) := Lib.hid (HS.out.set (by omega) HQW.out (by omega) 6 (.int .i64 n7) rfl)
  clear B0 B1 B2 B3 B4 B5 B6 B7 F0
  generalize w7.setCell ⟨q, 6, none⟩ (.int .i64 n7) = V7 at *
  have HS := HS2
  clear HS2
  refine (by have C := rnumC W0 g V7 x7 f7 HS.out.rf; rw [E8.out] at C; exact C : Calls Tryz.prog 92 _ V7 (RfPost W0 g V7 (.int .i64 (n8 : Int)) x8 f8)).mono ?_
  rintro _ w8 ⟨rfl, hr, ho⟩
  replace HS := Lib.hid (HS.out.call (by omega) (by omega) hr (Alo.only ho))
  clear hr ho E8
  obtain ⟨⟨B0, B1, B2, B3, B4, B5, B6, B7⟩, FF⟩ := HS.out.hx.raw
  have F0 := FF 7
  clear FF
  have hm8 : (n8 : Int) % 256 = n8 := by have := HLE.out; omega
  obtain ⟨v1, hv1, g0⟩ := HS.out.rf.2.2.1
  have g1 := HS.out.rf.2.2.2.1
  clear hv1
  go_upto_region 9 with fail
  have HS2 : Hid (Rs W0 g w p q (w8.setCell ⟨q, 7, none⟩ (.int .u8 n8)) x8 f8 n1 (toStr z2) (toStr z3) n4 n5 n6 n7 n8) := Lib.hid (HS.out.set (by omega) HQW.out (by omega) 7 (.int .u8 n8) rfl)
  clear B0 B1 B2 B3 B4 B5 B6 B7 F0 hm8 g0 g1
  generalize w8.setCell ⟨q, 7, none⟩ (.int .u8 n8) = V8 at *
  have HS := HS2
  clear HS2 HLE
  have g1 := HS.out.rf.2.2.2.1
  obtain ⟨⟨B0, B1, B2, B3, B4, B5, B6, B7⟩, -⟩ := HS.out.hx.raw
  obtain ⟨⟨C0, C1, C2, C3, C4, C5, C6, C7⟩, FF⟩ := HS.out.hp.raw
  have HBP := Lib.hid HS.out.hp
  have HBX := Lib.hid HS.out.hx
  have F0 := FF 0; have F1 := FF 1; have F2 := FF 2; have F3 := FF 3; have F4 := FF 4; have F5 := FF 5; have F6 := FF 6; have F7 := FF 7
  clear FF
  have HEND : Hid (∀ y b (w' : World), Below p V8 w' → ReadF W0 g w y b x8 f8 (.returned (.tuple #[scV y, .bool b])) w') := Lib.hid fun y b w' k => ⟨rfl, HS.out.rf.below k hgp, HS.out.alo.tail (by rw [HP.out]; exact k)⟩
  have HVS : Hid (p ≤ V8.heap.size) := Lib.hid (Nat.le_of_lt (Array.getElem?_eq_some_iff.1 HS.out.hp).1)
  clear HS
  cases f8 with
  | true =>
    obtain rfl : R = false := HBAD.out rfl
    have HYY : Hid (Y = sc0) := Lib.hid (HY.out.trans (if_neg (by decide)))
    clear HY HRR HBAD
    have S8 : Sc8 V8 p sc0 := ⟨C0, C1, C2, C3, C4, C5, C6, C7⟩
    have HS8 := Lib.hid (S8.put8 sc0)
    clear S8
    go_wp2_with fail
    (try simp only [Exit.inBlock, Exit.then])
    change bodyPost Tryz.prog _ _ Exit.ret _ (put8 V8 p sc0)
    have k8 : Below p V8 (put8 V8 p sc0) := by unfold put8; exact (((((((((Below.refl p V8).setCell (Nat.le_refl _) _).setCell (Nat.le_refl _) _).setCell (Nat.le_refl _) _).setCell (Nat.le_refl _) _).setCell (Nat.le_refl _) _).setCell (Nat.le_refl _) _).setCell (Nat.le_refl _) _).setCell (Nat.le_refl _) _)
    obtain ⟨b0, b1, b2, b3, b4, b5, b6, b7⟩ := HS8.out
    generalize put8 V8 p sc0 = Z at *
    refine bodyPost_ret (by simp [results, Tryz.results46, go_sem, b0, b1, b2, b3, b4, b5, b6, b7]; try rfl) rfl ?_
    rw [HYY.out]
    exact HEND.out _ _ _ k8
  | false =>
    have HON := Lib.hid (ronb_w ⟨n1, ⟨toStr z2, toStr z3⟩, n4, n5, n6, n7, n8⟩ V8)
    rw [HRR.out] at HON
    unfold scV at HON
    simp only at HON
    go_wp2_with fail
    (with_reducible refine HON.out.mono ?_)
    rintro _ w9 ⟨rfl, o9⟩
    have HO9 := Lib.hid (Below.mono o9 HVS.out)
    obtain ⟨B0, B1, B2, B3, B4, B5, B6, B7⟩ := sc_raw (blk_ok o9 HBX.out)
    obtain ⟨⟨C0, C1, C2, C3, C4, C5, C6, C7⟩, FF⟩ := HasSc.raw (blk_ok o9 HBP.out)
    have F0 := FF 0; have F1 := FF 1; have F2 := FF 2; have F3 := FF 3; have F4 := FF 4; have F5 := FF 5; have F6 := FF 6; have F7 := FF 7
    clear FF o9 HON HBP HBX HBAD
    cases R with
    | true =>
      have HYY : Hid (Y = ⟨n1, ⟨toStr z2, toStr z3⟩, n4, n5, n6, n7, n8⟩) := Lib.hid (HY.out.trans (if_pos rfl))
      clear HY HRR
      have S8 : Sc8 w9 p sc0 := ⟨C0, C1, C2, C3, C4, C5, C6, C7⟩
      have HS8 := Lib.hid (S8.put8 ⟨n1, ⟨toStr z2, toStr z3⟩, n4, n5, n6, n7, n8⟩)
      clear S8
      go_wp2_with fail
      (try simp only [Exit.inBlock, Exit.then])
      change bodyPost Tryz.prog _ _ Exit.ret _ (put8 w9 p ⟨n1, ⟨toStr z2, toStr z3⟩, n4, n5, n6, n7, n8⟩)
      have k8 : Below p w9 (put8 w9 p ⟨n1, ⟨toStr z2, toStr z3⟩, n4, n5, n6, n7, n8⟩) := by unfold put8; exact (((((((((Below.refl p w9).setCell (Nat.le_refl _) _).setCell (Nat.le_refl _) _).setCell (Nat.le_refl _) _).setCell (Nat.le_refl _) _).setCell (Nat.le_refl _) _).setCell (Nat.le_refl _) _).setCell (Nat.le_refl _) _).setCell (Nat.le_refl _) _)
      obtain ⟨b0, b1, b2, b3, b4, b5, b6, b7⟩ := HS8.out
      generalize put8 w9 p ⟨n1, ⟨toStr z2, toStr z3⟩, n4, n5, n6, n7, n8⟩ = Z at *
      refine bodyPost_ret (by simp [results, Tryz.results46, go_sem, b0, b1, b2, b3, b4, b5, b6, b7]; try rfl) rfl ?_
      rw [HYY.out]
      exact HEND.out _ _ _ (HO9.out.trans k8)
    | false =>
      have HYY : Hid (Y = sc0) := Lib.hid (HY.out.trans (if_neg (by decide)))
      clear HY HRR
      have S8 : Sc8 w9 p sc0 := ⟨C0, C1, C2, C3, C4, C5, C6, C7⟩
      have HS8 := Lib.hid (S8.put8 sc0)
      clear S8
      go_wp2_with fail
      (try simp only [Exit.inBlock, Exit.then])
      change bodyPost Tryz.prog _ _ Exit.ret _ (put8 w9 p sc0)
      have k8 : Below p w9 (put8 w9 p sc0) := by unfold put8; exact (((((((((Below.refl p w9).setCell (Nat.le_refl _) _).setCell (Nat.le_refl _) _).setCell (Nat.le_refl _) _).setCell (Nat.le_refl _) _).setCell (Nat.le_refl _) _).setCell (Nat.le_refl _) _).setCell (Nat.le_refl _) _).setCell (Nat.le_refl _) _)
      obtain ⟨b0, b1, b2, b3, b4, b5, b6, b7⟩ := HS8.out
      generalize put8 w9 p sc0 = Z at *
      refine bodyPost_ret (by simp [results, Tryz.results46, go_sem, b0, b1, b2, b3, b4, b5, b6, b7]; try rfl) rfl ?_
      rw [HYY.out]
      exact HEND.out _ _ _ (HO9.out.trans k8)
end Go.Proofs.YtdabdkedgigjdaaGreat
