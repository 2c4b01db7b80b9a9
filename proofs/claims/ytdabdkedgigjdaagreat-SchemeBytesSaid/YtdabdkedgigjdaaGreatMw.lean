/- What the document tells of a handoff alone. -/
import Derived.Test.YtdabdkedgigjdaaGreatYk
import Derived.Test.YtdabdkedgigjdaaGreatR
import Derived.Outline
namespace Go.Proofs.YtdabdkedgigjdaaGreat
open Go.RowKit

theorem sc_iffb (num : Int) (lo hi : Str) (fr tt xe un st : Int) : scB ⟨num, ⟨lo, hi⟩, fr, tt, xe, un, st⟩ = true ↔ (1 ≤ num ∧ num ≤ 1073741824) ∧ rightB ⟨lo, hi⟩ = true ∧ (1 ≤ fr ∧ fr ≤ 4) ∧ (1 ≤ tt ∧ tt ≤ 4) ∧ fr ≠ tt ∧ (1 ≤ xe ∧ xe ≤ 1073741824) ∧ (1 ≤ st ∧ st ≤ 9) ∧ (if 4 ≤ st ∧ st ≤ 6 then xe < un ∧ un ≤ 1073741824 else un = 0) := by
  unfold scB sc1 sc2 unB tuB upM stB
  simp only [Bool.and_eq_true, decide_eq_true_eq, Bool.not_eq_true', beq_eq_false_iff_ne, ne_eq]
  by_cases h : 4 ≤ st ∧ st ≤ 6
  · rw [if_pos h, if_pos h]
    simp only [Bool.and_eq_true, decide_eq_true_eq]
    constructor
    · rintro ⟨⟨⟨⟨⟨⟨a, b⟩, c⟩, d⟩, e⟩, f, g⟩, i⟩; exact ⟨a, b, c, d, e, f, g, i⟩
    · rintro ⟨a, b, c, d, e, f, g, i⟩; exact ⟨⟨⟨⟨⟨⟨a, b⟩, c⟩, d⟩, e⟩, f, g⟩, i⟩
  · rw [if_neg h, if_neg h]
    simp only [beq_iff_eq]
    constructor
    · rintro ⟨⟨⟨⟨⟨⟨a, b⟩, c⟩, d⟩, e⟩, f, g⟩, i⟩; exact ⟨a, b, c, d, e, f, g, i⟩
    · rintro ⟨a, b, c, d, e, f, g, i⟩; exact ⟨⟨⟨⟨⟨⟨a, b⟩, c⟩, d⟩, e⟩, f, g⟩, i⟩

set_option maxRecDepth 100000 in
set_option maxHeartbeats 4000000 in
theorem ronb_w (x : Sc) (w : World) : Calls Tryz.prog 79 #[scV x] w (Ret w (.bool (scB x))) := by
  obtain ⟨num, ⟨lo, hi⟩, fr, tt, xe, un, st⟩ := x
  have hiff := sc_iffb num lo hi fr tt xe un st
  obtain ⟨R, hR⟩ : ∃ R, scB ⟨num, ⟨lo, hi⟩, fr, tt, xe, un, st⟩ = R := ⟨_, rfl⟩
  rw [hR] at hiff ⊢
  clear hR
  have hrr := rright_w ⟨lo, hi⟩
  obtain ⟨rb, hrb⟩ : ∃ b, rightB ⟨lo, hi⟩ = b := ⟨_, rfl⟩
  rw [hrb] at hrr hiff
  clear hrb
  unfold spV at hrr
  simp only at hrr
  have HRR := Lib.hid hrr
  clear hrr
  unfold scV
  simp only
  obtain ⟨p, hp⟩ : ∃ p, w.heap.size = p := ⟨_, rfl⟩
  by_cases c0 : num < 1
  · have d0 : decide (num < 1) = true := decide_eq_true c0
    obtain rfl : R = false := Bool.eq_false_iff.2 (fun h => by have := hiff.1 h; omega)
    clear hiff c0
    go_enter Tryz.func79, Tryz.ntmps79
    go_wp2
    go_ret
    exact ⟨by first | rfl | simp, Ok.alloc (Ok.refl _) _⟩
  have d0 : decide (num < 1) = false := decide_eq_false c0
  have C0 := Lib.hid c0
  clear c0
  by_cases c1 : 1073741824 < num
  · have d1 : decide (1073741824 < num) = true := decide_eq_true c1
    obtain rfl : R = false := Bool.eq_false_iff.2 (fun h => by have := hiff.1 h; omega)
    clear hiff c1
    go_enter Tryz.func79, Tryz.ntmps79
    go_wp2
    go_ret
    exact ⟨by first | rfl | simp, Ok.alloc (Ok.refl _) _⟩
  have d1 : decide (1073741824 < num) = false := decide_eq_false c1
  have C1 := Lib.hid c1
  clear c1
  cases rb with
  | false =>
    obtain rfl : R = false := Bool.eq_false_iff.2 (fun h => absurd (hiff.1 h).2.1 (by decide))
    clear hiff
    go_enter Tryz.func79, Tryz.ntmps79
    go_wp2_with fail
    obtain ⟨W, hW⟩ : ∃ W, w.alloc (.cells #[.int .i64 num, .string lo, .string hi, .int .i64 fr, .int .i64 tt, .int .i64 xe, .int .i64 un, .int .u8 st] 52) = W := ⟨_, rfl⟩
    have X2 : W.cell? ⟨p, 3, none⟩ = some (.int .i64 fr) := by subst hW; subst hp; go_cell
    have X3 : W.cell? ⟨p, 4, none⟩ = some (.int .i64 tt) := by subst hW; subst hp; go_cell
    have X4 : W.cell? ⟨p, 5, none⟩ = some (.int .i64 xe) := by subst hW; subst hp; go_cell
    have X5 : W.cell? ⟨p, 6, none⟩ = some (.int .i64 un) := by subst hW; subst hp; go_cell
    have X6 : W.cell? ⟨p, 7, none⟩ = some (.int .u8 st) := by subst hW; subst hp; go_cell
    have oW : Ok w W := by rw [← hW]; exact Ok.alloc (Ok.refl _) _
    try rw [hp]
    rw [hW]
    clear hW hp
    (with_reducible refine (HRR.out W).mono ?_)
    rintro _ w1 ⟨rfl, o1⟩
    replace X2 := Ok.cell o1 X2; replace X3 := Ok.cell o1 X3; replace X4 := Ok.cell o1 X4; replace X5 := Ok.cell o1 X5; replace X6 := Ok.cell o1 X6
    have OK1 := Lib.hid (Ok.call oW o1)
    clear o1 oW
    go_wp2
    go_ret
    exact ⟨by first | rfl | simp, OK1.out⟩
  | true =>
  by_cases c3 : fr < 1
  · have d3 : decide (fr < 1) = true := decide_eq_true c3
    obtain rfl : R = false := Bool.eq_false_iff.2 (fun h => by have := hiff.1 h; omega)
    clear hiff c3
    go_enter Tryz.func79, Tryz.ntmps79
    go_wp2_with fail
    obtain ⟨W, hW⟩ : ∃ W, w.alloc (.cells #[.int .i64 num, .string lo, .string hi, .int .i64 fr, .int .i64 tt, .int .i64 xe, .int .i64 un, .int .u8 st] 52) = W := ⟨_, rfl⟩
    have X2 : W.cell? ⟨p, 3, none⟩ = some (.int .i64 fr) := by subst hW; subst hp; go_cell
    have X3 : W.cell? ⟨p, 4, none⟩ = some (.int .i64 tt) := by subst hW; subst hp; go_cell
    have X4 : W.cell? ⟨p, 5, none⟩ = some (.int .i64 xe) := by subst hW; subst hp; go_cell
    have X5 : W.cell? ⟨p, 6, none⟩ = some (.int .i64 un) := by subst hW; subst hp; go_cell
    have X6 : W.cell? ⟨p, 7, none⟩ = some (.int .u8 st) := by subst hW; subst hp; go_cell
    have oW : Ok w W := by rw [← hW]; exact Ok.alloc (Ok.refl _) _
    try rw [hp]
    rw [hW]
    clear hW hp
    (with_reducible refine (HRR.out W).mono ?_)
    rintro _ w1 ⟨rfl, o1⟩
    replace X2 := Ok.cell o1 X2; replace X3 := Ok.cell o1 X3; replace X4 := Ok.cell o1 X4; replace X5 := Ok.cell o1 X5; replace X6 := Ok.cell o1 X6
    have OK1 := Lib.hid (Ok.call oW o1)
    clear o1 oW
    go_wp2
    go_ret
    exact ⟨by first | rfl | simp, OK1.out⟩
  have d3 : decide (fr < 1) = false := decide_eq_false c3
  have C3 := Lib.hid c3
  clear c3
  by_cases c4 : 4 < fr
  · have d4 : decide (4 < fr) = true := decide_eq_true c4
    obtain rfl : R = false := Bool.eq_false_iff.2 (fun h => by have := hiff.1 h; omega)
    clear hiff c4
    go_enter Tryz.func79, Tryz.ntmps79
    go_wp2_with fail
    obtain ⟨W, hW⟩ : ∃ W, w.alloc (.cells #[.int .i64 num, .string lo, .string hi, .int .i64 fr, .int .i64 tt, .int .i64 xe, .int .i64 un, .int .u8 st] 52) = W := ⟨_, rfl⟩
    have X2 : W.cell? ⟨p, 3, none⟩ = some (.int .i64 fr) := by subst hW; subst hp; go_cell
    have X3 : W.cell? ⟨p, 4, none⟩ = some (.int .i64 tt) := by subst hW; subst hp; go_cell
    have X4 : W.cell? ⟨p, 5, none⟩ = some (.int .i64 xe) := by subst hW; subst hp; go_cell
    have X5 : W.cell? ⟨p, 6, none⟩ = some (.int .i64 un) := by subst hW; subst hp; go_cell
    have X6 : W.cell? ⟨p, 7, none⟩ = some (.int .u8 st) := by subst hW; subst hp; go_cell
    have oW : Ok w W := by rw [← hW]; exact Ok.alloc (Ok.refl _) _
    try rw [hp]
    rw [hW]
    clear hW hp
    (with_reducible refine (HRR.out W).mono ?_)
    rintro _ w1 ⟨rfl, o1⟩
    replace X2 := Ok.cell o1 X2; replace X3 := Ok.cell o1 X3; replace X4 := Ok.cell o1 X4; replace X5 := Ok.cell o1 X5; replace X6 := Ok.cell o1 X6
    have OK1 := Lib.hid (Ok.call oW o1)
    clear o1 oW
    go_wp2
    go_ret
    exact ⟨by first | rfl | simp, OK1.out⟩
  have d4 : decide (4 < fr) = false := decide_eq_false c4
  have C4 := Lib.hid c4
  clear c4
  by_cases c5 : tt < 1
  · have d5 : decide (tt < 1) = true := decide_eq_true c5
    obtain rfl : R = false := Bool.eq_false_iff.2 (fun h => by have := hiff.1 h; omega)
    clear hiff c5
    go_enter Tryz.func79, Tryz.ntmps79
    go_wp2_with fail
    obtain ⟨W, hW⟩ : ∃ W, w.alloc (.cells #[.int .i64 num, .string lo, .string hi, .int .i64 fr, .int .i64 tt, .int .i64 xe, .int .i64 un, .int .u8 st] 52) = W := ⟨_, rfl⟩
    have X2 : W.cell? ⟨p, 3, none⟩ = some (.int .i64 fr) := by subst hW; subst hp; go_cell
    have X3 : W.cell? ⟨p, 4, none⟩ = some (.int .i64 tt) := by subst hW; subst hp; go_cell
    have X4 : W.cell? ⟨p, 5, none⟩ = some (.int .i64 xe) := by subst hW; subst hp; go_cell
    have X5 : W.cell? ⟨p, 6, none⟩ = some (.int .i64 un) := by subst hW; subst hp; go_cell
    have X6 : W.cell? ⟨p, 7, none⟩ = some (.int .u8 st) := by subst hW; subst hp; go_cell
    have oW : Ok w W := by rw [← hW]; exact Ok.alloc (Ok.refl _) _
    try rw [hp]
    rw [hW]
    clear hW hp
    (with_reducible refine (HRR.out W).mono ?_)
    rintro _ w1 ⟨rfl, o1⟩
    replace X2 := Ok.cell o1 X2; replace X3 := Ok.cell o1 X3; replace X4 := Ok.cell o1 X4; replace X5 := Ok.cell o1 X5; replace X6 := Ok.cell o1 X6
    have OK1 := Lib.hid (Ok.call oW o1)
    clear o1 oW
    go_wp2
    go_ret
    exact ⟨by first | rfl | simp, OK1.out⟩
  have d5 : decide (tt < 1) = false := decide_eq_false c5
  have C5 := Lib.hid c5
  clear c5
  by_cases c6 : 4 < tt
  · have d6 : decide (4 < tt) = true := decide_eq_true c6
    obtain rfl : R = false := Bool.eq_false_iff.2 (fun h => by have := hiff.1 h; omega)
    clear hiff c6
    go_enter Tryz.func79, Tryz.ntmps79
    go_wp2_with fail
    obtain ⟨W, hW⟩ : ∃ W, w.alloc (.cells #[.int .i64 num, .string lo, .string hi, .int .i64 fr, .int .i64 tt, .int .i64 xe, .int .i64 un, .int .u8 st] 52) = W := ⟨_, rfl⟩
    have X2 : W.cell? ⟨p, 3, none⟩ = some (.int .i64 fr) := by subst hW; subst hp; go_cell
    have X3 : W.cell? ⟨p, 4, none⟩ = some (.int .i64 tt) := by subst hW; subst hp; go_cell
    have X4 : W.cell? ⟨p, 5, none⟩ = some (.int .i64 xe) := by subst hW; subst hp; go_cell
    have X5 : W.cell? ⟨p, 6, none⟩ = some (.int .i64 un) := by subst hW; subst hp; go_cell
    have X6 : W.cell? ⟨p, 7, none⟩ = some (.int .u8 st) := by subst hW; subst hp; go_cell
    have oW : Ok w W := by rw [← hW]; exact Ok.alloc (Ok.refl _) _
    try rw [hp]
    rw [hW]
    clear hW hp
    (with_reducible refine (HRR.out W).mono ?_)
    rintro _ w1 ⟨rfl, o1⟩
    replace X2 := Ok.cell o1 X2; replace X3 := Ok.cell o1 X3; replace X4 := Ok.cell o1 X4; replace X5 := Ok.cell o1 X5; replace X6 := Ok.cell o1 X6
    have OK1 := Lib.hid (Ok.call oW o1)
    clear o1 oW
    go_wp2
    go_ret
    exact ⟨by first | rfl | simp, OK1.out⟩
  have d6 : decide (4 < tt) = false := decide_eq_false c6
  have C6 := Lib.hid c6
  clear c6
  by_cases c7 : fr = tt
  · have d7 : (fr == tt) = true := beq_iff_eq.2 c7
    obtain rfl : R = false := Bool.eq_false_iff.2 (fun h => (hiff.1 h).2.2.2.2.1 c7)
    clear hiff c7
    go_enter Tryz.func79, Tryz.ntmps79
    go_wp2_with fail
    obtain ⟨W, hW⟩ : ∃ W, w.alloc (.cells #[.int .i64 num, .string lo, .string hi, .int .i64 fr, .int .i64 tt, .int .i64 xe, .int .i64 un, .int .u8 st] 52) = W := ⟨_, rfl⟩
    have X2 : W.cell? ⟨p, 3, none⟩ = some (.int .i64 fr) := by subst hW; subst hp; go_cell
    have X3 : W.cell? ⟨p, 4, none⟩ = some (.int .i64 tt) := by subst hW; subst hp; go_cell
    have X4 : W.cell? ⟨p, 5, none⟩ = some (.int .i64 xe) := by subst hW; subst hp; go_cell
    have X5 : W.cell? ⟨p, 6, none⟩ = some (.int .i64 un) := by subst hW; subst hp; go_cell
    have X6 : W.cell? ⟨p, 7, none⟩ = some (.int .u8 st) := by subst hW; subst hp; go_cell
    have oW : Ok w W := by rw [← hW]; exact Ok.alloc (Ok.refl _) _
    try rw [hp]
    rw [hW]
    clear hW hp
    (with_reducible refine (HRR.out W).mono ?_)
    rintro _ w1 ⟨rfl, o1⟩
    replace X2 := Ok.cell o1 X2; replace X3 := Ok.cell o1 X3; replace X4 := Ok.cell o1 X4; replace X5 := Ok.cell o1 X5; replace X6 := Ok.cell o1 X6
    have OK1 := Lib.hid (Ok.call oW o1)
    clear o1 oW
    go_wp2
    go_ret
    exact ⟨by first | rfl | simp, OK1.out⟩
  have d7 : (fr == tt) = false := beq_eq_false_iff_ne.2 c7
  have C7 := Lib.hid c7
  clear c7
  by_cases c8 : xe < 1
  · have d8 : decide (xe < 1) = true := decide_eq_true c8
    obtain rfl : R = false := Bool.eq_false_iff.2 (fun h => by have := hiff.1 h; omega)
    clear hiff c8
    go_enter Tryz.func79, Tryz.ntmps79
    go_wp2_with fail
    obtain ⟨W, hW⟩ : ∃ W, w.alloc (.cells #[.int .i64 num, .string lo, .string hi, .int .i64 fr, .int .i64 tt, .int .i64 xe, .int .i64 un, .int .u8 st] 52) = W := ⟨_, rfl⟩
    have X2 : W.cell? ⟨p, 3, none⟩ = some (.int .i64 fr) := by subst hW; subst hp; go_cell
    have X3 : W.cell? ⟨p, 4, none⟩ = some (.int .i64 tt) := by subst hW; subst hp; go_cell
    have X4 : W.cell? ⟨p, 5, none⟩ = some (.int .i64 xe) := by subst hW; subst hp; go_cell
    have X5 : W.cell? ⟨p, 6, none⟩ = some (.int .i64 un) := by subst hW; subst hp; go_cell
    have X6 : W.cell? ⟨p, 7, none⟩ = some (.int .u8 st) := by subst hW; subst hp; go_cell
    have oW : Ok w W := by rw [← hW]; exact Ok.alloc (Ok.refl _) _
    try rw [hp]
    rw [hW]
    clear hW hp
    (with_reducible refine (HRR.out W).mono ?_)
    rintro _ w1 ⟨rfl, o1⟩
    replace X2 := Ok.cell o1 X2; replace X3 := Ok.cell o1 X3; replace X4 := Ok.cell o1 X4; replace X5 := Ok.cell o1 X5; replace X6 := Ok.cell o1 X6
    have OK1 := Lib.hid (Ok.call oW o1)
    clear o1 oW
    go_wp2
    go_ret
    exact ⟨by first | rfl | simp, OK1.out⟩
  have d8 : decide (xe < 1) = false := decide_eq_false c8
  have C8 := Lib.hid c8
  clear c8
  by_cases c9 : 1073741824 < xe
  · have d9 : decide (1073741824 < xe) = true := decide_eq_true c9
    obtain rfl : R = false := Bool.eq_false_iff.2 (fun h => by have := hiff.1 h; omega)
    clear hiff c9
    go_enter Tryz.func79, Tryz.ntmps79
    go_wp2_with fail
    obtain ⟨W, hW⟩ : ∃ W, w.alloc (.cells #[.int .i64 num, .string lo, .string hi, .int .i64 fr, .int .i64 tt, .int .i64 xe, .int .i64 un, .int .u8 st] 52) = W := ⟨_, rfl⟩
    have X2 : W.cell? ⟨p, 3, none⟩ = some (.int .i64 fr) := by subst hW; subst hp; go_cell
    have X3 : W.cell? ⟨p, 4, none⟩ = some (.int .i64 tt) := by subst hW; subst hp; go_cell
    have X4 : W.cell? ⟨p, 5, none⟩ = some (.int .i64 xe) := by subst hW; subst hp; go_cell
    have X5 : W.cell? ⟨p, 6, none⟩ = some (.int .i64 un) := by subst hW; subst hp; go_cell
    have X6 : W.cell? ⟨p, 7, none⟩ = some (.int .u8 st) := by subst hW; subst hp; go_cell
    have oW : Ok w W := by rw [← hW]; exact Ok.alloc (Ok.refl _) _
    try rw [hp]
    rw [hW]
    clear hW hp
    (with_reducible refine (HRR.out W).mono ?_)
    rintro _ w1 ⟨rfl, o1⟩
    replace X2 := Ok.cell o1 X2; replace X3 := Ok.cell o1 X3; replace X4 := Ok.cell o1 X4; replace X5 := Ok.cell o1 X5; replace X6 := Ok.cell o1 X6
    have OK1 := Lib.hid (Ok.call oW o1)
    clear o1 oW
    go_wp2
    go_ret
    exact ⟨by first | rfl | simp, OK1.out⟩
  have d9 : decide (1073741824 < xe) = false := decide_eq_false c9
  have C9 := Lib.hid c9
  clear c9
  by_cases c10 : st < 1
  · have d10 : decide (st < 1) = true := decide_eq_true c10
    obtain rfl : R = false := Bool.eq_false_iff.2 (fun h => by have := hiff.1 h; omega)
    clear hiff c10
    go_enter Tryz.func79, Tryz.ntmps79
    go_wp2_with fail
    obtain ⟨W, hW⟩ : ∃ W, w.alloc (.cells #[.int .i64 num, .string lo, .string hi, .int .i64 fr, .int .i64 tt, .int .i64 xe, .int .i64 un, .int .u8 st] 52) = W := ⟨_, rfl⟩
    have X2 : W.cell? ⟨p, 3, none⟩ = some (.int .i64 fr) := by subst hW; subst hp; go_cell
    have X3 : W.cell? ⟨p, 4, none⟩ = some (.int .i64 tt) := by subst hW; subst hp; go_cell
    have X4 : W.cell? ⟨p, 5, none⟩ = some (.int .i64 xe) := by subst hW; subst hp; go_cell
    have X5 : W.cell? ⟨p, 6, none⟩ = some (.int .i64 un) := by subst hW; subst hp; go_cell
    have X6 : W.cell? ⟨p, 7, none⟩ = some (.int .u8 st) := by subst hW; subst hp; go_cell
    have oW : Ok w W := by rw [← hW]; exact Ok.alloc (Ok.refl _) _
    try rw [hp]
    rw [hW]
    clear hW hp
    (with_reducible refine (HRR.out W).mono ?_)
    rintro _ w1 ⟨rfl, o1⟩
    replace X2 := Ok.cell o1 X2; replace X3 := Ok.cell o1 X3; replace X4 := Ok.cell o1 X4; replace X5 := Ok.cell o1 X5; replace X6 := Ok.cell o1 X6
    have OK1 := Lib.hid (Ok.call oW o1)
    clear o1 oW
    go_wp2
    go_ret
    exact ⟨by first | rfl | simp, OK1.out⟩
  have d10 : decide (st < 1) = false := decide_eq_false c10
  have C10 := Lib.hid c10
  clear c10
  by_cases c11 : 9 < st
  · have d11 : decide (9 < st) = true := decide_eq_true c11
    obtain rfl : R = false := Bool.eq_false_iff.2 (fun h => by have := hiff.1 h; omega)
    clear hiff c11
    go_enter Tryz.func79, Tryz.ntmps79
    go_wp2_with fail
    obtain ⟨W, hW⟩ : ∃ W, w.alloc (.cells #[.int .i64 num, .string lo, .string hi, .int .i64 fr, .int .i64 tt, .int .i64 xe, .int .i64 un, .int .u8 st] 52) = W := ⟨_, rfl⟩
    have X2 : W.cell? ⟨p, 3, none⟩ = some (.int .i64 fr) := by subst hW; subst hp; go_cell
    have X3 : W.cell? ⟨p, 4, none⟩ = some (.int .i64 tt) := by subst hW; subst hp; go_cell
    have X4 : W.cell? ⟨p, 5, none⟩ = some (.int .i64 xe) := by subst hW; subst hp; go_cell
    have X5 : W.cell? ⟨p, 6, none⟩ = some (.int .i64 un) := by subst hW; subst hp; go_cell
    have X6 : W.cell? ⟨p, 7, none⟩ = some (.int .u8 st) := by subst hW; subst hp; go_cell
    have oW : Ok w W := by rw [← hW]; exact Ok.alloc (Ok.refl _) _
    try rw [hp]
    rw [hW]
    clear hW hp
    (with_reducible refine (HRR.out W).mono ?_)
    rintro _ w1 ⟨rfl, o1⟩
    replace X2 := Ok.cell o1 X2; replace X3 := Ok.cell o1 X3; replace X4 := Ok.cell o1 X4; replace X5 := Ok.cell o1 X5; replace X6 := Ok.cell o1 X6
    have OK1 := Lib.hid (Ok.call oW o1)
    clear o1 oW
    go_wp2
    go_ret
    exact ⟨by first | rfl | simp, OK1.out⟩
  have d11 : decide (9 < st) = false := decide_eq_false c11
  have C11 := Lib.hid c11
  clear c11
  have HB : Hid (R = true ↔ (if 4 ≤ st ∧ st ≤ 6 then xe < un ∧ un ≤ 1073741824 else un = 0)) := Lib.hid (hiff.trans ⟨fun h => h.2.2.2.2.2.2.2, fun h => ⟨by have := C0.out; have := C1.out; omega, rfl, by have := C3.out; have := C4.out; omega, by have := C5.out; have := C6.out; omega, C7.out, by have := C8.out; have := C9.out; omega, by have := C10.out; have := C11.out; omega, h⟩⟩)
  clear hiff
  by_cases e1 : 4 ≤ st
  · have f1 : decide (4 ≤ st) = true := decide_eq_true e1
    by_cases e2 : st ≤ 6
    · have f2 : decide (st ≤ 6) = true := decide_eq_true e2
      by_cases e3 : xe < un
      · have f3 : decide (xe < un) = true := decide_eq_true e3
        obtain rfl : R = decide (un ≤ 1073741824) := by
          have := HB.out
          rw [if_pos ⟨e1, e2⟩] at this
          rw [Bool.eq_iff_iff, this, decide_eq_true_eq]
          exact ⟨fun h => h.2, fun h => ⟨e3, h⟩⟩
        clear e1 e2 e3 HB
        go_enter Tryz.func79, Tryz.ntmps79
        go_wp2_with fail
        obtain ⟨W, hW⟩ : ∃ W, w.alloc (.cells #[.int .i64 num, .string lo, .string hi, .int .i64 fr, .int .i64 tt, .int .i64 xe, .int .i64 un, .int .u8 st] 52) = W := ⟨_, rfl⟩
        have X2 : W.cell? ⟨p, 3, none⟩ = some (.int .i64 fr) := by subst hW; subst hp; go_cell
        have X3 : W.cell? ⟨p, 4, none⟩ = some (.int .i64 tt) := by subst hW; subst hp; go_cell
        have X4 : W.cell? ⟨p, 5, none⟩ = some (.int .i64 xe) := by subst hW; subst hp; go_cell
        have X5 : W.cell? ⟨p, 6, none⟩ = some (.int .i64 un) := by subst hW; subst hp; go_cell
        have X6 : W.cell? ⟨p, 7, none⟩ = some (.int .u8 st) := by subst hW; subst hp; go_cell
        have oW : Ok w W := by rw [← hW]; exact Ok.alloc (Ok.refl _) _
        try rw [hp]
        rw [hW]
        clear hW hp
        (with_reducible refine (HRR.out W).mono ?_)
        rintro _ w1 ⟨rfl, o1⟩
        replace X2 := Ok.cell o1 X2; replace X3 := Ok.cell o1 X3; replace X4 := Ok.cell o1 X4; replace X5 := Ok.cell o1 X5; replace X6 := Ok.cell o1 X6
        have OK1 := Lib.hid (Ok.call oW o1)
        clear o1 oW
        go_wp2
        go_ret
        exact ⟨by first | rfl | simp, OK1.out⟩
      · have f3 : decide (xe < un) = false := decide_eq_false e3
        obtain rfl : R = false := Bool.eq_false_iff.2 (fun h => by
          have := HB.out.1 h
          rw [if_pos ⟨e1, e2⟩] at this
          exact e3 this.1)
        clear e1 e2 e3 HB
        go_enter Tryz.func79, Tryz.ntmps79
        go_wp2_with fail
        obtain ⟨W, hW⟩ : ∃ W, w.alloc (.cells #[.int .i64 num, .string lo, .string hi, .int .i64 fr, .int .i64 tt, .int .i64 xe, .int .i64 un, .int .u8 st] 52) = W := ⟨_, rfl⟩
        have X2 : W.cell? ⟨p, 3, none⟩ = some (.int .i64 fr) := by subst hW; subst hp; go_cell
        have X3 : W.cell? ⟨p, 4, none⟩ = some (.int .i64 tt) := by subst hW; subst hp; go_cell
        have X4 : W.cell? ⟨p, 5, none⟩ = some (.int .i64 xe) := by subst hW; subst hp; go_cell
        have X5 : W.cell? ⟨p, 6, none⟩ = some (.int .i64 un) := by subst hW; subst hp; go_cell
        have X6 : W.cell? ⟨p, 7, none⟩ = some (.int .u8 st) := by subst hW; subst hp; go_cell
        have oW : Ok w W := by rw [← hW]; exact Ok.alloc (Ok.refl _) _
        try rw [hp]
        rw [hW]
        clear hW hp
        (with_reducible refine (HRR.out W).mono ?_)
        rintro _ w1 ⟨rfl, o1⟩
        replace X2 := Ok.cell o1 X2; replace X3 := Ok.cell o1 X3; replace X4 := Ok.cell o1 X4; replace X5 := Ok.cell o1 X5; replace X6 := Ok.cell o1 X6
        have OK1 := Lib.hid (Ok.call oW o1)
        clear o1 oW
        go_wp2
        go_ret
        exact ⟨by first | rfl | simp, OK1.out⟩
    · have f2 : decide (st ≤ 6) = false := decide_eq_false e2
      obtain rfl : R = (un == 0) := by
        have := HB.out
        rw [if_neg (fun h => e2 h.2)] at this
        rw [Bool.eq_iff_iff, this, beq_iff_eq]
      clear e1 e2 HB
      go_enter Tryz.func79, Tryz.ntmps79
      go_wp2_with fail
      obtain ⟨W, hW⟩ : ∃ W, w.alloc (.cells #[.int .i64 num, .string lo, .string hi, .int .i64 fr, .int .i64 tt, .int .i64 xe, .int .i64 un, .int .u8 st] 52) = W := ⟨_, rfl⟩
      have X2 : W.cell? ⟨p, 3, none⟩ = some (.int .i64 fr) := by subst hW; subst hp; go_cell
      have X3 : W.cell? ⟨p, 4, none⟩ = some (.int .i64 tt) := by subst hW; subst hp; go_cell
      have X4 : W.cell? ⟨p, 5, none⟩ = some (.int .i64 xe) := by subst hW; subst hp; go_cell
      have X5 : W.cell? ⟨p, 6, none⟩ = some (.int .i64 un) := by subst hW; subst hp; go_cell
      have X6 : W.cell? ⟨p, 7, none⟩ = some (.int .u8 st) := by subst hW; subst hp; go_cell
      have oW : Ok w W := by rw [← hW]; exact Ok.alloc (Ok.refl _) _
      try rw [hp]
      rw [hW]
      clear hW hp
      (with_reducible refine (HRR.out W).mono ?_)
      rintro _ w1 ⟨rfl, o1⟩
      replace X2 := Ok.cell o1 X2; replace X3 := Ok.cell o1 X3; replace X4 := Ok.cell o1 X4; replace X5 := Ok.cell o1 X5; replace X6 := Ok.cell o1 X6
      have OK1 := Lib.hid (Ok.call oW o1)
      clear o1 oW
      go_wp2
      go_ret
      exact ⟨by first | rfl | simp, OK1.out⟩
  · have f1 : decide (4 ≤ st) = false := decide_eq_false e1
    obtain rfl : R = (un == 0) := by
      have := HB.out
      rw [if_neg (fun h => e1 h.1)] at this
      rw [Bool.eq_iff_iff, this, beq_iff_eq]
    clear e1 HB
    go_enter Tryz.func79, Tryz.ntmps79
    go_wp2_with fail
    obtain ⟨W, hW⟩ : ∃ W, w.alloc (.cells #[.int .i64 num, .string lo, .string hi, .int .i64 fr, .int .i64 tt, .int .i64 xe, .int .i64 un, .int .u8 st] 52) = W := ⟨_, rfl⟩
    have X2 : W.cell? ⟨p, 3, none⟩ = some (.int .i64 fr) := by subst hW; subst hp; go_cell
    have X3 : W.cell? ⟨p, 4, none⟩ = some (.int .i64 tt) := by subst hW; subst hp; go_cell
    have X4 : W.cell? ⟨p, 5, none⟩ = some (.int .i64 xe) := by subst hW; subst hp; go_cell
    have X5 : W.cell? ⟨p, 6, none⟩ = some (.int .i64 un) := by subst hW; subst hp; go_cell
    have X6 : W.cell? ⟨p, 7, none⟩ = some (.int .u8 st) := by subst hW; subst hp; go_cell
    have oW : Ok w W := by rw [← hW]; exact Ok.alloc (Ok.refl _) _
    try rw [hp]
    rw [hW]
    clear hW hp
    (with_reducible refine (HRR.out W).mono ?_)
    rintro _ w1 ⟨rfl, o1⟩
    replace X2 := Ok.cell o1 X2; replace X3 := Ok.cell o1 X3; replace X4 := Ok.cell o1 X4; replace X5 := Ok.cell o1 X5; replace X6 := Ok.cell o1 X6
    have OK1 := Lib.hid (Ok.call oW o1)
    clear o1 oW
    go_wp2
    go_ret
    exact ⟨by first | rfl | simp, OK1.out⟩
end Go.Proofs.YtdabdkedgigjdaaGreat
