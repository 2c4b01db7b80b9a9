/- Pasts: a copy, two that are the same, a number picked, whether one of several is none. -/
import Derived.Test.YtnjaiiifafbbjaaPg
namespace Go.Proofs.Ytnjaiiifafbbjaa
open Go.RowKit

theorem PastAt.congr {w : World} {p : Nat} {f g : Nat → Int} (h : PastAt w p f) (e : ∀ i, i < 8 → f i = g i) : PastAt w p g where
  num i hi := by rw [← e i hi]; exact h.num i hi
  made := h.made
  free := h.free

theorem past_new (w : World) (f : Nat → Int) : PastAt (w.alloc (.cells #[.int .i64 (f 0), .int .i64 (f 1), .int .i64 (f 2), .int .i64 (f 3), .int .i64 (f 4), .int .i64 (f 5), .int .i64 (f 6), .int .i64 (f 7), .bool true] 173)) w.heap.size f where
    num := fun i hi => by
      rw [World.cell?_alloc_at _ _ _ _ rfl]
      match i, hi with
      | 0, _ => rfl
      | 1, _ => rfl
      | 2, _ => rfl
      | 3, _ => rfl
      | 4, _ => rfl
      | 5, _ => rfl
      | 6, _ => rfl
      | 7, _ => rfl
    made := by rw [World.cell?_alloc_at _ _ _ _ rfl]; rfl
    free := fun i _ => World.frozen?_alloc_at _ _ _ _ rfl

set_option maxHeartbeats 1000000 in
theorem copy_p (p : Nat) (f : Nat → Int) (w : World) (h : PastAt w p f) :
    Calls Try.prog 54 #[.pointer (some ⟨p, 0, none⟩)] w fun e w' => e = .returned (.pointer (some ⟨w.heap.size, 0, none⟩)) ∧ PastAt w' w.heap.size f ∧ Ok w w' ∧ w'.heap.size = w.heap.size + 1 := by
  have H := Lib.hid h
  have HP := Lib.hid (past_new w f)
  have c0 := h.num 0 (by omega)
  have c1 := h.num 1 (by omega)
  have c2 := h.num 2 (by omega)
  have c3 := h.num 3 (by omega)
  have c4 := h.num 4 (by omega)
  have c5 := h.num 5 (by omega)
  have c6 := h.num 6 (by omega)
  have c7 := h.num 7 (by omega)
  clear h
  go_enter Try.func54, Try.ntmps54
  go_wp2_with fail
  refine (none_p p f _ H.out).mono ?_
  rintro _ w1 ⟨rfl, rfl⟩
  go_wp2
  go_ret
  exact ⟨rfl, HP.out, Ok.alloc (Ok.refl _) _, by simp⟩

set_option maxRecDepth 100000 in
set_option maxHeartbeats 2000000 in
theorem equal_w (p m : Nat) (f : Nat → Int) (w : World) (hp : PastAt w p f) (hm : PastAt w m f) :
    Calls Try.prog 65 #[.pointer (some ⟨p, 0, none⟩), .pointer (some ⟨m, 0, none⟩)] w fun e w' => e = .returned (.bool true) ∧ w = w' := by
  have HV : Hid (∀ c : Int, ∃ v, Calls Try.prog 66 #[.pointer (some ⟨p, 0, none⟩), .int .i64 c] w (fun e w' => e = .returned (.int .i64 v) ∧ w = w') ∧ Calls Try.prog 66 #[.pointer (some ⟨m, 0, none⟩), .int .i64 c] w (fun e w' => e = .returned (.int .i64 v) ∧ w = w')) := Lib.hid fun c => by
    cases hb : clientB c with
    | false => exact ⟨0, Of_no p f c hb w hp, Of_no m f c hb w hm⟩
    | true =>
      simp only [clientB, Bool.and_eq_true, decide_eq_true_eq] at hb
      exact ⟨f (c - 1).toNat, Of_p p f (c - 1).toNat (by omega) c (by omega) w hp, Of_p m f (c - 1).toNat (by omega) c (by omega) w hm⟩
  clear hp hm
  go_enter Try.func65, Try.ntmps65
  go_wp2_with fail
  go_loop [5] (fun s => ∃ c : Int, 1 ≤ c ∧ c ≤ 9 ∧ s = .int .i64 c) (fun s => (9 - intOf s).toNat)
  case atStart => exact ⟨1, by omega, by omega, rfl⟩
  case round =>
    obtain ⟨c, h1, h2, rfl⟩ := hrel
    by_cases hlt : c ≤ 8
    · have d1 : decide (c ≤ 8) = true := decide_eq_true hlt
      obtain ⟨v, hv1, hv2⟩ := HV.out c
      go_wp2_with fail
      refine hv1.mono ?_
      rintro _ w1 ⟨rfl, rfl⟩
      go_wp2_with fail
      refine hv2.mono ?_
      rintro _ w1 ⟨rfl, rfl⟩
      go_wp2
      go_round
      case rel => exact ⟨c + 1, by omega, by omega, rfl⟩
      case measure => simp [intOf]; omega
    · have d1 : decide (c ≤ 8) = false := decide_eq_false hlt
      go_wp2
      go_ret
      exact ⟨rfl, rfl⟩

set_option maxHeartbeats 1000000 in
theorem pick_w (x : Int) (n : Nat) (hn : 0 < n) (hn6 : n ≤ 1000000) (w : World) :
    Calls Try.prog 33 #[.int .i64 x, .int .i64 (n : Int)] w fun e w' => (∃ k : Nat, k < n ∧ e = .returned (.int .i64 (k : Int))) ∧ w = w' := by
  have d1 : decide ((n : Int) < 1) = false := decide_eq_false (by omega)
  have hz : ¬ ((n : Int) = 0) := by omega
  have b1 : -(n : Int) < x.tmod (n : Int) := by
    have := Int.lt_tmod_of_pos x (b := (n : Int)) (by omega); exact this
  have b2 : x.tmod (n : Int) < (n : Int) := Int.tmod_lt_of_pos x (by omega)
  by_cases hx : x.tmod (n : Int) < 0
  · have d2 : decide (x.tmod (n : Int) < 0) = true := decide_eq_true hx
    go_enter Try.func33, Try.ntmps33
    go_wp2
    go_ret
    exact ⟨⟨(x.tmod (n : Int) + n).toNat, by omega, by rw [Int.toNat_of_nonneg (by omega)]; rfl⟩, rfl⟩
  · have d2 : decide (x.tmod (n : Int) < 0) = false := decide_eq_false hx
    go_enter Try.func33, Try.ntmps33
    go_wp2
    go_ret
    exact ⟨⟨(x.tmod (n : Int)).toNat, by omega, by rw [Int.toNat_of_nonneg (by omega)]; rfl⟩, rfl⟩
end Go.Proofs.Ytnjaiiifafbbjaa
