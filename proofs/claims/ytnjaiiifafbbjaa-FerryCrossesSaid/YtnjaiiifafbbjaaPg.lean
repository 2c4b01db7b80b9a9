/- Pasts: the chapter's example; whether a past is the document's. -/
import Derived.Test.YtnjaiiifafbbjaaPf
namespace Go.Proofs.Ytnjaiiifafbbjaa
open Go.RowKit

theorem ex_all : allB [⟨2, 5⟩, ⟨2, 3⟩] = true := by decide +kernel
theorem ex_five : rzs fz [⟨2, 5⟩, ⟨2, 3⟩] 1 = 5 := by decide +kernel
theorem ex_is : isB (rzs fz [⟨2, 5⟩, ⟨2, 3⟩]) ⟨2, 5⟩ = true := by decide +kernel
theorem ex_not : isB (rzs fz [⟨2, 5⟩, ⟨2, 3⟩]) ⟨2, 6⟩ = false := by decide +kernel
theorem two_names (w : World) : NamesAt (w.alloc (.cells #[.int .i64 2, .int .i64 5, .int .i64 2, .int .i64 3] 115)) (some ⟨w.heap.size, 0, none⟩) [⟨2, 5⟩, ⟨2, 3⟩] := fun j hj => by
  refine ⟨w.heap.size, 0, rfl, ?_, ?_⟩
  all_goals
    rw [World.cell?_alloc_at _ _ _ _ rfl]
    match j, hj with
    | 0, _ => rfl
    | 1, _ => rfl

set_option maxRecDepth 100000 in
set_option maxHeartbeats 2000000 in
theorem awake_w (w : World) : Calls Try.prog 43 #[] w (Ret w (.bool true)) := by
  go_enter Try.func43, Try.ntmps43
  go_wp2_with fail
  refine (new_p w).mono ?_
  rintro _ w1 ⟨rfl, hp1, o1, hs1⟩
  obtain ⟨p, hp⟩ : ∃ p, w.heap.size = p := ⟨_, rfl⟩
  have hpl : p < w1.heap.size := by omega
  have HPW := Lib.hid hp
  rw [hp] at hp1 ⊢
  have HP1 := Lib.hid hp1
  have HO1 := Lib.hid o1
  clear hp1 o1 hs1 hp
  have HN := Lib.hid (two_names w1)
  have HOA : Hid (Ok w1 (w1.alloc (.cells #[.int .i64 2, .int .i64 5, .int .i64 2, .int .i64 3] 115))) := Lib.hid (Ok.alloc (Ok.refl _) _)
  go_wp2_with fail
  refine (Raise_w p fz _ 2 2 [⟨2, 5⟩, ⟨2, 3⟩] rfl (by omega) _ (HP1.out.ok HOA.out) HN.out (fun b off e => by simp only [Option.some.injEq, Addr.mk.injEq] at e; omega)).mono ?_
  rintro _ w2 ⟨hm, hc⟩
  have hsz : (w1.alloc (.cells #[.int .i64 2, .int .i64 5, .int .i64 2, .int .i64 3] 115)).heap.size = w1.heap.size + 1 := by simp
  have hb2 : Hid (Ok w w2) := Lib.hid (Below.trans HO1.out (Below.trans (HOA.out.mono (by have := HPW.out; omega)) (hm.below (by have := HPW.out; omega) (by omega))))
  rcases hc with ⟨h, _⟩ | ⟨_, rfl, hp2⟩
  · rw [ex_all] at h; cases h
  have HP2 := Lib.hid hp2
  clear hm hp2 hsz
  have hof := Of_p p (rzs fz [⟨2, 5⟩, ⟨2, 3⟩]) 1 (by decide) 2 (by decide) w2 HP2.out
  rw [ex_five] at hof
  have HI1 := Lib.hid (fun w' h => Is_w p (rzs fz [⟨2, 5⟩, ⟨2, 3⟩]) ⟨2, 5⟩ w' h)
  have HI2 := Lib.hid (fun w' h => Is_w p (rzs fz [⟨2, 5⟩, ⟨2, 3⟩]) ⟨2, 6⟩ w' h)
  rw [ex_is] at HI1
  rw [ex_not] at HI2
  unfold nmV at HI1 HI2
  simp only at HI1 HI2
  generalize rzs fz [⟨2, 5⟩, ⟨2, 3⟩] = f at *
  go_wp2_with fail
  refine hof.mono ?_
  rintro _ w3 ⟨rfl, rfl⟩
  go_wp2_with fail
  refine (HI1.out _ HP2.out).mono ?_
  rintro _ w4 ⟨rfl, o4⟩
  go_wp2_with fail
  refine (HI2.out _ (HP2.out.ok o4)).mono ?_
  rintro _ w5 ⟨rfl, o5⟩
  go_wp2
  go_ret
  exact ⟨rfl, Ok.trans (Ok.trans hb2.out o4) o5⟩

set_option maxHeartbeats 400000 in
theorem rOf_no (p : Nat) (c : Int) (hc : clientB c = false) (w : World) :
    Calls Try.prog 108 #[.pointer (some ⟨p, 0, none⟩), .int .i64 c] w fun e w' => e = .returned (.int .i64 0) ∧ w = w' := by
  by_cases h1 : c < 1
  · have d1 : decide (c < 1) = true := decide_eq_true h1
    go_enter Try.func108, Try.ntmps108
    go_wp2
    go_ret
    exact ⟨rfl, rfl⟩
  · have h2 : 8 < c := by
      simp only [clientB, Bool.and_eq_false_iff, decide_eq_false_iff_not] at hc
      omega
    have d1 : decide (c < 1) = false := decide_eq_false h1
    have d2 : decide (8 < c) = true := decide_eq_true h2
    go_enter Try.func108, Try.ntmps108
    go_wp2
    go_ret
    exact ⟨rfl, rfl⟩
set_option maxHeartbeats 400000 in
theorem rOf_p (p : Nat) (f : Nat → Int) (k : Nat) (hk : k < 8) (c : Int) (hc : c = (k : Int) + 1) (w : World) (h : RpAt w p f) :
    Calls Try.prog 108 #[.pointer (some ⟨p, 0, none⟩), .int .i64 c] w fun e w' => e = .returned (.int .i64 (f k)) ∧ w = w' := by
  have hk0 := h.num k hk
  subst hc
  clear h
  generalize f k = v at *
  have d1 : decide ((k : Int) + 1 < 1) = false := decide_eq_false (by omega)
  have d2 : decide (8 < (k : Int) + 1) = false := decide_eq_false (by omega)
  have h0 : (0 : Int) ≤ (k : Int) + 1 := by omega
  have h1 : (k : Int) + 1 < 9 := by omega
  go_enter Try.func108, Try.ntmps108
  go_wp2
  go_ret
  exact ⟨rfl, rfl⟩

set_option maxRecDepth 100000 in
set_option maxHeartbeats 2000000 in
theorem same_w (p m : Nat) (f : Nat → Int) (w : World) (hp : PastAt w p f) (hm : RpAt w m f) :
    Calls Try.prog 50 #[.pointer (some ⟨p, 0, none⟩), .pointer (some ⟨m, 0, none⟩)] w fun e w' => e = .returned (.bool true) ∧ w = w' := by
  have HV : Hid (∀ c : Int, ∃ v, Calls Try.prog 66 #[.pointer (some ⟨p, 0, none⟩), .int .i64 c] w (fun e w' => e = .returned (.int .i64 v) ∧ w = w') ∧ Calls Try.prog 108 #[.pointer (some ⟨m, 0, none⟩), .int .i64 c] w (fun e w' => e = .returned (.int .i64 v) ∧ w = w')) := Lib.hid fun c => by
    cases hb : clientB c with
    | false => exact ⟨0, Of_no p f c hb w hp, rOf_no m c hb w⟩
    | true =>
      simp only [clientB, Bool.and_eq_true, decide_eq_true_eq] at hb
      exact ⟨f (c - 1).toNat, Of_p p f (c - 1).toNat (by omega) c (by omega) w hp, rOf_p m f (c - 1).toNat (by omega) c (by omega) w hm⟩
  clear hp hm
  go_enter Try.func50, Try.ntmps50
  go_wp2_with fail
  go_loop [5] (fun s => ∃ c : Int, -1 ≤ c ∧ c ≤ 11 ∧ s = .int .i64 c) (fun s => (11 - intOf s).toNat)
  case atStart => exact ⟨-1, by omega, by omega, rfl⟩
  case round =>
    obtain ⟨c, h1, h2, rfl⟩ := hrel
    by_cases hlt : c < 11
    · have d1 : decide (c < 11) = true := decide_eq_true hlt
      obtain ⟨v, hv1, hv2⟩ := HV.out c
      go_wp2_with fail
      refine hv1.mono ?_
      rintro _ w1 ⟨rfl, rfl⟩
      go_wp2_with fail
      refine hv2.mono ?_
      rintro _ w1 ⟨rfl, rfl⟩
      go_wp2
      go_round
      case rel => exact ⟨c + 1, by omega, by omega, rfl⟩
      case measure => simp [intOf]; omega
    · have d1 : decide (c < 11) = false := decide_eq_false hlt
      go_wp2
      go_ret
      exact ⟨rfl, rfl⟩
end Go.Proofs.Ytnjaiiifafbbjaa
