/- The document's own parts of spans, walked. -/
import Derived.Test.YtdabdkedgigjdaaGreatU
import Derived.Test.YtdabdkedgigjdaaGreatR

namespace Go.Proofs.YtdabdkedgigjdaaGreat
open Go.RowKit

set_option maxRecDepth 100000 in
set_option maxHeartbeats 8000000 in
theorem rparts_w (A : Option Addr) (n c : Nat) (ps : List Sp) (hn : ps.length = n) (hn6 : n ≤ 1000000) (w : World) (hI : SpansAt w A ps) :
    Calls Tryz.prog 69 #[.slice A n c] w (Ret w (.bool (partsM ps))) := by
  obtain ⟨R, hR⟩ : ∃ R, partsM ps = R := ⟨_, rfl⟩
  have HIFF := Lib.hid (partsM_iff ps)
  rw [hR] at HIFF ⊢
  have HN := Lib.hid hn
  have HI := Lib.hid hI
  clear hI hR hn
  cases n with
  | zero =>
    have e : Hid (R = false) := Lib.hid (by
      cases R with
      | false => rfl
      | true => have := (HIFF.out.1 rfl).1; rw [HN.out] at this; cases this)
    go_enter Tryz.func69, Tryz.ntmps69
    go_wp2
    go_ret
    exact ⟨by rw [e.out]; rfl, Ok.refl _⟩
  | succ m =>
    obtain ⟨b, off, rfl, F0, _⟩ := HI.out 0 (by rw [HN.out]; omega)
    obtain ⟨b', off', hbo, _, L1⟩ := HI.out m (by rw [HN.out]; omega)
    obtain ⟨rfl, rfl⟩ : b = b' ∧ off = off' := by simpa using hbo
    clear hbo
    rw [Nat.zero_mul, Nat.add_zero] at F0
    have e1 := isNo (at1 ps 0).lo
    have e2 := isNo (at1 ps m).hi
    have d0 : ((m : Int) + 1 == 0) = false := beq_eq_false_iff_ne.2 (by omega)
    have d0' : decide ((m : Int) + 1 = 0) = false := decide_eq_false (by omega)
    have s0 : wrap64 ((m : Int) + 1 - 1) = (m : Int) := by simp only [wrap64]; omega
    have hE : Hid (noB (at1 ps 0).lo = false → R = false) := Lib.hid fun h => by
      cases R with
      | false => rfl
      | true => have := (HIFF.out.1 rfl).2.1; rw [h] at this; cases this
    have hE2 : Hid (noB (at1 ps m).hi = false → R = false) := Lib.hid fun h => by
      cases R with
      | false => rfl
      | true => have := (HIFF.out.1 rfl).2.2.1; rw [HN.out, Nat.add_sub_cancel, h] at this; cases this
    have hE3 : Hid (noB (at1 ps 0).lo = true → noB (at1 ps m).hi = true → (∀ i, i < m + 1 → rightB (at1 ps i) = true ∧ (0 < i → noB (at1 ps (i - 1)).hi = false ∧ (at1 ps (i - 1)).hi = (at1 ps i).lo)) → R = true) := Lib.hid fun h1 h2 h3 =>
      HIFF.out.2 ⟨by rw [HN.out]; omega, h1, by rw [HN.out, Nat.add_sub_cancel]; exact h2, by rw [HN.out]; exact h3⟩
    have hE4 : Hid (∀ i, i < m + 1 → R = true → rightB (at1 ps i) = true ∧ (0 < i → noB (at1 ps (i - 1)).hi = false ∧ (at1 ps (i - 1)).hi = (at1 ps i).lo)) := Lib.hid fun i hi hr =>
      (HIFF.out.1 hr).2.2.2 i (by rw [HN.out]; exact hi)
    cases hf : noB (at1 ps 0).lo with
    | false =>
      rw [hf] at e1
      have e := Lib.hid (hE.out hf)
      go_enter Tryz.func69, Tryz.ntmps69
      go_wp2
      go_ret
      exact ⟨by rw [e.out]; rfl, Ok.refl _⟩
    | true =>
      rw [hf] at e1
      cases hl : noB (at1 ps m).hi with
      | false =>
        rw [hl] at e2
        have e := Lib.hid (hE2.out hl)
        go_enter Tryz.func69, Tryz.ntmps69
        go_wp2
        go_ret
        exact ⟨by rw [e.out]; rfl, Ok.refl _⟩
      | true =>
        rw [hl] at e2
        have hE3 := Lib.hid (hE3.out hf hl)
        go_enter Tryz.func69, Tryz.ntmps69
        go_wp2_with fail
        clear e1 e2
        go_loopw [3] (fun i wr => ∃ k : Nat, k ≤ m + 1 ∧ i = .int .i64 k ∧ (∀ i, i < k → rightB (at1 ps i) = true ∧ (0 < i → noB (at1 ps (i - 1)).hi = false ∧ (at1 ps (i - 1)).hi = (at1 ps i).lo)) ∧ Ok w wr) (fun i _ => m + 1 - (intOf i).toNat)
        case atStart => exact ⟨0, Nat.zero_le _, rfl, fun i hi => absurd hi (Nat.not_lt_zero _), Ok.refl _⟩
        case round =>
          obtain ⟨k, hk, rfl, hall, okr⟩ := hrel
          have HALL := Lib.hid hall
          have HOKR := Lib.hid okr
          clear hall okr
          by_cases hlt : k < m + 1
          · have d1 : decide ((k : Int) < (m : Int) + 1) = true := decide_eq_true (by omega)
            obtain ⟨b2, off2, hbo, C0, C1⟩ := HI.out.ok HOKR.out k (by rw [HN.out]; exact hlt)
            obtain ⟨rfl, rfl⟩ : b = b2 ∧ off = off2 := by simpa using hbo
            clear hbo
            have hr := rright_w (at1 ps k)
            unfold spV at hr
            have hE4 := Lib.hid (hE4.out k hlt)
            have kC0 := cell_regrown C0
            have hi0 : (0 : Int) ≤ (k : Int) := Int.natCast_nonneg _
            have hi1 : (k : Int) < (m : Int) + 1 := by omega
            have kC1 := cell_regrown C1
            cases h5 : rightB (at1 ps k) with
            | false =>
              rw [h5] at hr
              have e : Hid (R = false) := Lib.hid (by
                cases R with
                | false => rfl
                | true => rw [(hE4.out rfl).1] at h5; cases h5)
              have q1 : ∀ d os, Calls Tryz.prog 56 #[.agg #[.string (at1 ps k).lo, .string (at1 ps k).hi]] (Go.Sort.grow (redrawn wr d) os) fun e w'' => e = .returned (.bool false) ∧ ∃ p : Regrown, w'' = Go.Sort.grow (redrawn wr p.d) p.os := fun d os => Calls.regrown_of (hr _)
              go_wp2_with fail
              refine wp_region_quiet_below (by kernel_rfl) (by kernel_rfl) ?_
              refine HeldU.out ?_
              repeat (
                refine hqU_step (fun K hK => ?_)
                go_simp
                first
                  | (refine hK _ ?_; clear hK K)
                  | (apply Exists.intro
                     refine ⟨fun _ => ?_, hK _ ?_⟩
                     (with_reducible exact q1 _ _)
                     clear hK K))
              refine HeldU.mk (wpQuiet_nil ?_)
              intro _ hw'
              obtain ⟨⟨dq, osq⟩, hw''⟩ := hw'
              subst hw''
              go_wp2
              go_ret
              exact ⟨by rw [e.out]; rfl, Ok.call HOKR.out (below_regrown wr dq osq)⟩
            | true =>
              rw [h5] at hr
              have q1 : ∀ d os, Calls Tryz.prog 56 #[.agg #[.string (at1 ps k).lo, .string (at1 ps k).hi]] (Go.Sort.grow (redrawn wr d) os) fun e w'' => e = .returned (.bool true) ∧ ∃ p : Regrown, w'' = Go.Sort.grow (redrawn wr p.d) p.os := fun d os => Calls.regrown_of (hr _)
              cases k with
              | zero =>
                rw [Nat.zero_mul, Nat.add_zero] at kC0 kC1
                have HNX : Hid (∀ i, i < 0 + 1 → rightB (at1 ps i) = true ∧ (0 < i → noB (at1 ps (i - 1)).hi = false ∧ (at1 ps (i - 1)).hi = (at1 ps i).lo)) := Lib.hid fun i hi => by
                  obtain rfl : i = 0 := by omega
                  exact ⟨h5, fun h => absurd h (Nat.lt_irrefl _)⟩
                go_wp2_with fail
                refine wp_region_quiet_below (by kernel_rfl) (by kernel_rfl) ?_
                refine HeldU.out ?_
                repeat (
                  refine hqU_step (fun K hK => ?_)
                  go_simp
                  first
                    | (refine hK _ ?_; clear hK K)
                    | (apply Exists.intro
                       refine ⟨fun _ => ?_, hK _ ?_⟩
                       (with_reducible exact q1 _ _)
                       clear hK K))
                refine HeldU.mk (wpQuiet_nil ?_)
                intro _ hw'
                obtain ⟨⟨dq, osq⟩, hw''⟩ := hw'
                subst hw''
                go_wp2
                refine ⟨⟨0 + 1, hlt, rfl, HNX.out, Ok.call HOKR.out (below_regrown wr dq osq)⟩, ?_⟩
                show m + 1 - (((0 : Nat) : Int) + 1).toNat < m + 1 - ((0 : Nat) : Int).toNat
                omega
              | succ k =>
                obtain ⟨b3, off3, hbo, _, P1⟩ := HI.out.ok HOKR.out k (by rw [HN.out]; omega)
                obtain ⟨rfl, rfl⟩ : b = b3 ∧ off = off3 := by simpa using hbo
                clear hbo
                have kP1 := cell_regrown P1
                have hj0 : (0 : Int) ≤ (k : Int) + 1 := by omega
                have hj1 : (k : Int) + 1 < (m : Int) + 1 := by omega
                have hj2 : (0 : Int) ≤ (k : Int) := Int.natCast_nonneg _
                have hj3 : (k : Int) < (m : Int) + 1 := by omega
                have hj4 : (k : Int) < (m : Int) := by omega
                have s1 : IntKind.i64.wrap (k : Int) = (k : Int) := by simp only [IntKind.wrap_i64]; omega
                have g1 : decide ((0 : Int) < (k : Int) + 1) = true := decide_eq_true (by omega)
                have e5 := isNo (at1 ps k).hi
                cases h6 : noB (at1 ps k).hi with
                | true =>
                  rw [h6] at e5
                  have e : Hid (R = false) := Lib.hid (by
                    cases R with
                    | false => rfl
                    | true => have := ((hE4.out rfl).2 (by omega)).1; rw [Nat.add_sub_cancel, h6] at this; cases this)
                  go_wp2_with fail
                  refine wp_region_quiet_below (by kernel_rfl) (by kernel_rfl) ?_
                  refine HeldU.out ?_
                  repeat (
                    refine hqU_step (fun K hK => ?_)
                    go_simp
                    first
                      | (refine hK _ ?_; clear hK K)
                      | (apply Exists.intro
                         refine ⟨fun _ => ?_, hK _ ?_⟩
                         (with_reducible exact q1 _ _)
                         clear hK K))
                  refine HeldU.mk (wpQuiet_nil ?_)
                  intro _ hw'
                  obtain ⟨⟨dq, osq⟩, hw''⟩ := hw'
                  subst hw''
                  go_wp2
                  go_ret
                  exact ⟨by rw [e.out]; rfl, Ok.call HOKR.out (below_regrown wr dq osq)⟩
                | false =>
                  rw [h6] at e5
                  cases h7 : ((at1 ps k).hi.toList == (at1 ps (k + 1)).lo.toList) with
                  | false =>
                    have e : Hid (R = false) := Lib.hid (by
                      cases R with
                      | false => rfl
                      | true => have := ((hE4.out rfl).2 (by omega)).2; rw [Nat.add_sub_cancel] at this; rw [this] at h7; simp at h7)
                    go_wp2_with fail
                    refine wp_region_quiet_below (by kernel_rfl) (by kernel_rfl) ?_
                    refine HeldU.out ?_
                    repeat (
                      refine hqU_step (fun K hK => ?_)
                      go_simp
                      first
                        | (refine hK _ ?_; clear hK K)
                        | (apply Exists.intro
                           refine ⟨fun _ => ?_, hK _ ?_⟩
                           (with_reducible exact q1 _ _)
                           clear hK K))
                    refine HeldU.mk (wpQuiet_nil ?_)
                    intro _ hw'
                    obtain ⟨⟨dq, osq⟩, hw''⟩ := hw'
                    subst hw''
                    go_wp2
                    go_ret
                    exact ⟨by rw [e.out]; rfl, Ok.call HOKR.out (below_regrown wr dq osq)⟩
                  | true =>
                    have HNX : Hid (∀ i, i < k + 1 + 1 → rightB (at1 ps i) = true ∧ (0 < i → noB (at1 ps (i - 1)).hi = false ∧ (at1 ps (i - 1)).hi = (at1 ps i).lo)) := Lib.hid fun i hi => by
                      by_cases hik : i < k + 1
                      · exact HALL.out i hik
                      · obtain rfl : i = k + 1 := by omega
                        exact ⟨h5, fun _ => ⟨by rw [Nat.add_sub_cancel]; exact h6, by rw [Nat.add_sub_cancel]; exact str_ext (beq_iff_eq.1 h7)⟩⟩
                    go_wp2_with fail
                    refine wp_region_quiet_below (by kernel_rfl) (by kernel_rfl) ?_
                    refine HeldU.out ?_
                    repeat (
                      refine hqU_step (fun K hK => ?_)
                      go_simp
                      first
                        | (refine hK _ ?_; clear hK K)
                        | (apply Exists.intro
                           refine ⟨fun _ => ?_, hK _ ?_⟩
                           (with_reducible exact q1 _ _)
                           clear hK K))
                    refine HeldU.mk (wpQuiet_nil ?_)
                    intro _ hw'
                    obtain ⟨⟨dq, osq⟩, hw''⟩ := hw'
                    subst hw''
                    go_wp2
                    refine ⟨⟨(k + 1) + 1, hlt, rfl, HNX.out, Ok.call HOKR.out (below_regrown wr dq osq)⟩, ?_⟩
                    show m + 1 - ((((k + 1) : Nat) : Int) + 1).toNat < m + 1 - (((k + 1) : Nat) : Int).toNat
                    omega
          · have d1 : decide ((k : Int) < (m : Int) + 1) = false := decide_eq_false (by omega)
            have e := Lib.hid (hE3.out (fun i hi => HALL.out i (by omega)))
            go_wp2
            go_ret
            exact ⟨by rw [e.out]; rfl, HOKR.out⟩

end Go.Proofs.YtdabdkedgigjdaaGreat
