/- Whether two rows of spans are the same; whether texts that were lent, and the marks behind them, are kept. -/
import Derived.Test.YtneipmgkphdfkaaY
import Derived.Test.YtneipmgkphdfkaaU
namespace Go.Proofs.Ytneipmgkphdfkaa
open Go.RowKit

set_option maxRecDepth 100000 in
set_option maxHeartbeats 4000000 in
theorem same_w (A B : Option Addr) (n c d : Nat) (ps : List Sp) (hn : ps.length = n) (hn6 : n ≤ 1000000) (w : World) (hA : SpansAt w A ps) (hB : SpansAt w B ps) :
    Calls Try.prog 24 #[.slice A n c, .slice B n d] w (Ret w (.bool true)) := by
  have HA := Lib.hid hA
  have HB := Lib.hid hB
  have HN := Lib.hid hn
  clear hA hB hn
  go_enter Try.func24, Try.ntmps24
  go_wp2_with fail
  go_loopw [5] (fun i wr => ∃ k : Nat, k ≤ n ∧ i = .int .i64 k ∧ Ok w wr) (fun i _ => n - (intOf i).toNat)
  case atStart => exact ⟨0, Nat.zero_le _, rfl, Ok.refl _⟩
  case round =>
    obtain ⟨k, hk, rfl, okr⟩ := hrel
    have HOKR := Lib.hid okr
    clear okr
    by_cases hlt : k < n
    · have d1 : decide ((k : Int) < (n : Int)) = true := decide_eq_true (by omega)
      obtain ⟨b, off, rfl, C0, C1⟩ := HA.out.ok HOKR.out k (by rw [HN.out]; exact hlt)
      obtain ⟨b', off', rfl, D0, D1⟩ := HB.out.ok HOKR.out k (by rw [HN.out]; exact hlt)
      obtain ⟨⟨sl, sh⟩, hs⟩ : ∃ s, at1 ps k = s := ⟨_, rfl⟩
      rw [hs] at C0 C1 D0 D1
      simp only at C0 C1 D0 D1
      clear hs
      have hi0 : (0 : Int) ≤ (k : Int) := Int.natCast_nonneg _
      have hi1 : (k : Int) < (n : Int) := by omega
      go_wp2_with fail
      go_quiet (fail)
      go_wp2
      refine ⟨⟨k + 1, hlt, rfl, Below.trans HOKR.out ⟨rfl, rfl, rfl, Nat.le_refl _, fun _ _ => rfl⟩⟩, ?_⟩
      show n - ((k : Int) + 1).toNat < n - (k : Int).toNat
      omega
    · have d1 : decide ((k : Int) < (n : Int)) = false := decide_eq_false (by omega)
      go_wp2
      go_ret
      exact ⟨rfl, HOKR.out⟩

set_option maxRecDepth 100000 in
set_option maxHeartbeats 8000000 in
theorem kept_w (g cap : Nat) (v : Value) (zs : List Str) (m : Nat) (w : World) (hz : zs.length ≤ 60) (hcap : zs.length + 12 ≤ cap)
    (hG : ∀ j, j < zs.length + 12 → w.cell? ⟨g, j, none⟩ = some (.string (at0 (zs ++ marksS 12) j))) (hI : Strs m w v zs) :
    Calls Try.prog 27 #[.slice (some ⟨g, 0, none⟩) zs.length cap, v] w (Ret w (.bool true)) := by
  obtain ⟨A, n, c, rfl, hn, hI2⟩ : ∃ A n c, v = .slice A n c ∧ zs.length = n ∧ ∀ j, j < n → ∃ b off, A = some ⟨b, off, none⟩ ∧ w.cell? ⟨b, off + j, none⟩ = some (.string (at0 zs j)) := by
    rcases hI with ⟨rfl, A, c, rfl⟩ | ⟨b, off, cap, rfl, _, hc⟩
    · exact ⟨A, 0, c, rfl, rfl, fun j hj => absurd hj (Nat.not_lt_zero _)⟩
    · exact ⟨_, _, _, rfl, rfl, fun j hj => ⟨b, off, rfl, hc j hj⟩⟩
  have HG := Lib.hid hG
  have HI := Lib.hid hI2
  have HN := Lib.hid hn
  rw [hn] at hz hcap ⊢
  clear hG hI hI2 hn
  have s1 : wrap64 ((n : Int) + 12) = (n : Int) + 12 := by simp only [wrap64]; omega
  have s3 : (0 : Int) ≤ (n : Int) + 12 := by omega
  have s4 : (n : Int) + 12 ≤ (cap : Int) := by omega
  have s5 : ((n : Int) + 12).toNat = n + 12 := by omega
  go_enter Try.func27, Try.ntmps27
  go_wp2_with fail
  go_loopw [6] (fun i wr => ∃ k : Nat, k ≤ n + 12 ∧ i = .int .i64 k ∧ Ok w wr) (fun i _ => n + 12 - (intOf i).toNat)
  case atStart => exact ⟨0, Nat.zero_le _, rfl, Ok.refl _⟩
  case round =>
    obtain ⟨k, hk, rfl, okr⟩ := hrel
    have HOKR := Lib.hid okr
    clear okr
    by_cases hlt : k < n + 12
    · have d1 : decide ((k : Int) < (n : Int) + 12) = true := decide_eq_true (by omega)
      have C0 := Ok.cell HOKR.out (HG.out k (by rw [HN.out]; exact hlt))
      have hi0 : (0 : Int) ≤ (k : Int) := Int.natCast_nonneg _
      have hi1 : (k : Int) < (n : Int) + 12 := by omega
      by_cases h2 : k < n
      · have d2 : decide ((k : Int) < (n : Int)) = true := decide_eq_true (by omega)
        have d3 : decide (n ≤ k) = false := decide_eq_false (by omega)
        obtain ⟨b, off, rfl, C1⟩ := HI.out k h2
        have C1 := Ok.cell HOKR.out C1
        rw [lent_at0 zs k (by rw [HN.out]; exact h2)] at C0
        generalize at0 zs k = t at C0 C1
        have hi2 : (k : Int) < (n : Int) := by omega
        have kC0 := cell_regrown C0
        have kC1 := cell_regrown C1
        go_wp2_with fail
        refine wp_region_quiet_below (by kernel_rfl) (by kernel_rfl) ?_
        refine HeldU.out ?_
        repeat (
          refine hqU_step (fun K hK => ?_)
          go_simp
          (refine hK _ ?_; clear hK K))
        refine HeldU.mk (wpQuiet_nil ?_)
        intro _ hw'
        obtain ⟨⟨dq, osq⟩, hw''⟩ := hw'
        subst hw''
        go_wp2
        refine ⟨⟨k + 1, hlt, rfl, Ok.call HOKR.out (below_regrown wr dq osq)⟩, ?_⟩
        show n + 12 - ((k : Int) + 1).toNat < n + 12 - (k : Int).toNat
        omega
      · obtain ⟨j, hj⟩ : ∃ j, k = n + j := ⟨k - n, by omega⟩
        have hj12 : j < 12 := by omega
        have d2 : decide ((k : Int) < (n : Int)) = false := decide_eq_false (by omega)
        have d3 : decide (n ≤ k) = true := decide_eq_true (by omega)
        have s2 : wrap64 ((k : Int) - (n : Int)) = (j : Int) := by simp only [wrap64]; omega
        have s6 : IntKind.i64.wrap ((k : Int) - (n : Int)) = (j : Int) := by simp only [IntKind.wrap_i64]; omega
        have e0 : at0 (zs ++ marksS 12) k = markS j := by rw [hj, ← HN.out]; exact lent_at1 zs j hj12
        rw [e0] at C0
        have hm := mark_w j hj12
        generalize markS j = t at C0 hm
        clear e0 hj
        have kC0 := cell_regrown C0
        have q1 : ∀ d os, Calls Try.prog 48 #[.int .i64 1, .int .i64 (j : Int)] (Go.Sort.grow (redrawn wr d) os) fun e w'' => e = .returned (.string t) ∧ ∃ p : Regrown, w'' = Go.Sort.grow (redrawn wr p.d) p.os := fun d os => Calls.regrown_of (hm _)
        go_wp2_with fail
        refine wp_region_quiet_below (by kernel_rfl) (by kernel_rfl) ?_
        refine HeldU.out ?_
        repeat (
          refine hqU_step (fun K hK => ?_)
          go_simp
          first
            | (refine hK _ ?_; clear hK K)
            | (apply Exists.intro
               refine ⟨fun _ => ?_, hK _ ?_⟩
               (with_reducible exact q1 _ _)
               clear hK K))
        refine HeldU.mk (wpQuiet_nil ?_)
        intro _ hw'
        obtain ⟨⟨dq, osq⟩, hw''⟩ := hw'
        subst hw''
        go_wp2
        refine ⟨⟨k + 1, hlt, rfl, Ok.call HOKR.out (below_regrown wr dq osq)⟩, ?_⟩
        show n + 12 - ((k : Int) + 1).toNat < n + 12 - (k : Int).toNat
        omega
    · have d1 : decide ((k : Int) < (n : Int) + 12) = false := decide_eq_false (by omega)
      go_wp2
      go_ret
      exact ⟨rfl, HOKR.out⟩
end Go.Proofs.Ytneipmgkphdfkaa
