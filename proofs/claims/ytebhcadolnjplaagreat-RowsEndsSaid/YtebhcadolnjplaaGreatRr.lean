/- The contract of Right: the answer is what the plain mathematics says. -/
import Derived.Test.YtebhcadolnjplaaGreatRq
namespace Go.Proofs.YtebhcadolnjplaaGreat
open Go.RowKit

theorem isNo (s : Str) : s.toList.isEmpty = noB s := by unfold noB; cases s.toList <;> rfl

theorem cell_one (w : World) (v : Value) (t : TypeId) : (w.alloc (.cells #[v] t)).cell? ⟨w.heap.size, 0, none⟩ = some v := by go_cell

set_option maxRecDepth 100000 in
set_option maxHeartbeats 4000000 in
theorem right_w (s : Sp) (w : World) : Calls Tryz.prog 124 #[spV s] w (Ret w (.bool (rightB s))) := by
  obtain ⟨lo, hi⟩ := s
  have hkl := key_w lo
  have hkh := key_w hi
  have hhi := high_w ⟨lo, hi⟩
  have hlo := low_w ⟨lo, hi⟩
  have hab := above_w hi lo
  have e1 := isNo lo
  have e2 := isNo hi
  obtain ⟨R, hR⟩ : ∃ R, rightB ⟨lo, hi⟩ = R := ⟨_, rfl⟩
  rw [hR]
  have er : Hid (R = ((noB lo || keyB lo) && (noB hi || keyB hi) && aboveB hi lo)) := Lib.hid hR.symm
  clear hR
  unfold spV at *
  go_enter Tryz.func124, Tryz.ntmps124
  go_wp2
  generalize hW : w.alloc (Obj.cells #[Value.string lo, Value.string hi] 36) = W
  have c0 : W.cell? ⟨w.heap.size, 0, none⟩ = some (.string lo) := by subst hW; go_cell
  have c1 : W.cell? ⟨w.heap.size, 1, none⟩ = some (.string hi) := by subst hW; go_cell
  have hOk : Ok w W := by subst hW; exact Ok.alloc (Ok.refl w) _
  clear hW
  have k0 := cell_regrown c0
  have k1 := cell_regrown c1
  have q1 : ∀ d os, Calls Tryz.prog 91 #[.string lo] (Go.Sort.grow (redrawn W d) os) fun e w'' => e = .returned (.bool (keyB lo)) ∧ ∃ p : Regrown, w'' = Go.Sort.grow (redrawn W p.d) p.os := fun d os => Calls.regrown_of (hkl _)
  have q2 : ∀ d os, Calls Tryz.prog 91 #[.string hi] (Go.Sort.grow (redrawn W d) os) fun e w'' => e = .returned (.bool (keyB hi)) ∧ ∃ p : Regrown, w'' = Go.Sort.grow (redrawn W p.d) p.os := fun d os => Calls.regrown_of (hkh _)
  have q3 : ∀ d os, Calls Tryz.prog 127 #[.agg #[.string lo, .string hi]] (Go.Sort.grow (redrawn W d) os) fun e w'' => e = .returned (endV hi) ∧ ∃ p : Regrown, w'' = Go.Sort.grow (redrawn W p.d) p.os := fun d os => Calls.regrown_of (hhi _)
  have q4 : ∀ d os, Calls Tryz.prog 126 #[.agg #[.string lo, .string hi]] (Go.Sort.grow (redrawn W d) os) fun e w'' => e = .returned (.string lo) ∧ ∃ p : Regrown, w'' = Go.Sort.grow (redrawn W p.d) p.os := fun d os => Calls.regrown_of (hlo _)
  have q5 : ∀ d os, Calls Tryz.prog 128 #[endV hi, .string lo] (Go.Sort.grow (redrawn W d) os) fun e w'' => e = .returned (.bool (aboveB hi lo)) ∧ ∃ p : Regrown, w'' = Go.Sort.grow (redrawn W p.d) p.os := fun d os => Calls.regrown_of (hab _)
  clear hkl hkh hhi hlo hab
  have f1 : (noB lo = true ∨ (noB lo = false ∧ keyB lo = true)) ∨ (noB lo = false ∧ keyB lo = false) := by cases noB lo <;> cases keyB lo <;> simp
  have f2 : (noB hi = true ∨ (noB hi = false ∧ keyB hi = true)) ∨ (noB hi = false ∧ keyB hi = false) := by cases noB hi <;> cases keyB hi <;> simp
  rcases f1 with f1 | ⟨hn1, hk1⟩
  · rcases f1 with hn1 | ⟨hn1, hk1⟩
    · rw [hn1] at e1 er
      rcases f2 with f2 | ⟨hn2, hk2⟩
      · rcases f2 with hn2 | ⟨hn2, hk2⟩
        · rw [hn2] at e2 er
          simp only [Bool.true_or, Bool.true_and] at er
          refine wp_region_quiet_below (by kernel_rfl) (by kernel_rfl) ?_
          repeat (quiet_step (first | (with_reducible exact q1 _ _) | (with_reducible exact q2 _ _) | (with_reducible exact q3 _ _) | (with_reducible exact q4 _ _) | (with_reducible exact q5 _ _)))
          refine wpQuiet_nil ?_
          intro _ hw'
          obtain ⟨⟨dq, osq⟩, hw''⟩ := hw'
          subst hw''
          go_wp2
          go_ret
          exact ⟨by rw [er.out]; rfl, Ok.call hOk (below_regrown W dq osq)⟩
        · rw [hn2] at e2 er; rw [hk2] at q2 er
          simp only [Bool.true_or, Bool.false_or, Bool.true_and] at er
          refine wp_region_quiet_below (by kernel_rfl) (by kernel_rfl) ?_
          repeat (quiet_step (first | (with_reducible exact q1 _ _) | (with_reducible exact q2 _ _) | (with_reducible exact q3 _ _) | (with_reducible exact q4 _ _) | (with_reducible exact q5 _ _)))
          refine wpQuiet_nil ?_
          intro _ hw'
          obtain ⟨⟨dq, osq⟩, hw''⟩ := hw'
          subst hw''
          go_wp2
          go_ret
          exact ⟨by rw [er.out]; rfl, Ok.call hOk (below_regrown W dq osq)⟩
      · rw [hn2] at e2 er; rw [hk2] at q2 er
        simp only [Bool.true_or, Bool.or_self, Bool.and_false, Bool.false_and] at er
        refine wp_region_quiet_below (by kernel_rfl) (by kernel_rfl) ?_
        repeat (quiet_step (first | (with_reducible exact q1 _ _) | (with_reducible exact q2 _ _) | (with_reducible exact q3 _ _) | (with_reducible exact q4 _ _) | (with_reducible exact q5 _ _)))
        refine wpQuiet_nil ?_
        intro _ hw'
        obtain ⟨⟨dq, osq⟩, hw''⟩ := hw'
        subst hw''
        go_wp2
        go_ret
        exact ⟨by rw [er.out]; rfl, Ok.call hOk (below_regrown W dq osq)⟩
    · rw [hn1] at e1 er
      rw [hk1] at q1 er
      rcases f2 with f2 | ⟨hn2, hk2⟩
      · rcases f2 with hn2 | ⟨hn2, hk2⟩
        · rw [hn2] at e2 er
          simp only [Bool.true_or, Bool.false_or, Bool.true_and] at er
          refine wp_region_quiet_below (by kernel_rfl) (by kernel_rfl) ?_
          repeat (quiet_step (first | (with_reducible exact q1 _ _) | (with_reducible exact q2 _ _) | (with_reducible exact q3 _ _) | (with_reducible exact q4 _ _) | (with_reducible exact q5 _ _)))
          refine wpQuiet_nil ?_
          intro _ hw'
          obtain ⟨⟨dq, osq⟩, hw''⟩ := hw'
          subst hw''
          go_wp2
          go_ret
          exact ⟨by rw [er.out]; rfl, Ok.call hOk (below_regrown W dq osq)⟩
        · rw [hn2] at e2 er; rw [hk2] at q2 er
          simp only [Bool.false_or, Bool.true_and] at er
          refine wp_region_quiet_below (by kernel_rfl) (by kernel_rfl) ?_
          repeat (quiet_step (first | (with_reducible exact q1 _ _) | (with_reducible exact q2 _ _) | (with_reducible exact q3 _ _) | (with_reducible exact q4 _ _) | (with_reducible exact q5 _ _)))
          refine wpQuiet_nil ?_
          intro _ hw'
          obtain ⟨⟨dq, osq⟩, hw''⟩ := hw'
          subst hw''
          go_wp2
          go_ret
          exact ⟨by rw [er.out]; rfl, Ok.call hOk (below_regrown W dq osq)⟩
      · rw [hn2] at e2 er; rw [hk2] at q2 er
        simp only [Bool.or_self, Bool.false_or, Bool.and_false, Bool.false_and] at er
        refine wp_region_quiet_below (by kernel_rfl) (by kernel_rfl) ?_
        repeat (quiet_step (first | (with_reducible exact q1 _ _) | (with_reducible exact q2 _ _) | (with_reducible exact q3 _ _) | (with_reducible exact q4 _ _) | (with_reducible exact q5 _ _)))
        refine wpQuiet_nil ?_
        intro _ hw'
        obtain ⟨⟨dq, osq⟩, hw''⟩ := hw'
        subst hw''
        go_wp2
        go_ret
        exact ⟨by rw [er.out]; rfl, Ok.call hOk (below_regrown W dq osq)⟩
  · rw [hn1] at e1 er; rw [hk1] at q1 er
    simp only [Bool.or_self, Bool.false_and] at er
    refine wp_region_quiet_below (by kernel_rfl) (by kernel_rfl) ?_
    repeat (quiet_step (first | (with_reducible exact q1 _ _) | (with_reducible exact q2 _ _) | (with_reducible exact q3 _ _) | (with_reducible exact q4 _ _) | (with_reducible exact q5 _ _)))
    refine wpQuiet_nil ?_
    intro _ hw'
    obtain ⟨⟨dq, osq⟩, hw''⟩ := hw'
    subst hw''
    go_wp2
    go_ret
    exact ⟨by rw [er.out]; rfl, Ok.call hOk (below_regrown W dq osq)⟩

end Go.Proofs.YtebhcadolnjplaaGreat
