/- Contracts of Has, of Within, of Meet, of few. -/
import Derived.Test.YtdabdkedgigjdaaGreatC
namespace Go.Proofs.YtdabdkedgigjdaaGreat
open Go.RowKit

set_option maxRecDepth 100000 in
set_option maxHeartbeats 1000000 in
theorem has_w (s : Sp) (k : Str) (w : World) : Calls Tryz.prog 72 #[spV s, .string k] w (Ret w (.bool (hasB s k))) := by
  have hr := right_w s
  have hk := key_w k
  have hlo := low_w s
  have hhi := high_w s
  have hbe := below_w k s.lo
  have hab := above_w s.hi k
  obtain ⟨R, hR⟩ : ∃ R, hasB s k = R := ⟨_, rfl⟩
  rw [hR]
  have er : Hid (R = (rightB s && keyB k && !ltB k s.lo && aboveB s.hi k)) := Lib.hid hR.symm
  clear hR
  obtain ⟨lo, hi⟩ := s
  unfold spV at *
  cases h1 : rightB ⟨lo, hi⟩ with
  | false =>
    rw [h1] at hr er
    go_enter Tryz.func72, Tryz.ntmps72
    go_wp2_with fail
    refine (hr _).mono ?_
    rintro _ w1 ⟨rfl, o1⟩
    go_wp2
    go_ret
    exact ⟨by rw [er.out]; first | rfl | simp, Ok.call (Ok.alloc (Ok.refl w) _) o1⟩
  | true =>
    rw [h1] at hr er
    cases h2 : keyB k with
    | false =>
      rw [h2] at hk er
      go_enter Tryz.func72, Tryz.ntmps72
      go_wp2_with fail
      refine (hr _).mono ?_
      rintro _ w1 ⟨rfl, o1⟩
      go_wp2_with fail
      refine (hk _).mono ?_
      rintro _ w2 ⟨rfl, o2⟩
      go_wp2
      go_ret
      exact ⟨by rw [er.out]; first | rfl | simp, Ok.call (Ok.call (Ok.alloc (Ok.refl w) _) o1) o2⟩
    | true =>
      rw [h2] at hk er
      cases h3 : ltB k lo with
      | true =>
        rw [h3] at hbe er
        go_enter Tryz.func72, Tryz.ntmps72
        go_wp2_with fail
        refine (hr _).mono ?_
        rintro _ w1 ⟨rfl, o1⟩
        have c1 : w1.cell? ⟨w.heap.size, 0, none⟩ = some (.string lo) := Ok.cell o1 (by go_cell)
        have d1 : w1.cell? ⟨w.heap.size, 1, none⟩ = some (.string hi) := Ok.cell o1 (by go_cell)
        go_wp2_with fail
        refine (hk _).mono ?_
        rintro _ w2 ⟨rfl, o2⟩
        have c2 := Ok.cell o2 c1
        have d2 := Ok.cell o2 d1
        go_wp2_with fail
        refine (hlo _).mono ?_
        rintro _ w3 ⟨rfl, o3⟩
        go_wp2_with fail
        refine (hbe _).mono ?_
        rintro _ w4 ⟨rfl, o4⟩
        go_wp2
        go_ret
        exact ⟨by rw [er.out]; first | rfl | simp, Ok.call (Ok.call (Ok.call (Ok.call (Ok.alloc (Ok.refl w) _) o1) o2) o3) o4⟩
      | false =>
        rw [h3] at hbe er
        go_enter Tryz.func72, Tryz.ntmps72
        go_wp2_with fail
        refine (hr _).mono ?_
        rintro _ w1 ⟨rfl, o1⟩
        have c1 : w1.cell? ⟨w.heap.size, 0, none⟩ = some (.string lo) := Ok.cell o1 (by go_cell)
        have d1 : w1.cell? ⟨w.heap.size, 1, none⟩ = some (.string hi) := Ok.cell o1 (by go_cell)
        go_wp2_with fail
        refine (hk _).mono ?_
        rintro _ w2 ⟨rfl, o2⟩
        have c2 := Ok.cell o2 c1
        have d2 := Ok.cell o2 d1
        go_wp2_with fail
        refine (hlo _).mono ?_
        rintro _ w3 ⟨rfl, o3⟩
        have c3 := Ok.cell o3 c2
        have d3 := Ok.cell o3 d2
        go_wp2_with fail
        refine (hbe _).mono ?_
        rintro _ w4 ⟨rfl, o4⟩
        have c4 := Ok.cell o4 c3
        have d4 := Ok.cell o4 d3
        go_wp2_with fail
        refine (hhi _).mono ?_
        rintro _ w5 ⟨rfl, o5⟩
        go_wp2_with fail
        refine (hab _).mono ?_
        rintro _ w6 ⟨rfl, o6⟩
        go_wp2
        go_ret
        exact ⟨by rw [er.out]; first | rfl | simp, Ok.call (Ok.call (Ok.call (Ok.call (Ok.call (Ok.call (Ok.alloc (Ok.refl w) _) o1) o2) o3) o4) o5) o6⟩

set_option maxRecDepth 100000 in
set_option maxHeartbeats 4000000 in
theorem within_w (a b : Sp) (w : World) : Calls Tryz.prog 53 #[spV a, spV b] w (Ret w (.bool (withinB a b))) := by
  have hra := right_w a
  have hrb := right_w b
  have hla := low_w a
  have hlb := low_w b
  have hha := high_w a
  have hhb := high_w b
  have hbe := below_w a.lo b.lo
  have hin := in_w a.hi b.hi
  obtain ⟨R, hR⟩ : ∃ R, withinB a b = R := ⟨_, rfl⟩
  rw [hR]
  have er : Hid (R = (rightB a && rightB b && !ltB a.lo b.lo && inB a.hi b.hi)) := Lib.hid hR.symm
  clear hR
  obtain ⟨al, ah⟩ := a
  obtain ⟨bl, bh⟩ := b
  unfold spV at *
  go_enter Tryz.func53, Tryz.ntmps53
  go_wp2
  generalize hW : (w.alloc (Obj.cells #[Value.string al, Value.string ah] 26)).alloc (Obj.cells #[Value.string bl, Value.string bh] 26) = W
  have c0 : W.cell? ⟨w.heap.size, 0, none⟩ = some (.string al) := by subst hW; go_cell
  have c1 : W.cell? ⟨w.heap.size, 1, none⟩ = some (.string ah) := by subst hW; go_cell
  have c2 : W.cell? ⟨w.heap.size + 1, 0, none⟩ = some (.string bl) := by subst hW; go_cell
  have c3 : W.cell? ⟨w.heap.size + 1, 1, none⟩ = some (.string bh) := by subst hW; go_cell
  have hOk : Ok w W := by subst hW; exact Ok.alloc (Ok.alloc (Ok.refl w) _) _
  clear hW
  have k0 := cell_regrown c0
  have k1 := cell_regrown c1
  have k2 := cell_regrown c2
  have k3 := cell_regrown c3
  have q1 : ∀ d os, Calls Tryz.prog 49 #[.agg #[.string al, .string ah]] (Go.Sort.grow (redrawn W d) os) fun e w'' => e = .returned (.bool (rightB ⟨al, ah⟩)) ∧ ∃ p : Regrown, w'' = Go.Sort.grow (redrawn W p.d) p.os := fun d os => Calls.regrown_of (hra _)
  have q2 : ∀ d os, Calls Tryz.prog 49 #[.agg #[.string bl, .string bh]] (Go.Sort.grow (redrawn W d) os) fun e w'' => e = .returned (.bool (rightB ⟨bl, bh⟩)) ∧ ∃ p : Regrown, w'' = Go.Sort.grow (redrawn W p.d) p.os := fun d os => Calls.regrown_of (hrb _)
  have q3 : ∀ d os, Calls Tryz.prog 99 #[.agg #[.string al, .string ah]] (Go.Sort.grow (redrawn W d) os) fun e w'' => e = .returned (.string al) ∧ ∃ p : Regrown, w'' = Go.Sort.grow (redrawn W p.d) p.os := fun d os => Calls.regrown_of (hla _)
  have q4 : ∀ d os, Calls Tryz.prog 99 #[.agg #[.string bl, .string bh]] (Go.Sort.grow (redrawn W d) os) fun e w'' => e = .returned (.string bl) ∧ ∃ p : Regrown, w'' = Go.Sort.grow (redrawn W p.d) p.os := fun d os => Calls.regrown_of (hlb _)
  have q5 : ∀ d os, Calls Tryz.prog 101 #[.string al, .string bl] (Go.Sort.grow (redrawn W d) os) fun e w'' => e = .returned (.bool (ltB al bl)) ∧ ∃ p : Regrown, w'' = Go.Sort.grow (redrawn W p.d) p.os := fun d os => Calls.regrown_of (hbe _)
  have q6 : ∀ d os, Calls Tryz.prog 97 #[.agg #[.string al, .string ah]] (Go.Sort.grow (redrawn W d) os) fun e w'' => e = .returned (endV ah) ∧ ∃ p : Regrown, w'' = Go.Sort.grow (redrawn W p.d) p.os := fun d os => Calls.regrown_of (hha _)
  have q7 : ∀ d os, Calls Tryz.prog 97 #[.agg #[.string bl, .string bh]] (Go.Sort.grow (redrawn W d) os) fun e w'' => e = .returned (endV bh) ∧ ∃ p : Regrown, w'' = Go.Sort.grow (redrawn W p.d) p.os := fun d os => Calls.regrown_of (hhb _)
  have q8 : ∀ d os, Calls Tryz.prog 102 #[endV ah, endV bh] (Go.Sort.grow (redrawn W d) os) fun e w'' => e = .returned (.bool (inB ah bh)) ∧ ∃ p : Regrown, w'' = Go.Sort.grow (redrawn W p.d) p.os := fun d os => Calls.regrown_of (hin _)
  clear hra hrb hla hlb hha hhb hbe hin
  have f : rightB ⟨al, ah⟩ = false ∨ (rightB ⟨al, ah⟩ = true ∧ rightB ⟨bl, bh⟩ = false) ∨ (rightB ⟨al, ah⟩ = true ∧ rightB ⟨bl, bh⟩ = true ∧ ltB al bl = true) ∨ (rightB ⟨al, ah⟩ = true ∧ rightB ⟨bl, bh⟩ = true ∧ ltB al bl = false) := by
    cases rightB ⟨al, ah⟩ <;> cases rightB ⟨bl, bh⟩ <;> cases ltB al bl <;> simp
  rcases f with h1 | ⟨h1, h2⟩ | ⟨h1, h2, h3⟩ | ⟨h1, h2, h3⟩
  · rw [h1] at q1 er
    refine wp_region_quiet_below (by kernel_rfl) (by kernel_rfl) ?_
    repeat (quiet_step (first | (with_reducible exact q1 _ _) | (with_reducible exact q2 _ _) | (with_reducible exact q3 _ _) | (with_reducible exact q4 _ _) | (with_reducible exact q5 _ _) | (with_reducible exact q6 _ _) | (with_reducible exact q7 _ _) | (with_reducible exact q8 _ _)))
    refine wpQuiet_nil ?_
    intro _ hw'
    obtain ⟨⟨dq, osq⟩, hw''⟩ := hw'
    subst hw''
    go_wp2
    go_ret
    exact ⟨by rw [er.out]; first | rfl | simp, Ok.call hOk (below_regrown W dq osq)⟩
  · rw [h1] at q1 er; rw [h2] at q2 er
    refine wp_region_quiet_below (by kernel_rfl) (by kernel_rfl) ?_
    repeat (quiet_step (first | (with_reducible exact q1 _ _) | (with_reducible exact q2 _ _) | (with_reducible exact q3 _ _) | (with_reducible exact q4 _ _) | (with_reducible exact q5 _ _) | (with_reducible exact q6 _ _) | (with_reducible exact q7 _ _) | (with_reducible exact q8 _ _)))
    refine wpQuiet_nil ?_
    intro _ hw'
    obtain ⟨⟨dq, osq⟩, hw''⟩ := hw'
    subst hw''
    go_wp2
    go_ret
    exact ⟨by rw [er.out]; first | rfl | simp, Ok.call hOk (below_regrown W dq osq)⟩
  · rw [h1] at q1 er; rw [h2] at q2 er; rw [h3] at q5 er
    refine wp_region_quiet_below (by kernel_rfl) (by kernel_rfl) ?_
    repeat (quiet_step (first | (with_reducible exact q1 _ _) | (with_reducible exact q2 _ _) | (with_reducible exact q3 _ _) | (with_reducible exact q4 _ _) | (with_reducible exact q5 _ _) | (with_reducible exact q6 _ _) | (with_reducible exact q7 _ _) | (with_reducible exact q8 _ _)))
    refine wpQuiet_nil ?_
    intro _ hw'
    obtain ⟨⟨dq, osq⟩, hw''⟩ := hw'
    subst hw''
    go_wp2
    go_ret
    exact ⟨by rw [er.out]; first | rfl | simp, Ok.call hOk (below_regrown W dq osq)⟩
  · rw [h1] at q1 er; rw [h2] at q2 er; rw [h3] at q5 er
    refine wp_region_quiet_below (by kernel_rfl) (by kernel_rfl) ?_
    repeat (quiet_step (first | (with_reducible exact q1 _ _) | (with_reducible exact q2 _ _) | (with_reducible exact q3 _ _) | (with_reducible exact q4 _ _) | (with_reducible exact q5 _ _) | (with_reducible exact q6 _ _) | (with_reducible exact q7 _ _) | (with_reducible exact q8 _ _)))
    refine wpQuiet_nil ?_
    intro _ hw'
    obtain ⟨⟨dq, osq⟩, hw''⟩ := hw'
    subst hw''
    go_wp2
    go_ret
    exact ⟨by rw [er.out]; first | rfl | simp, Ok.call hOk (below_regrown W dq osq)⟩

end Go.Proofs.YtdabdkedgigjdaaGreat
