/- The law PastReads, walked. -/
import Derived.Test.YtnjaiiifafbbjaaPg
namespace Go.Proofs.Ytnjaiiifafbbjaa
open Go.RowKit

set_option maxRecDepth 100000 in
set_option maxHeartbeats 8000000 in
theorem pastReads_w (v : Value) (xs : List B8) (w : World) (h : BytesIn w v xs) : Calls Try.prog 8 #[v] w (Ret w (.bool true)) := by
  obtain ⟨A, c, rfl, _⟩ := h.form
  have HB := Lib.hid h
  obtain ⟨L, hL⟩ : ∃ L, xs.length = L := ⟨_, rfl⟩
  have HL := Lib.hid hL
  rw [hL] at HB ⊢
  clear h hL
  by_cases hbig : 1000 < L
  · have d1 : decide ((1000 : Int) < (L : Int)) = true := decide_eq_true (by omega)
    go_enter Try.func8, Try.ntmps8
    go_wp2_with fail
    refine (awake_w _).mono ?_
    rintro _ w1 ⟨rfl, o1⟩
    go_wp2
    go_ret
    exact ⟨rfl, o1⟩
  · have d1 : decide ((1000 : Int) < (L : Int)) = false := decide_eq_false (by omega)
    go_enter Try.func8, Try.ntmps8
    go_wp2_with fail
    refine (newReader_r w _ xs HB.out (by rw [HL.out]; omega)).mono ?_
    rintro _ w1 ⟨W0, g, rfl, hr, hok0, hg⟩
    have hWg : W0.heap.size ≤ g := hr.1
    have ok1 : Ok w w1 := hok0.trans hr.2.1
    have hm : w1.heap.size = g + 1 := by omega
    obtain ⟨m, hmm⟩ : ∃ m, w1.heap.size = m := ⟨_, rfl⟩
    have hgm : g < m := by omega
    have hwg : w.heap.size ≤ g := Nat.le_trans hok0.size hWg
    have hRf : Hid (Rf w m (w1.alloc (.cells #[.slice A L c, .bool false] 121)) xs false) := Lib.hid (by
      subst hmm
      refine ⟨by omega, Ok.alloc ok1 _, ⟨_, HB.out, ?_⟩, ?_, World.frozen?_alloc_at _ _ _ _ rfl, World.frozen?_alloc_at _ _ _ _ rfl⟩
      all_goals (rw [World.cell?_alloc_at _ _ _ _ rfl]; rfl))
    have o2 : Ok w1 (w1.alloc (.cells #[.slice A L c, .bool false] 121)) := Ok.alloc (Ok.refl _) _
    have hs2 : m < (w1.alloc (.cells #[.slice A L c, .bool false] 121)).heap.size := by simp; omega
    have HR2 := Lib.hid (hr.ok o2)
    have HO2 := Lib.hid (ok1.trans o2)
    have HMM := Lib.hid hmm
    clear hr o2 hok0 hm hg hmm ok1
    go_wp2_with fail
    generalize w1.alloc (.cells #[.slice A L c, .bool false] 121) = w2 at *
    rw [HMM.out]
    refine (read_p W0 g w2 xs HR2.out).mono ?_
    rintro _ w3 ⟨hr3, hm3, hc3⟩
    have HR3 := Lib.hid hr3
    have HM3 := Lib.hid hm3
    have HRf3 := Lib.hid (hRf.out.mv hm3 hwg (by omega) (by omega))
    have HX8 := Lib.hid (stM_ok xs 8)
    have hs3 : m < w3.heap.size := Nat.lt_of_lt_of_le hs2 hm3.2.2.2.1
    have HO3 : Hid (Ok w w3) := Lib.hid (Below.trans HO2.out (hm3.below hwg (by omega)))
    clear hr3 hm3
    have hz : g < w2.heap.size := by omega
    rcases hc3 with ⟨hf, rfl⟩ | ⟨hf, rfl, hpa⟩
    · have HF := Lib.hid hf
      clear hf
      go_wp2_with fail
      refine (rread_p w m w3 xs HRf3.out).mono ?_
      rintro _ w4 ⟨hr4, hm4, hc4⟩
      have HO4 : Hid (Ok w w4) := Lib.hid (Below.trans HO3.out (hm4.below (by omega) (by omega)))
      rcases hc4 with ⟨_, rfl⟩ | ⟨hf2, _⟩
      · clear hr4 hm4
        have q1 : ∀ d os, Calls Try.prog 43 #[] (Go.Sort.grow (redrawn w4 d) os) fun e w'' => e = .returned (.bool true) ∧ ∃ q : Regrown, w'' = Go.Sort.grow (redrawn w4 q.d) q.os := fun d os => Calls.regrown_of (awake_w _)
        go_wp2_with fail
        refine wp_region_quiet_below (by kernel_rfl) (by kernel_rfl) ?_
        refine HeldU.out ?_
        repeat (
          refine hqU_step (fun K hK => ?_)
          go_simp
          first
            | (refine hK _ ?_; clear hK K)
            | (apply Exists.intro
               refine ⟨fun _ => ?_, hK _ ?_⟩
               (with_reducible first
                 | exact q1 _ _)
               clear hK K))
        refine HeldU.mk (wpQuiet_nil ?_)
        intro _ hw'
        obtain ⟨⟨dq, osq⟩, hw''⟩ := hw'
        subst hw''
        go_wp2
        go_ret
        exact ⟨rfl, Ok.trans HO4.out (below_regrown w4 dq osq)⟩
      · rw [HF.out] at hf2; cases hf2
    · have HF := Lib.hid hf
      have HPA := Lib.hid hpa
      clear hf hpa
      go_wp2_with fail
      refine (rread_p w m w3 xs HRf3.out).mono ?_
      rintro _ w4 ⟨hr4, hm4, hc4⟩
      have HO4 : Hid (Ok w w4) := Lib.hid (Below.trans HO3.out (hm4.below (by omega) (by omega)))
      rcases hc4 with ⟨hf2, _⟩ | ⟨_, rfl, hpb⟩
      · rw [HF.out] at hf2; cases hf2
      · have HPB := Lib.hid hpb
        have HPA4 := Lib.hid (hm4.past (by omega) HPA.out)
        have HR4 := Lib.hid (HR3.out.mv hm4 hgm (by omega))
        obtain ⟨_, _, ⟨v4, hv4, h40⟩, _⟩ := hr4
        obtain ⟨A4, c4, rfl, _⟩ := hv4.form
        have hnil := stM_ok xs 8
        have hfm := HF.out
        clear hm4 hpb hv4
        generalize (stM xs 8).1 = ys at *
        generalize (stM xs 8).2 = f8 at *
        generalize upto xs 8 = fu at *
        have q1 : ∀ d os, Calls Try.prog 43 #[] (Go.Sort.grow (redrawn w4 d) os) fun e w'' => e = .returned (.bool true) ∧ ∃ q : Regrown, w'' = Go.Sort.grow (redrawn w4 q.d) q.os := fun d os => Calls.regrown_of (awake_w _)
        have q2 : ∀ d os, Calls Try.prog 50 #[.pointer (some ⟨w2.heap.size, 0, none⟩), .pointer (some ⟨w3.heap.size, 0, none⟩)] (Go.Sort.grow (redrawn w4 d) os) fun e w'' => e = .returned (.bool true) ∧ ∃ q : Regrown, w'' = Go.Sort.grow (redrawn w4 q.d) q.os := fun d os => (same_w _ _ _ _ (HPA4.out.ok (below_regrown w4 d os)) (HPB.out.ok (below_regrown w4 d os))).mono fun e w'' ⟨he, hw⟩ => ⟨he, ⟨d, os⟩, hw.symm⟩
        have q3 : ∀ d os, Calls Try.prog 64 #[.pointer (some ⟨g, 0, none⟩)] (Go.Sort.grow (redrawn w4 d) os) fun e w'' => e = .returned (.int .i64 (ys.length : Int)) ∧ ∃ q : Regrown, w'' = Go.Sort.grow (redrawn w4 q.d) q.os := fun d os => (left_r W0 g _ ys f8 (HR4.out.ok (below_regrown w4 d os)) hnil).mono fun e w'' ⟨he, hw⟩ => ⟨he, ⟨d, os⟩, hw.symm⟩
        have k40 := cell_regrown h40
        clear hnil hfm
        generalize ys.length = ly at *
        have dl : ((ly : Int) == (ly : Int)) = true := beq_self_eq_true _
        go_wp2_with fail
        refine wp_region_quiet_below (by kernel_rfl) (by kernel_rfl) ?_
        refine HeldU.out ?_
        repeat (
          refine hqU_step (fun K hK => ?_)
          go_simp
          first
            | (refine hK _ ?_; clear hK K)
            | (apply Exists.intro
               refine ⟨fun _ => ?_, hK _ ?_⟩
               (with_reducible first
                 | exact q1 _ _
                 | exact q2 _ _
                 | exact q3 _ _)
               clear hK K))
        refine HeldU.mk (wpQuiet_nil ?_)
        intro _ hw'
        obtain ⟨⟨dq, osq⟩, hw''⟩ := hw'
        subst hw''
        go_wp2
        go_ret
        exact ⟨rfl, Ok.trans HO4.out (below_regrown w4 dq osq)⟩
end Go.Proofs.Ytnjaiiifafbbjaa
