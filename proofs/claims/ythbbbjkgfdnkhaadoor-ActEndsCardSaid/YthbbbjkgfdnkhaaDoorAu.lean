/- The law of rounds, walked. -/
import Derived.Test.YthbbbjkgfdnkhaaDoorAt
import Derived.Test.YthbbbjkgfdnkhaaDoorAq
import Derived.Lib.QuietBelow
namespace Go.Proofs.YthbbbjkgfdnkhaaDoor
open Go.RowKit
structure HeldU (p : Prop) : Prop where
  out : p
theorem hqU_step {P : Program} {ops : Array Oper} {C : World → Prop} {Q : Act → Prop} {a : Act} {o : Oper} {rest : List Oper}
    (h : ∀ K : Act → Prop, (∀ a, HeldU (wpQuiet P ops C Q rest a) → K a) → if Region.wanted o (yielded ops a.tmps) then o.quiet P a C K else K (a.put o.dst undef)) : HeldU (wpQuiet P ops C Q (o :: rest) a) :=
  ⟨h (fun a => wpQuiet P ops C Q rest a) (fun _ h => h.out)⟩
theorem Ok.drewN {w w' : World} (h : Ok w w') (n : Nat) : Ok w (w'.drewN n) := Below.trans h ⟨rfl, rfl, rfl, Nat.le_refl _, fun _ _ => rfl⟩
theorem eq24 (a b c d : Int) (w : World) : (Op.equalIn 10000 24 (.agg #[.int .i64 a, .int .i64 b]) (.agg #[.int .i64 c, .int .i64 d])).run Tryd.prog w = .ok (a == c && b == d) w := by
  have u3 := Tryd.underlying3
  have a3 := Tryd.isAgg3
  have z3 := Tryd.sizeOf3
  have hS : Tryd.prog.underlying 24 = some (.struct (Tryd.prog.fieldsOf 24)) := by kernel_rfl
  have hp : Tryd.prog.stoodInHeld 24 = false := by kernel_rfl
  rw [show (10000 : Nat) = 9999 + 1 from rfl, run_equalIn_agg w 9999 24 _ _ hS hp]
  simp only [Program.fieldsOf, Tryd.underlying24]
  go_simp
  by_cases h1 : a = c <;> by_cases h2 : b = d <;> simp [h1, h2]
set_option maxRecDepth 100000 in
set_option maxHeartbeats 8000000 in
theorem round_w (n : Int) (hn64 : -9223372036854775808 ≤ n ∧ n ≤ 9223372036854775807) (A : Option Addr) (m c : Nat) (l : List Ac) (hm : l.length = m) (hz : Sz l) (ac an bc bn : Int) (w : World) (ht : Tb w) (hI : ActsAt w A l) :
    Calls Tryd.prog 7 #[.int .i64 n, .slice A m c, .agg #[.int .i64 ac, .int .i64 an], .agg #[.int .i64 bc, .int .i64 bn]] w (Ret w (.bool true)) := by
  obtain ⟨hn1, hn2⟩ := hn64
  have oa : Ok w ((w.alloc (.cells #[.int .i64 ac, .int .i64 an] 24)).alloc (.cells #[.int .i64 bc, .int .i64 bn] 24)) := ((Ok.refl w).alloc _).alloc _
  have B1 : ((w.alloc (.cells #[.int .i64 ac, .int .i64 an] 24)).alloc (.cells #[.int .i64 bc, .int .i64 bn] 24)).cell? ⟨w.heap.size, 0, none⟩ = some (.int .i64 ac) := by go_cell
  have B2 : ((w.alloc (.cells #[.int .i64 ac, .int .i64 an] 24)).alloc (.cells #[.int .i64 bc, .int .i64 bn] 24)).cell? ⟨w.heap.size, 1, none⟩ = some (.int .i64 an) := by go_cell
  have B3 : ((w.alloc (.cells #[.int .i64 ac, .int .i64 an] 24)).alloc (.cells #[.int .i64 bc, .int .i64 bn] 24)).cell? ⟨w.heap.size + 1, 0, none⟩ = some (.int .i64 bc) := by go_cell
  have B4 : ((w.alloc (.cells #[.int .i64 ac, .int .i64 an] 24)).alloc (.cells #[.int .i64 bc, .int .i64 bn] 24)).cell? ⟨w.heap.size + 1, 1, none⟩ = some (.int .i64 bn) := by go_cell
  have HAW := Lib.hid (awake_w _ (ht.ok oa))
  have HOA := Lib.hid oa
  have HI := Lib.hid hI
  have HM := Lib.hid hm
  have HT := Lib.hid ht
  have HG := Lib.hid (fun V (k : Ok w V) => great_w A m c l hm hz none 0 0 [] rfl (by decide) V (hI.ok k) (fun j hj => absurd hj (Nat.not_lt_zero _)))
  have HBX := Lib.hid (And.intro B1 (And.intro B2 (And.intro B3 B4)))
  clear hI hm hz ht oa B1 B2 B3 B4
  go_enter Tryd.func7, Tryd.ntmps7
  go_wp2_with fail
  generalize (w.alloc (.cells #[.int .i64 ac, .int .i64 an] 24)).alloc (.cells #[.int .i64 bc, .int .i64 bn] 24) = w0 at *
  generalize w.heap.size = p at *
  (with_reducible refine HAW.out.mono ?_)
  rintro _ w1 ⟨rfl, o1⟩
  have HO1 := Lib.hid (Ok.trans HOA.out o1)
  have HO01 := Lib.hid o1
  clear o1 HAW
  go_wp2_with fail
  (with_reducible refine (HG.out _ HO1.out).mono ?_)
  rintro _ w2 ⟨⟨r, rfl, hr⟩, o2⟩
  have HO2 := Lib.hid (Ok.trans HO1.out o2)
  have HO02 := Lib.hid (Ok.trans HO01.out o2)
  clear o2 HG
  cases r with
  | true =>
    go_wp2_with fail
    go_ret
    exact ⟨rfl, HO2.out⟩
  | false =>
    obtain ⟨h40, -, -⟩ := hr rfl
    rw [HM.out] at h40
    clear hr HO1 HO01
    have HKY := Lib.hid (fun V (k : Ok w V) => keys_w A m c l HM.out (by omega) V (HI.out.ok k))
    by_cases g1 : -1073741824 ≤ n
    · have d1 : decide (-1073741824 ≤ n) = true := decide_eq_true g1
      by_cases g2 : n ≤ 1073741824
      · have d2 : decide (n ≤ 1073741824) = true := decide_eq_true g2
        have HV := Lib.hid (value_w n w2 (HT.out.ok HO2.out))
        have HNV := Lib.hid (num_val n g1 g2)
        have hsz := valueT_size n
        have HNU := Lib.hid (fun V => number_w (valueT n) V (by omega))
        rw [HNV.out] at HNU
        clear g1 g2 hsz HNV
        generalize valueT n = vt at *
        have d3 : (n != n) = false := by simp
        go_wp2_with fail
        (with_reducible refine HV.out.mono ?_)
        rintro _ w3 ⟨rfl, o3⟩
        have HOV := Lib.hid (Ok.trans HO2.out o3)
        have HO0V := Lib.hid (Ok.trans HO02.out o3)
        clear o3 HO02 HO2
        go_wp2_with fail
        (with_reducible refine (HNU.out _).mono ?_)
        rintro _ w3 ⟨rfl, rfl⟩
        clear HNU HV
        go_wp2_with fail
        (with_reducible refine (HKY.out _ HOV.out).mono ?_)
        rintro _ w5 ⟨A5, n5, c5, rfl, hn5, htx, o5⟩
        have HO5 := Lib.hid (Ok.trans HOV.out o5)
        have HO05 := Lib.hid (Ok.trans HO0V.out o5)
        have HTX := Lib.hid htx
        have HN5 := Lib.hid hn5
        have hn540 : n5 ≤ 40 := by have := keysT_len l; rw [HM.out] at this; omega
        clear htx o5 hn5 HKY HO0V HOV
        go_wp2_with fail
        go_loopw [10, 11] (fun mv iv wr => ∃ i : Nat, i ≤ n5 ∧ iv = .int .i64 i ∧ mv = .int .i64 (many ((keysT l).take i) l : Nat) ∧ Ok w5 wr) (fun _ iv _ => n5 - (intOf iv).toNat)
        case atStart => exact ⟨0, Nat.zero_le _, rfl, rfl, Ok.refl _⟩
        case round =>
          obtain ⟨i, hi, rfl, rfl, okr⟩ := hrel
          have HOK5 := Lib.hid okr
          have HOKR := Lib.hid (Ok.trans HO5.out okr)
          clear okr
          by_cases hlt : i < n5
          · have d1i : decide ((i : Int) < (n5 : Int)) = true := decide_eq_true (by omega)
            obtain ⟨b, off, rfl, C1⟩ := (HTX.out.ok HOK5.out) i (by rw [← HN5.out]; exact hlt)
            have hik : i < (keysT l).length := by rw [← HN5.out]; exact hlt
            have HPOS := Lib.hid (of_pos l i hik)
            have HMT := Lib.hid (many_take (keysT l) l i hik)
            have hlim := many_lim (keysT l) l (i + 1) (rises_nodup (keysT_facts l).2)
            rw [HMT.out, HM.out] at hlim
            have HSUM := Lib.hid (Nat.le_trans hlim h40)
            have HOF := Lib.hid (fun V (k : Ok w V) => of_w ⟨((keysT l).getD i []).toArray⟩ A m c l HM.out (by omega) V (HI.out.ok k))
            rw [show (⟨((keysT l).getD i []).toArray⟩ : ByteArray).data.toList = (keysT l).getD i [] from List.toList_toArray] at HOF
            have hi0 : (0 : Int) ≤ (i : Int) := Int.natCast_nonneg _
            have hi1 : (i : Int) < (n5 : Int) := by omega
            clear hlim
            by_cases h0 : i = 0
            · subst h0
              simp only [Nat.add_zero] at C1
              generalize many ((keysT l).take 0) l = M at *
              generalize (⟨((keysT l).getD 0 []).toArray⟩ : ByteArray) = sy at *
              have hi2 : 0 < n5 := hlt
              clear hi0
              go_wp2_with fail
              go_quiet (fail)
              go_wp2_with fail
              (with_reducible refine (HOF.out _ (Ok.drewN HOKR.out _)).mono ?_)
              rintro _ w6 ⟨A6, n6, c6, rfl, own6, o6⟩
              have HO6 : Hid (Ok w5 w6) := Lib.hid (Ok.trans (Ok.drewN HOK5.out _) o6)
              have hn6 := own6.2
              have hpos2 : 0 < n6 := by rw [hn6]; exact HPOS.out
              have hsum : M + n6 ≤ 40 := by rw [hn6]; exact HSUM.out
              have HMT2 : Hid (many ((keysT l).take (0 + 1)) l = M + n6) := Lib.hid (by rw [hn6]; exact HMT.out)
              have d6 : ((n6 : Int) == 0) = false := by have : ¬ ((n6 : Int) = 0) := by omega
                                                        simpa using this
              clear own6 o6 hn6 HOF HPOS HSUM HMT
              go_wp2_with fail
              refine ⟨⟨0 + 1, hlt, by go_num, by rw [HMT2.out]; go_num, HO6.out⟩, by simp [intOf]; omega⟩
            · have d0 : decide ((0 : Int) < (i : Int)) = true := decide_eq_true (by omega)
              have d0n : decide (0 < i) = true := decide_eq_true (by omega)
              obtain ⟨b', off', e', C0⟩ := (HTX.out.ok HOK5.out) (i - 1) (by rw [← HN5.out]; omega)
              simp only [Option.some.injEq, Addr.mk.injEq, and_true] at e'
              obtain ⟨rfl, rfl⟩ := e'
              have dless : Op.bytesLess (⟨((keysT l).getD (i - 1) []).toArray⟩ : ByteArray).toList (⟨((keysT l).getD i []).toArray⟩ : ByteArray).toList = true := by
                rw [Go.ByteArray.toList_eq, Go.ByteArray.toList_eq]
                exact rises_lt (keysT_facts l).2 i (by omega) hik
              generalize many ((keysT l).take i) l = M at *
              generalize (⟨((keysT l).getD i []).toArray⟩ : ByteArray) = sy at *
              generalize (⟨((keysT l).getD (i - 1) []).toArray⟩ : ByteArray) = sx at *
              have hj0 : (0 : Int) ≤ (i : Int) - 1 := by omega
              have hj1 : (i : Int) - 1 < (n5 : Int) := by omega
              have hti : ((i : Int) - 1).toNat = i - 1 := by omega
              go_wp2_with fail
              go_quiet (fail)
              go_wp2_with fail
              (with_reducible refine (HOF.out _ (Ok.drewN HOKR.out _)).mono ?_)
              rintro _ w6 ⟨A6, n6, c6, rfl, own6, o6⟩
              have HO6 : Hid (Ok w5 w6) := Lib.hid (Ok.trans (Ok.drewN HOK5.out _) o6)
              have hn6 := own6.2
              have hpos2 : 0 < n6 := by rw [hn6]; exact HPOS.out
              have hsum : M + n6 ≤ 40 := by rw [hn6]; exact HSUM.out
              have HMT2 : Hid (many ((keysT l).take (i + 1)) l = M + n6) := Lib.hid (by rw [hn6]; exact HMT.out)
              have d6 : ((n6 : Int) == 0) = false := by have : ¬ ((n6 : Int) = 0) := by omega
                                                        simpa using this
              clear own6 o6 hn6 HOF HPOS HSUM HMT
              go_wp2_with fail
              refine ⟨⟨i + 1, hlt, by go_num, by rw [HMT2.out]; go_num, HO6.out⟩, by simp [intOf]; omega⟩
          · have d1i : decide ((i : Int) < (n5 : Int)) = false := decide_eq_false (by omega)
            have hmm : many ((keysT l).take i) l = m := by
              rw [List.take_of_length_le (by rw [← HN5.out]; omega), many_all, HM.out]
            rw [hmm]
            have deq : ((m : Int) == (m : Int)) = true := by simp
            obtain ⟨E0, E1, E2, E3⟩ := HBX.out
            have kE0 := cell_regrown (Ok.cell (Ok.trans HO05.out HOK5.out) E0)
            have kE1 := cell_regrown (Ok.cell (Ok.trans HO05.out HOK5.out) E1)
            have kE2 := cell_regrown (Ok.cell (Ok.trans HO05.out HOK5.out) E2)
            have kE3 := cell_regrown (Ok.cell (Ok.trans HO05.out HOK5.out) E3)
            clear E0 E1 E2 E3 hmm
            rcases old_ways ⟨ac, an⟩ ⟨bc, bn⟩ with ⟨e1, e2, e3⟩ | ⟨e1, e2, e3⟩ | ⟨e1, e2, e3, e4⟩
            · skip
              have q1 : ∀ d os, Calls Tryd.prog 18 #[.agg #[.int .i64 ac, .int .i64 an], .agg #[.int .i64 bc, .int .i64 bn]] (Go.Sort.grow (redrawn wr d) os) fun e w'' => e = .returned (.bool true) ∧ ∃ q : Regrown, w'' = Go.Sort.grow (redrawn wr q.d) q.os := fun d os => Calls.regrown_of (by have h := older_w ⟨ac, an⟩ ⟨bc, bn⟩ (Go.Sort.grow (redrawn wr d) os); rw [e1] at h; exact h)
              have q2 : ∀ d os, Calls Tryd.prog 18 #[.agg #[.int .i64 bc, .int .i64 bn], .agg #[.int .i64 ac, .int .i64 an]] (Go.Sort.grow (redrawn wr d) os) fun e w'' => e = .returned (.bool false) ∧ ∃ q : Regrown, w'' = Go.Sort.grow (redrawn wr q.d) q.os := fun d os => Calls.regrown_of (by have h := older_w ⟨bc, bn⟩ ⟨ac, an⟩ (Go.Sort.grow (redrawn wr d) os); rw [e2] at h; exact h)
              have hEq : ∀ w, (Op.equalIn 10000 24 (.agg #[.int .i64 ac, .int .i64 an]) (.agg #[.int .i64 bc, .int .i64 bn])).run Tryd.prog w = .ok false w := fun w => by rw [eq24]; congr 1; by_cases h1 : ac = bc <;> by_cases h2 : an = bn <;> simp_all
              clear e1 e2 e3
              go_wp2_with fail
              refine wp_region_quiet_below (by kernel_rfl) (by kernel_rfl) ?_
              refine HeldU.out ?_
              repeat (
                refine hqU_step (fun K hK => ?_)
                go_simp
                first
                  | (refine hK _ ?_; clear hK K)
                  | (apply Exists.intro
                     refine ⟨fun _ => ?_, hK _ ?_⟩
                     (with_reducible first
                       | exact q1 _ _
                       | exact q2 _ _)
                     clear hK K))
              refine HeldU.mk (wpQuiet_nil ?_)
              intro _ hw'
              obtain ⟨⟨dq, osq⟩, hw''⟩ := hw'
              subst hw''
              go_wp2_with fail
              go_ret
              exact ⟨rfl, Ok.trans HOKR.out (below_regrown wr dq osq)⟩
            · skip
              have q1 : ∀ d os, Calls Tryd.prog 18 #[.agg #[.int .i64 ac, .int .i64 an], .agg #[.int .i64 bc, .int .i64 bn]] (Go.Sort.grow (redrawn wr d) os) fun e w'' => e = .returned (.bool false) ∧ ∃ q : Regrown, w'' = Go.Sort.grow (redrawn wr q.d) q.os := fun d os => Calls.regrown_of (by have h := older_w ⟨ac, an⟩ ⟨bc, bn⟩ (Go.Sort.grow (redrawn wr d) os); rw [e1] at h; exact h)
              have q2 : ∀ d os, Calls Tryd.prog 18 #[.agg #[.int .i64 bc, .int .i64 bn], .agg #[.int .i64 ac, .int .i64 an]] (Go.Sort.grow (redrawn wr d) os) fun e w'' => e = .returned (.bool true) ∧ ∃ q : Regrown, w'' = Go.Sort.grow (redrawn wr q.d) q.os := fun d os => Calls.regrown_of (by have h := older_w ⟨bc, bn⟩ ⟨ac, an⟩ (Go.Sort.grow (redrawn wr d) os); rw [e2] at h; exact h)
              have hEq : ∀ w, (Op.equalIn 10000 24 (.agg #[.int .i64 ac, .int .i64 an]) (.agg #[.int .i64 bc, .int .i64 bn])).run Tryd.prog w = .ok false w := fun w => by rw [eq24]; congr 1; by_cases h1 : ac = bc <;> by_cases h2 : an = bn <;> simp_all
              clear e1 e2 e3
              go_wp2_with fail
              refine wp_region_quiet_below (by kernel_rfl) (by kernel_rfl) ?_
              refine HeldU.out ?_
              repeat (
                refine hqU_step (fun K hK => ?_)
                go_simp
                first
                  | (refine hK _ ?_; clear hK K)
                  | (apply Exists.intro
                     refine ⟨fun _ => ?_, hK _ ?_⟩
                     (with_reducible first
                       | exact q1 _ _
                       | exact q2 _ _)
                     clear hK K))
              refine HeldU.mk (wpQuiet_nil ?_)
              intro _ hw'
              obtain ⟨⟨dq, osq⟩, hw''⟩ := hw'
              subst hw''
              go_wp2_with fail
              go_ret
              exact ⟨rfl, Ok.trans HOKR.out (below_regrown wr dq osq)⟩
            · skip
              have q1 : ∀ d os, Calls Tryd.prog 18 #[.agg #[.int .i64 ac, .int .i64 an], .agg #[.int .i64 bc, .int .i64 bn]] (Go.Sort.grow (redrawn wr d) os) fun e w'' => e = .returned (.bool false) ∧ ∃ q : Regrown, w'' = Go.Sort.grow (redrawn wr q.d) q.os := fun d os => Calls.regrown_of (by have h := older_w ⟨ac, an⟩ ⟨bc, bn⟩ (Go.Sort.grow (redrawn wr d) os); rw [e1] at h; exact h)
              have q2 : ∀ d os, Calls Tryd.prog 18 #[.agg #[.int .i64 bc, .int .i64 bn], .agg #[.int .i64 ac, .int .i64 an]] (Go.Sort.grow (redrawn wr d) os) fun e w'' => e = .returned (.bool false) ∧ ∃ q : Regrown, w'' = Go.Sort.grow (redrawn wr q.d) q.os := fun d os => Calls.regrown_of (by have h := older_w ⟨bc, bn⟩ ⟨ac, an⟩ (Go.Sort.grow (redrawn wr d) os); rw [e2] at h; exact h)
              simp only at e3 e4
              have hEq : ∀ w, (Op.equalIn 10000 24 (.agg #[.int .i64 ac, .int .i64 an]) (.agg #[.int .i64 bc, .int .i64 bn])).run Tryd.prog w = .ok true w := fun w => by rw [eq24, e3, e4]; simp
              clear e1 e2 e3 e4
              go_wp2_with fail
              refine wp_region_quiet_below (by kernel_rfl) (by kernel_rfl) ?_
              refine HeldU.out ?_
              repeat (
                refine hqU_step (fun K hK => ?_)
                go_simp
                first
                  | (refine hK _ ?_; clear hK K)
                  | (apply Exists.intro
                     refine ⟨fun _ => ?_, hK _ ?_⟩
                     (with_reducible first
                       | exact q1 _ _
                       | exact q2 _ _)
                     clear hK K))
              refine HeldU.mk (wpQuiet_nil ?_)
              intro _ hw'
              obtain ⟨⟨dq, osq⟩, hw''⟩ := hw'
              subst hw''
              go_wp2_with fail
              go_ret
              exact ⟨rfl, Ok.trans HOKR.out (below_regrown wr dq osq)⟩
      · have d2 : decide (n ≤ 1073741824) = false := decide_eq_false g2
        go_wp2_with fail
        have HOV := HO2
        have HO0V := HO02
        (with_reducible refine (HKY.out _ HOV.out).mono ?_)
        rintro _ w5 ⟨A5, n5, c5, rfl, hn5, htx, o5⟩
        have HO5 := Lib.hid (Ok.trans HOV.out o5)
        have HO05 := Lib.hid (Ok.trans HO0V.out o5)
        have HTX := Lib.hid htx
        have HN5 := Lib.hid hn5
        have hn540 : n5 ≤ 40 := by have := keysT_len l; rw [HM.out] at this; omega
        clear htx o5 hn5 HKY HO0V HOV
        go_wp2_with fail
        go_loopw [10, 11] (fun mv iv wr => ∃ i : Nat, i ≤ n5 ∧ iv = .int .i64 i ∧ mv = .int .i64 (many ((keysT l).take i) l : Nat) ∧ Ok w5 wr) (fun _ iv _ => n5 - (intOf iv).toNat)
        case atStart => exact ⟨0, Nat.zero_le _, rfl, rfl, Ok.refl _⟩
        case round =>
          obtain ⟨i, hi, rfl, rfl, okr⟩ := hrel
          have HOK5 := Lib.hid okr
          have HOKR := Lib.hid (Ok.trans HO5.out okr)
          clear okr
          by_cases hlt : i < n5
          · have d1i : decide ((i : Int) < (n5 : Int)) = true := decide_eq_true (by omega)
            obtain ⟨b, off, rfl, C1⟩ := (HTX.out.ok HOK5.out) i (by rw [← HN5.out]; exact hlt)
            have hik : i < (keysT l).length := by rw [← HN5.out]; exact hlt
            have HPOS := Lib.hid (of_pos l i hik)
            have HMT := Lib.hid (many_take (keysT l) l i hik)
            have hlim := many_lim (keysT l) l (i + 1) (rises_nodup (keysT_facts l).2)
            rw [HMT.out, HM.out] at hlim
            have HSUM := Lib.hid (Nat.le_trans hlim h40)
            have HOF := Lib.hid (fun V (k : Ok w V) => of_w ⟨((keysT l).getD i []).toArray⟩ A m c l HM.out (by omega) V (HI.out.ok k))
            rw [show (⟨((keysT l).getD i []).toArray⟩ : ByteArray).data.toList = (keysT l).getD i [] from List.toList_toArray] at HOF
            have hi0 : (0 : Int) ≤ (i : Int) := Int.natCast_nonneg _
            have hi1 : (i : Int) < (n5 : Int) := by omega
            clear hlim
            by_cases h0 : i = 0
            · subst h0
              simp only [Nat.add_zero] at C1
              generalize many ((keysT l).take 0) l = M at *
              generalize (⟨((keysT l).getD 0 []).toArray⟩ : ByteArray) = sy at *
              have hi2 : 0 < n5 := hlt
              clear hi0
              go_wp2_with fail
              go_quiet (fail)
              go_wp2_with fail
              (with_reducible refine (HOF.out _ (Ok.drewN HOKR.out _)).mono ?_)
              rintro _ w6 ⟨A6, n6, c6, rfl, own6, o6⟩
              have HO6 : Hid (Ok w5 w6) := Lib.hid (Ok.trans (Ok.drewN HOK5.out _) o6)
              have hn6 := own6.2
              have hpos2 : 0 < n6 := by rw [hn6]; exact HPOS.out
              have hsum : M + n6 ≤ 40 := by rw [hn6]; exact HSUM.out
              have HMT2 : Hid (many ((keysT l).take (0 + 1)) l = M + n6) := Lib.hid (by rw [hn6]; exact HMT.out)
              have d6 : ((n6 : Int) == 0) = false := by have : ¬ ((n6 : Int) = 0) := by omega
                                                        simpa using this
              clear own6 o6 hn6 HOF HPOS HSUM HMT
              go_wp2_with fail
              refine ⟨⟨0 + 1, hlt, by go_num, by rw [HMT2.out]; go_num, HO6.out⟩, by simp [intOf]; omega⟩
            · have d0 : decide ((0 : Int) < (i : Int)) = true := decide_eq_true (by omega)
              have d0n : decide (0 < i) = true := decide_eq_true (by omega)
              obtain ⟨b', off', e', C0⟩ := (HTX.out.ok HOK5.out) (i - 1) (by rw [← HN5.out]; omega)
              simp only [Option.some.injEq, Addr.mk.injEq, and_true] at e'
              obtain ⟨rfl, rfl⟩ := e'
              have dless : Op.bytesLess (⟨((keysT l).getD (i - 1) []).toArray⟩ : ByteArray).toList (⟨((keysT l).getD i []).toArray⟩ : ByteArray).toList = true := by
                rw [Go.ByteArray.toList_eq, Go.ByteArray.toList_eq]
                exact rises_lt (keysT_facts l).2 i (by omega) hik
              generalize many ((keysT l).take i) l = M at *
              generalize (⟨((keysT l).getD i []).toArray⟩ : ByteArray) = sy at *
              generalize (⟨((keysT l).getD (i - 1) []).toArray⟩ : ByteArray) = sx at *
              have hj0 : (0 : Int) ≤ (i : Int) - 1 := by omega
              have hj1 : (i : Int) - 1 < (n5 : Int) := by omega
              have hti : ((i : Int) - 1).toNat = i - 1 := by omega
              go_wp2_with fail
              go_quiet (fail)
              go_wp2_with fail
              (with_reducible refine (HOF.out _ (Ok.drewN HOKR.out _)).mono ?_)
              rintro _ w6 ⟨A6, n6, c6, rfl, own6, o6⟩
              have HO6 : Hid (Ok w5 w6) := Lib.hid (Ok.trans (Ok.drewN HOK5.out _) o6)
              have hn6 := own6.2
              have hpos2 : 0 < n6 := by rw [hn6]; exact HPOS.out
              have hsum : M + n6 ≤ 40 := by rw [hn6]; exact HSUM.out
              have HMT2 : Hid (many ((keysT l).take (i + 1)) l = M + n6) := Lib.hid (by rw [hn6]; exact HMT.out)
              have d6 : ((n6 : Int) == 0) = false := by have : ¬ ((n6 : Int) = 0) := by omega
                                                        simpa using this
              clear own6 o6 hn6 HOF HPOS HSUM HMT
              go_wp2_with fail
              refine ⟨⟨i + 1, hlt, by go_num, by rw [HMT2.out]; go_num, HO6.out⟩, by simp [intOf]; omega⟩
          · have d1i : decide ((i : Int) < (n5 : Int)) = false := decide_eq_false (by omega)
            have hmm : many ((keysT l).take i) l = m := by
              rw [List.take_of_length_le (by rw [← HN5.out]; omega), many_all, HM.out]
            rw [hmm]
            have deq : ((m : Int) == (m : Int)) = true := by simp
            obtain ⟨E0, E1, E2, E3⟩ := HBX.out
            have kE0 := cell_regrown (Ok.cell (Ok.trans HO05.out HOK5.out) E0)
            have kE1 := cell_regrown (Ok.cell (Ok.trans HO05.out HOK5.out) E1)
            have kE2 := cell_regrown (Ok.cell (Ok.trans HO05.out HOK5.out) E2)
            have kE3 := cell_regrown (Ok.cell (Ok.trans HO05.out HOK5.out) E3)
            clear E0 E1 E2 E3 hmm
            rcases old_ways ⟨ac, an⟩ ⟨bc, bn⟩ with ⟨e1, e2, e3⟩ | ⟨e1, e2, e3⟩ | ⟨e1, e2, e3, e4⟩
            · skip
              have q1 : ∀ d os, Calls Tryd.prog 18 #[.agg #[.int .i64 ac, .int .i64 an], .agg #[.int .i64 bc, .int .i64 bn]] (Go.Sort.grow (redrawn wr d) os) fun e w'' => e = .returned (.bool true) ∧ ∃ q : Regrown, w'' = Go.Sort.grow (redrawn wr q.d) q.os := fun d os => Calls.regrown_of (by have h := older_w ⟨ac, an⟩ ⟨bc, bn⟩ (Go.Sort.grow (redrawn wr d) os); rw [e1] at h; exact h)
              have q2 : ∀ d os, Calls Tryd.prog 18 #[.agg #[.int .i64 bc, .int .i64 bn], .agg #[.int .i64 ac, .int .i64 an]] (Go.Sort.grow (redrawn wr d) os) fun e w'' => e = .returned (.bool false) ∧ ∃ q : Regrown, w'' = Go.Sort.grow (redrawn wr q.d) q.os := fun d os => Calls.regrown_of (by have h := older_w ⟨bc, bn⟩ ⟨ac, an⟩ (Go.Sort.grow (redrawn wr d) os); rw [e2] at h; exact h)
              have hEq : ∀ w, (Op.equalIn 10000 24 (.agg #[.int .i64 ac, .int .i64 an]) (.agg #[.int .i64 bc, .int .i64 bn])).run Tryd.prog w = .ok false w := fun w => by rw [eq24]; congr 1; by_cases h1 : ac = bc <;> by_cases h2 : an = bn <;> simp_all
              clear e1 e2 e3
              go_wp2_with fail
              refine wp_region_quiet_below (by kernel_rfl) (by kernel_rfl) ?_
              refine HeldU.out ?_
              repeat (
                refine hqU_step (fun K hK => ?_)
                go_simp
                first
                  | (refine hK _ ?_; clear hK K)
                  | (apply Exists.intro
                     refine ⟨fun _ => ?_, hK _ ?_⟩
                     (with_reducible first
                       | exact q1 _ _
                       | exact q2 _ _)
                     clear hK K))
              refine HeldU.mk (wpQuiet_nil ?_)
              intro _ hw'
              obtain ⟨⟨dq, osq⟩, hw''⟩ := hw'
              subst hw''
              go_wp2_with fail
              go_ret
              exact ⟨rfl, Ok.trans HOKR.out (below_regrown wr dq osq)⟩
            · skip
              have q1 : ∀ d os, Calls Tryd.prog 18 #[.agg #[.int .i64 ac, .int .i64 an], .agg #[.int .i64 bc, .int .i64 bn]] (Go.Sort.grow (redrawn wr d) os) fun e w'' => e = .returned (.bool false) ∧ ∃ q : Regrown, w'' = Go.Sort.grow (redrawn wr q.d) q.os := fun d os => Calls.regrown_of (by have h := older_w ⟨ac, an⟩ ⟨bc, bn⟩ (Go.Sort.grow (redrawn wr d) os); rw [e1] at h; exact h)
              have q2 : ∀ d os, Calls Tryd.prog 18 #[.agg #[.int .i64 bc, .int .i64 bn], .agg #[.int .i64 ac, .int .i64 an]] (Go.Sort.grow (redrawn wr d) os) fun e w'' => e = .returned (.bool true) ∧ ∃ q : Regrown, w'' = Go.Sort.grow (redrawn wr q.d) q.os := fun d os => Calls.regrown_of (by have h := older_w ⟨bc, bn⟩ ⟨ac, an⟩ (Go.Sort.grow (redrawn wr d) os); rw [e2] at h; exact h)
              have hEq : ∀ w, (Op.equalIn 10000 24 (.agg #[.int .i64 ac, .int .i64 an]) (.agg #[.int .i64 bc, .int .i64 bn])).run Tryd.prog w = .ok false w := fun w => by rw [eq24]; congr 1; by_cases h1 : ac = bc <;> by_cases h2 : an = bn <;> simp_all
              clear e1 e2 e3
              go_wp2_with fail
              refine wp_region_quiet_below (by kernel_rfl) (by kernel_rfl) ?_
              refine HeldU.out ?_
              repeat (
                refine hqU_step (fun K hK => ?_)
                go_simp
                first
                  | (refine hK _ ?_; clear hK K)
                  | (apply Exists.intro
                     refine ⟨fun _ => ?_, hK _ ?_⟩
                     (with_reducible first
                       | exact q1 _ _
                       | exact q2 _ _)
                     clear hK K))
              refine HeldU.mk (wpQuiet_nil ?_)
              intro _ hw'
              obtain ⟨⟨dq, osq⟩, hw''⟩ := hw'
              subst hw''
              go_wp2_with fail
              go_ret
              exact ⟨rfl, Ok.trans HOKR.out (below_regrown wr dq osq)⟩
            · skip
              have q1 : ∀ d os, Calls Tryd.prog 18 #[.agg #[.int .i64 ac, .int .i64 an], .agg #[.int .i64 bc, .int .i64 bn]] (Go.Sort.grow (redrawn wr d) os) fun e w'' => e = .returned (.bool false) ∧ ∃ q : Regrown, w'' = Go.Sort.grow (redrawn wr q.d) q.os := fun d os => Calls.regrown_of (by have h := older_w ⟨ac, an⟩ ⟨bc, bn⟩ (Go.Sort.grow (redrawn wr d) os); rw [e1] at h; exact h)
              have q2 : ∀ d os, Calls Tryd.prog 18 #[.agg #[.int .i64 bc, .int .i64 bn], .agg #[.int .i64 ac, .int .i64 an]] (Go.Sort.grow (redrawn wr d) os) fun e w'' => e = .returned (.bool false) ∧ ∃ q : Regrown, w'' = Go.Sort.grow (redrawn wr q.d) q.os := fun d os => Calls.regrown_of (by have h := older_w ⟨bc, bn⟩ ⟨ac, an⟩ (Go.Sort.grow (redrawn wr d) os); rw [e2] at h; exact h)
              simp only at e3 e4
              have hEq : ∀ w, (Op.equalIn 10000 24 (.agg #[.int .i64 ac, .int .i64 an]) (.agg #[.int .i64 bc, .int .i64 bn])).run Tryd.prog w = .ok true w := fun w => by rw [eq24, e3, e4]; simp
              clear e1 e2 e3 e4
              go_wp2_with fail
              refine wp_region_quiet_below (by kernel_rfl) (by kernel_rfl) ?_
              refine HeldU.out ?_
              repeat (
                refine hqU_step (fun K hK => ?_)
                go_simp
                first
                  | (refine hK _ ?_; clear hK K)
                  | (apply Exists.intro
                     refine ⟨fun _ => ?_, hK _ ?_⟩
                     (with_reducible first
                       | exact q1 _ _
                       | exact q2 _ _)
                     clear hK K))
              refine HeldU.mk (wpQuiet_nil ?_)
              intro _ hw'
              obtain ⟨⟨dq, osq⟩, hw''⟩ := hw'
              subst hw''
              go_wp2_with fail
              go_ret
              exact ⟨rfl, Ok.trans HOKR.out (below_regrown wr dq osq)⟩
    · have d1 : decide (-1073741824 ≤ n) = false := decide_eq_false g1
      go_wp2_with fail
      have HOV := HO2
      have HO0V := HO02
      (with_reducible refine (HKY.out _ HOV.out).mono ?_)
      rintro _ w5 ⟨A5, n5, c5, rfl, hn5, htx, o5⟩
      have HO5 := Lib.hid (Ok.trans HOV.out o5)
      have HO05 := Lib.hid (Ok.trans HO0V.out o5)
      have HTX := Lib.hid htx
      have HN5 := Lib.hid hn5
      have hn540 : n5 ≤ 40 := by have := keysT_len l; rw [HM.out] at this; omega
      clear htx o5 hn5 HKY HO0V HOV
      go_wp2_with fail
      go_loopw [10, 11] (fun mv iv wr => ∃ i : Nat, i ≤ n5 ∧ iv = .int .i64 i ∧ mv = .int .i64 (many ((keysT l).take i) l : Nat) ∧ Ok w5 wr) (fun _ iv _ => n5 - (intOf iv).toNat)
      case atStart => exact ⟨0, Nat.zero_le _, rfl, rfl, Ok.refl _⟩
      case round =>
        obtain ⟨i, hi, rfl, rfl, okr⟩ := hrel
        have HOK5 := Lib.hid okr
        have HOKR := Lib.hid (Ok.trans HO5.out okr)
        clear okr
        by_cases hlt : i < n5
        · have d1i : decide ((i : Int) < (n5 : Int)) = true := decide_eq_true (by omega)
          obtain ⟨b, off, rfl, C1⟩ := (HTX.out.ok HOK5.out) i (by rw [← HN5.out]; exact hlt)
          have hik : i < (keysT l).length := by rw [← HN5.out]; exact hlt
          have HPOS := Lib.hid (of_pos l i hik)
          have HMT := Lib.hid (many_take (keysT l) l i hik)
          have hlim := many_lim (keysT l) l (i + 1) (rises_nodup (keysT_facts l).2)
          rw [HMT.out, HM.out] at hlim
          have HSUM := Lib.hid (Nat.le_trans hlim h40)
          have HOF := Lib.hid (fun V (k : Ok w V) => of_w ⟨((keysT l).getD i []).toArray⟩ A m c l HM.out (by omega) V (HI.out.ok k))
          rw [show (⟨((keysT l).getD i []).toArray⟩ : ByteArray).data.toList = (keysT l).getD i [] from List.toList_toArray] at HOF
          have hi0 : (0 : Int) ≤ (i : Int) := Int.natCast_nonneg _
          have hi1 : (i : Int) < (n5 : Int) := by omega
          clear hlim
          by_cases h0 : i = 0
          · subst h0
            simp only [Nat.add_zero] at C1
            generalize many ((keysT l).take 0) l = M at *
            generalize (⟨((keysT l).getD 0 []).toArray⟩ : ByteArray) = sy at *
            have hi2 : 0 < n5 := hlt
            clear hi0
            go_wp2_with fail
            go_quiet (fail)
            go_wp2_with fail
            (with_reducible refine (HOF.out _ (Ok.drewN HOKR.out _)).mono ?_)
            rintro _ w6 ⟨A6, n6, c6, rfl, own6, o6⟩
            have HO6 : Hid (Ok w5 w6) := Lib.hid (Ok.trans (Ok.drewN HOK5.out _) o6)
            have hn6 := own6.2
            have hpos2 : 0 < n6 := by rw [hn6]; exact HPOS.out
            have hsum : M + n6 ≤ 40 := by rw [hn6]; exact HSUM.out
            have HMT2 : Hid (many ((keysT l).take (0 + 1)) l = M + n6) := Lib.hid (by rw [hn6]; exact HMT.out)
            have d6 : ((n6 : Int) == 0) = false := by have : ¬ ((n6 : Int) = 0) := by omega
                                                      simpa using this
            clear own6 o6 hn6 HOF HPOS HSUM HMT
            go_wp2_with fail
            refine ⟨⟨0 + 1, hlt, by go_num, by rw [HMT2.out]; go_num, HO6.out⟩, by simp [intOf]; omega⟩
          · have d0 : decide ((0 : Int) < (i : Int)) = true := decide_eq_true (by omega)
            have d0n : decide (0 < i) = true := decide_eq_true (by omega)
            obtain ⟨b', off', e', C0⟩ := (HTX.out.ok HOK5.out) (i - 1) (by rw [← HN5.out]; omega)
            simp only [Option.some.injEq, Addr.mk.injEq, and_true] at e'
            obtain ⟨rfl, rfl⟩ := e'
            have dless : Op.bytesLess (⟨((keysT l).getD (i - 1) []).toArray⟩ : ByteArray).toList (⟨((keysT l).getD i []).toArray⟩ : ByteArray).toList = true := by
              rw [Go.ByteArray.toList_eq, Go.ByteArray.toList_eq]
              exact rises_lt (keysT_facts l).2 i (by omega) hik
            generalize many ((keysT l).take i) l = M at *
            generalize (⟨((keysT l).getD i []).toArray⟩ : ByteArray) = sy at *
            generalize (⟨((keysT l).getD (i - 1) []).toArray⟩ : ByteArray) = sx at *
            have hj0 : (0 : Int) ≤ (i : Int) - 1 := by omega
            have hj1 : (i : Int) - 1 < (n5 : Int) := by omega
            have hti : ((i : Int) - 1).toNat = i - 1 := by omega
            go_wp2_with fail
            go_quiet (fail)
            go_wp2_with fail
            (with_reducible refine (HOF.out _ (Ok.drewN HOKR.out _)).mono ?_)
            rintro _ w6 ⟨A6, n6, c6, rfl, own6, o6⟩
            have HO6 : Hid (Ok w5 w6) := Lib.hid (Ok.trans (Ok.drewN HOK5.out _) o6)
            have hn6 := own6.2
            have hpos2 : 0 < n6 := by rw [hn6]; exact HPOS.out
            have hsum : M + n6 ≤ 40 := by rw [hn6]; exact HSUM.out
            have HMT2 : Hid (many ((keysT l).take (i + 1)) l = M + n6) := Lib.hid (by rw [hn6]; exact HMT.out)
            have d6 : ((n6 : Int) == 0) = false := by have : ¬ ((n6 : Int) = 0) := by omega
                                                      simpa using this
            clear own6 o6 hn6 HOF HPOS HSUM HMT
            go_wp2_with fail
            refine ⟨⟨i + 1, hlt, by go_num, by rw [HMT2.out]; go_num, HO6.out⟩, by simp [intOf]; omega⟩
        · have d1i : decide ((i : Int) < (n5 : Int)) = false := decide_eq_false (by omega)
          have hmm : many ((keysT l).take i) l = m := by
            rw [List.take_of_length_le (by rw [← HN5.out]; omega), many_all, HM.out]
          rw [hmm]
          have deq : ((m : Int) == (m : Int)) = true := by simp
          obtain ⟨E0, E1, E2, E3⟩ := HBX.out
          have kE0 := cell_regrown (Ok.cell (Ok.trans HO05.out HOK5.out) E0)
          have kE1 := cell_regrown (Ok.cell (Ok.trans HO05.out HOK5.out) E1)
          have kE2 := cell_regrown (Ok.cell (Ok.trans HO05.out HOK5.out) E2)
          have kE3 := cell_regrown (Ok.cell (Ok.trans HO05.out HOK5.out) E3)
          clear E0 E1 E2 E3 hmm
          rcases old_ways ⟨ac, an⟩ ⟨bc, bn⟩ with ⟨e1, e2, e3⟩ | ⟨e1, e2, e3⟩ | ⟨e1, e2, e3, e4⟩
          · skip
            have q1 : ∀ d os, Calls Tryd.prog 18 #[.agg #[.int .i64 ac, .int .i64 an], .agg #[.int .i64 bc, .int .i64 bn]] (Go.Sort.grow (redrawn wr d) os) fun e w'' => e = .returned (.bool true) ∧ ∃ q : Regrown, w'' = Go.Sort.grow (redrawn wr q.d) q.os := fun d os => Calls.regrown_of (by have h := older_w ⟨ac, an⟩ ⟨bc, bn⟩ (Go.Sort.grow (redrawn wr d) os); rw [e1] at h; exact h)
            have q2 : ∀ d os, Calls Tryd.prog 18 #[.agg #[.int .i64 bc, .int .i64 bn], .agg #[.int .i64 ac, .int .i64 an]] (Go.Sort.grow (redrawn wr d) os) fun e w'' => e = .returned (.bool false) ∧ ∃ q : Regrown, w'' = Go.Sort.grow (redrawn wr q.d) q.os := fun d os => Calls.regrown_of (by have h := older_w ⟨bc, bn⟩ ⟨ac, an⟩ (Go.Sort.grow (redrawn wr d) os); rw [e2] at h; exact h)
            have hEq : ∀ w, (Op.equalIn 10000 24 (.agg #[.int .i64 ac, .int .i64 an]) (.agg #[.int .i64 bc, .int .i64 bn])).run Tryd.prog w = .ok false w := fun w => by rw [eq24]; congr 1; by_cases h1 : ac = bc <;> by_cases h2 : an = bn <;> simp_all
            clear e1 e2 e3
            go_wp2_with fail
            refine wp_region_quiet_below (by kernel_rfl) (by kernel_rfl) ?_
            refine HeldU.out ?_
            repeat (
              refine hqU_step (fun K hK => ?_)
              go_simp
              first
                | (refine hK _ ?_; clear hK K)
                | (apply Exists.intro
                   refine ⟨fun _ => ?_, hK _ ?_⟩
                   (with_reducible first
                     | exact q1 _ _
                     | exact q2 _ _)
                   clear hK K))
            refine HeldU.mk (wpQuiet_nil ?_)
            intro _ hw'
            obtain ⟨⟨dq, osq⟩, hw''⟩ := hw'
            subst hw''
            go_wp2_with fail
            go_ret
            exact ⟨rfl, Ok.trans HOKR.out (below_regrown wr dq osq)⟩
          · skip
            have q1 : ∀ d os, Calls Tryd.prog 18 #[.agg #[.int .i64 ac, .int .i64 an], .agg #[.int .i64 bc, .int .i64 bn]] (Go.Sort.grow (redrawn wr d) os) fun e w'' => e = .returned (.bool false) ∧ ∃ q : Regrown, w'' = Go.Sort.grow (redrawn wr q.d) q.os := fun d os => Calls.regrown_of (by have h := older_w ⟨ac, an⟩ ⟨bc, bn⟩ (Go.Sort.grow (redrawn wr d) os); rw [e1] at h; exact h)
            have q2 : ∀ d os, Calls Tryd.prog 18 #[.agg #[.int .i64 bc, .int .i64 bn], .agg #[.int .i64 ac, .int .i64 an]] (Go.Sort.grow (redrawn wr d) os) fun e w'' => e = .returned (.bool true) ∧ ∃ q : Regrown, w'' = Go.Sort.grow (redrawn wr q.d) q.os := fun d os => Calls.regrown_of (by have h := older_w ⟨bc, bn⟩ ⟨ac, an⟩ (Go.Sort.grow (redrawn wr d) os); rw [e2] at h; exact h)
            have hEq : ∀ w, (Op.equalIn 10000 24 (.agg #[.int .i64 ac, .int .i64 an]) (.agg #[.int .i64 bc, .int .i64 bn])).run Tryd.prog w = .ok false w := fun w => by rw [eq24]; congr 1; by_cases h1 : ac = bc <;> by_cases h2 : an = bn <;> simp_all
            clear e1 e2 e3
            go_wp2_with fail
            refine wp_region_quiet_below (by kernel_rfl) (by kernel_rfl) ?_
            refine HeldU.out ?_
            repeat (
              refine hqU_step (fun K hK => ?_)
              go_simp
              first
                | (refine hK _ ?_; clear hK K)
                | (apply Exists.intro
                   refine ⟨fun _ => ?_, hK _ ?_⟩
                   (with_reducible first
                     | exact q1 _ _
                     | exact q2 _ _)
                   clear hK K))
            refine HeldU.mk (wpQuiet_nil ?_)
            intro _ hw'
            obtain ⟨⟨dq, osq⟩, hw''⟩ := hw'
            subst hw''
            go_wp2_with fail
            go_ret
            exact ⟨rfl, Ok.trans HOKR.out (below_regrown wr dq osq)⟩
          · skip
            have q1 : ∀ d os, Calls Tryd.prog 18 #[.agg #[.int .i64 ac, .int .i64 an], .agg #[.int .i64 bc, .int .i64 bn]] (Go.Sort.grow (redrawn wr d) os) fun e w'' => e = .returned (.bool false) ∧ ∃ q : Regrown, w'' = Go.Sort.grow (redrawn wr q.d) q.os := fun d os => Calls.regrown_of (by have h := older_w ⟨ac, an⟩ ⟨bc, bn⟩ (Go.Sort.grow (redrawn wr d) os); rw [e1] at h; exact h)
            have q2 : ∀ d os, Calls Tryd.prog 18 #[.agg #[.int .i64 bc, .int .i64 bn], .agg #[.int .i64 ac, .int .i64 an]] (Go.Sort.grow (redrawn wr d) os) fun e w'' => e = .returned (.bool false) ∧ ∃ q : Regrown, w'' = Go.Sort.grow (redrawn wr q.d) q.os := fun d os => Calls.regrown_of (by have h := older_w ⟨bc, bn⟩ ⟨ac, an⟩ (Go.Sort.grow (redrawn wr d) os); rw [e2] at h; exact h)
            simp only at e3 e4
            have hEq : ∀ w, (Op.equalIn 10000 24 (.agg #[.int .i64 ac, .int .i64 an]) (.agg #[.int .i64 bc, .int .i64 bn])).run Tryd.prog w = .ok true w := fun w => by rw [eq24, e3, e4]; simp
            clear e1 e2 e3 e4
            go_wp2_with fail
            refine wp_region_quiet_below (by kernel_rfl) (by kernel_rfl) ?_
            refine HeldU.out ?_
            repeat (
              refine hqU_step (fun K hK => ?_)
              go_simp
              first
                | (refine hK _ ?_; clear hK K)
                | (apply Exists.intro
                   refine ⟨fun _ => ?_, hK _ ?_⟩
                   (with_reducible first
                     | exact q1 _ _
                     | exact q2 _ _)
                   clear hK K))
            refine HeldU.mk (wpQuiet_nil ?_)
            intro _ hw'
            obtain ⟨⟨dq, osq⟩, hw''⟩ := hw'
            subst hw''
            go_wp2_with fail
            go_ret
            exact ⟨rfl, Ok.trans HOKR.out (below_regrown wr dq osq)⟩
end Go.Proofs.YthbbbjkgfdnkhaaDoor
