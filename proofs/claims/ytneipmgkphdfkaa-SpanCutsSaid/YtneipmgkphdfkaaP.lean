/- The law SpanCuts, walked. -/
import Derived.Test.YtneipmgkphdfkaaO
namespace Go.Proofs.Ytneipmgkphdfkaa
open Go.RowKit

theorem four_own (w : World) (a b c d : Str) : OwnT (w.alloc (.cells #[.string a, .string b, .string c, .string d] 9)) w.heap.size (.slice (some ⟨w.heap.size, 0, none⟩) 4 4) [a, b, c, d] := by
  refine ⟨by simp, .inr ⟨w.heap.size, 4, #[.string a, .string b, .string c, .string d], rfl, Nat.le_refl _, ?_, by simp, by decide, by simp, by simp⟩⟩
  show (w.heap.push _)[w.heap.size]? = _
  simp

set_option maxRecDepth 100000 in
set_option maxHeartbeats 40000000 in
theorem spanCuts_w (s t : Sp) (va vk : Value) (zs ks : List Str) (w : World) (ha : StrsN w.heap.size w va zs) (hk : StrsN w.heap.size w vk ks) : Calls Try.prog 6 #[spV s, spV t, va, vk] w (Ret w (.bool true)) := by
  obtain ⟨Aa, ca, rfl⟩ := ha.form
  obtain ⟨Ak, ck, rfl⟩ := hk.form
  have HA := Lib.hid ha
  have HK := Lib.hid hk
  clear ha hk
  obtain ⟨nz, hnz⟩ : ∃ n, zs.length = n := ⟨_, rfl⟩
  obtain ⟨nk, hnk⟩ : ∃ n, ks.length = n := ⟨_, rfl⟩
  rw [hnz, hnk]
  rw [hnz] at HA
  rw [hnk] at HK
  have HNZ := Lib.hid hnz
  have HNK := Lib.hid hnk
  clear hnz hnk
  obtain ⟨sl, sh⟩ := s
  obtain ⟨tl, th⟩ := t
  unfold spV
  go_enter Try.func6, Try.ntmps6
  go_wp2_with fail
  refine (awake_w _).mono ?_
  rintro _ w1 ⟨rfl, o1⟩
  have S0 : w1.cell? ⟨w.heap.size, 0, none⟩ = some (.string sl) := Ok.cell o1 (by go_cell)
  have S1 : w1.cell? ⟨w.heap.size, 1, none⟩ = some (.string sh) := Ok.cell o1 (by go_cell)
  have T0 : w1.cell? ⟨w.heap.size + 1, 0, none⟩ = some (.string tl) := Ok.cell o1 (by go_cell)
  have T1 : w1.cell? ⟨w.heap.size + 1, 1, none⟩ = some (.string th) := Ok.cell o1 (by go_cell)
  have ok1 := Lib.hid (Ok.call (Ok.alloc (Ok.alloc (Ok.refl w) _) _) o1)
  clear o1
  have HOWN := Lib.hid (four_own w1 sl sh tl th)
  have HAN : Hid (StrsN w.heap.size (w1.alloc (.cells #[.string sl, .string sh, .string tl, .string th] 9)) (.slice Aa nz ca) zs) := Lib.hid (HA.out.below (Ok.alloc ok1.out _))
  go_wp2_with (at_builtin; go_must (refine wpList_appT rfl (.tmp 28) (.tmp 29) rfl w1.heap.size _ [sl, sh, tl, th] zs _ w.heap.size rfl rfl HOWN.out HAN.out (by simp) (by simp) ?_; intro A2 n2 c2 w2 hown2 hb2; have HOW2 := Lib.hid hown2; have HB2 := Lib.hid hb2; clear hown2 hb2))
  refine (few_w _ _ _ _ HOW2.out.strs).mono ?_
  rintro _ w3 ⟨⟨r, rfl, hr1⟩, rfl⟩
  have ok2 := Lib.hid (Ok.trans' ok1.out (Below.trans (Ok.alloc (Ok.refl w1) (.cells #[.string sl, .string sh, .string tl, .string th] 9)) HB2.out))
  have oB := Lib.hid (Below.trans (Ok.alloc (Ok.refl w1) (.cells #[.string sl, .string sh, .string tl, .string th] 9)) HB2.out)
  have S0 := Ok.cell oB.out S0
  have S1 := Ok.cell oB.out S1
  have T0 := Ok.cell oB.out T0
  have T1 := Ok.cell oB.out T1
  have HK3 := Lib.hid (HK.out.below ok2.out)
  have HA3 := Lib.hid (HA.out.below ok2.out)
  clear HOW2 HB2 HAN HOWN ok1 oB
  cases r with
  | false =>
    go_wp2
    go_ret
    exact ⟨rfl, ok2.out⟩
  | true =>
    go_wp2_with fail
    refine (few_w _ _ _ _ HK3.out.strs).mono ?_
    rintro _ w4 ⟨⟨r, rfl, hr2⟩, rfl⟩
    cases r with
    | false =>
      go_wp2
      go_ret
      exact ⟨rfl, ok2.out⟩
    | true =>
      have HZ : Hid (zs.length ≤ 60) := Lib.hid (by have := hr1 (by trivial); simp only [List.length_append, List.length_cons, List.length_nil] at this; omega)
      have HKL : Hid (ks.length ≤ 60) := Lib.hid (hr2 (by trivial))
      clear hr1 hr2
      have hcut := cut_w ⟨sl, sh⟩ Aa nz ca zs (by have := HZ.out; omega) w4 (by
        rcases HA3.out.strs with h | ⟨b, off, cap, e, hb, hc⟩
        · exact .inl h
        · exact .inr ⟨b, off, cap, e, Nat.lt_of_lt_of_le hb ok2.out.size, hc⟩)
      have hall := cut_w allS Aa nz ca zs (by have := HZ.out; omega)
      unfold spV at hcut hall
      go_wp2_with fail
      refine hcut.mono ?_
      rintro _ w5 ⟨Al, cl, rfl, hown, o5⟩
      have HAT := Lib.hid hown.at
      have S0 := Ok.cell o5 S0
      have S1 := Ok.cell o5 S1
      have T0 := Ok.cell o5 T0
      have T1 := Ok.cell o5 T1
      have ok5 := Lib.hid (Ok.call ok2.out o5)
      clear hown o5 hcut
      obtain ⟨ps, hps⟩ : ∃ ps, cutM ⟨sl, sh⟩ (sortS zs) = ps := ⟨_, rfl⟩
      rw [hps] at HAT ⊢
      have HPS := Lib.hid hps
      obtain ⟨np, hnp⟩ : ∃ n, ps.length = n := ⟨_, rfl⟩
      rw [hnp]
      have HNP := Lib.hid hnp
      clear hps hnp
      have hm := meet_w ⟨sl, sh⟩ ⟨tl, th⟩
      obtain ⟨ml, mh, ok, hmv, hmk⟩ := meet_form ⟨sl, sh⟩ ⟨tl, th⟩
      rw [hmv] at hm
      have HMK := Lib.hid hmk
      clear hmv hmk
      unfold spV at hm
      go_wp2_with fail
      refine (hm _).mono ?_
      rintro _ w6 ⟨rfl, o6⟩
      have M0 : (w6.alloc (.cells #[.string ml, .string mh] 23)).cell? ⟨w6.heap.size, 0, none⟩ = some (.string ml) := by go_cell
      have M1 : (w6.alloc (.cells #[.string ml, .string mh] 23)).cell? ⟨w6.heap.size, 1, none⟩ = some (.string mh) := by go_cell
      have o7 : Ok w5 (w6.alloc (.cells #[.string ml, .string mh] 23)) := Ok.alloc o6 _
      have S0 := Ok.cell o7 S0
      have S1 := Ok.cell o7 S1
      have T0 := Ok.cell o7 T0
      have T1 := Ok.cell o7 T1
      have HAT := Lib.hid (HAT.out.ok o7)
      have ok7 := Lib.hid (Ok.call ok5.out o7)
      have HK7 := Lib.hid (HK.out.below ok7.out)
      have HA7 := Lib.hid (HA.out.below ok7.out)
      clear o7 hm ok5 HK3 HA3 ok2
      go_upto_region 7 with fail
      generalize w6.alloc (.cells #[.string ml, .string mh] 23) = w7 at *
      clear o6
      go_cut [60] from 47 to 60 (fun v wx => v = .bool false ∧ Ok w7 wx)
      case first =>
        have HA8 : Hid (∀ w8, Ok w7 w8 → Strs w8.heap.size w8 (.slice Aa nz ca) zs) := Lib.hid fun w8 o8 => by
          rcases (HA7.out.below ((show Below w.heap.size w7 w8 from o8.mono ok7.out.size))).strs with h | ⟨b, off, cap, e, hb, hc⟩
          · exact .inl h
          · exact .inr ⟨b, off, cap, e, Nat.lt_of_lt_of_le hb (Ok.call ok7.out o8).size, hc⟩
        go_wp2_with fail
        refine (all_w _).mono ?_
        rintro _ w8 ⟨rfl, o8⟩
        have HAW := Lib.hid (HA8.out w8 o8)
        go_wp2_with fail
        refine (hall w8 HAW.out).mono ?_
        rintro _ w9 ⟨A9, c9, rfl, hown9, o9⟩
        go_wp2_with fail
        refine (parts_w _ _ _ _ rfl (by have h1 := cutSt_len allS (sortS zs); have h2 := sortS_len zs; have h3 := HZ.out; rw [cutM, if_pos right_all, List.length_append]; simp only [List.length_cons, List.length_nil]; omega) _ hown9.at).mono ?_
        rintro _ w10 ⟨rfl, o10⟩
        rw [cut_parts]
        have S0 := Ok.cell (Ok.call (Ok.call o8 o9) o10) S0
        have S1 := Ok.cell (Ok.call (Ok.call o8 o9) o10) S1
        have ok10 := Lib.hid (Ok.call (Ok.call o8 o9) o10)
        clear o8 o9 o10 hown9 hall
        have hr := right_w ⟨sl, sh⟩
        unfold spV at hr
        cases h1 : rightB ⟨sl, sh⟩ with
        | true =>
          have hne : np ≠ 0 := by rw [← HNP.out, ← HPS.out]; exact cut_some _ _ h1
          have b1 : ((np : Int) == 0) = false := beq_eq_false_iff_ne.2 (by omega)
          have b2 : decide ((np : Int) = 0) = false := decide_eq_false (by omega)
          go_wp2
          go_meet
          exact ⟨rfl, ok10.out⟩
        | false =>
          rw [h1] at hr
          have h0 : np = 0 := by rw [← HNP.out, ← HPS.out, cutM, if_neg (by rw [h1]; simp)]; rfl
          subst h0
          go_wp2_with fail
          refine (hr _).mono ?_
          rintro _ w11 ⟨rfl, o11⟩
          go_wp2
          go_meet
          exact ⟨rfl, Ok.call ok10.out o11⟩
      case rest =>
        obtain ⟨rfl, o8⟩ := hcut
        have okL := Lib.hid (Ok.call ok7.out o8)
        have S0 := Ok.cell o8 S0
        have S1 := Ok.cell o8 S1
        have T0 := Ok.cell o8 T0
        have T1 := Ok.cell o8 T1
        have M0 := Ok.cell o8 M0
        have M1 := Ok.cell o8 M1
        have HAT := Lib.hid (HAT.out.ok o8)
        have HKC : Hid (∀ j, j < nk → ∃ b off, Ak = some ⟨b, off, none⟩ ∧ wc.cell? ⟨b, off + j, none⟩ = some (.string (at0 ks j))) := Lib.hid fun j hj => by
          rcases (HK.out.below okL.out).strs with ⟨h, A', c', e⟩ | ⟨b, off, cap, e, _, hc⟩
          · rw [← HNK.out, h] at hj; exact absurd hj (Nat.not_lt_zero _)
          · simp only [Value.slice.injEq] at e
            exact ⟨b, off, e.1, hc j (by rw [HNK.out]; exact hj)⟩
        have hnk6 : nk ≤ 60 := by rw [← HNK.out]; exact HKL.out
        have hnp6 : np ≤ 61 := by
          have h1 := cutSt_len ⟨sl, sh⟩ (sortS zs)
          have h2 := sortS_len zs
          have h3 := HZ.out
          rw [← HNP.out, ← HPS.out, cutM]
          split
          · rw [List.length_append]; simp only [List.length_cons, List.length_nil]; omega
          · simp
        clear o8 HA7 HK7 hall
        go_wp2_with fail
        go_loopw [12] (fun i wr => ∃ k : Nat, k ≤ nk ∧ i = .int .i64 k ∧ Ok wc wr) (fun i _ => nk - (intOf i).toNat)
        case atStart => exact ⟨0, Nat.zero_le _, rfl, Ok.refl _⟩
        case round =>
          obtain ⟨k, hk, rfl, okr⟩ := hrel
          have HOKR := Lib.hid okr
          clear okr
          by_cases hlt : k < nk
          · have d1 : decide ((k : Int) < (nk : Int)) = true := decide_eq_true (by omega)
            obtain ⟨kb, ko, rfl, hkc⟩ := HKC.out k hlt
            go_wp2_with fail
            go_loopw [13, 14] (fun c j wx => ∃ q : Nat, q ≤ np ∧ j = .int .i64 q ∧ c = .int .i64 (cnt (ps.take q) (at0 ks k) : Nat) ∧ Ok wc wx) (fun _ j _ => np - (intOf j).toNat)
            case atStart => exact ⟨0, Nat.zero_le _, rfl, rfl, HOKR.out⟩
            case round =>
              obtain ⟨q, hq, rfl, rfl, okq⟩ := hrel
              have HOKQ := Lib.hid okq
              clear okq
              by_cases hlq : q < np
              · have d2 : decide ((q : Int) < (np : Int)) = true := decide_eq_true (by omega)
                obtain ⟨pb, po, rfl, C0, C1⟩ := HAT.out.ok HOKQ.out q (by rw [HNP.out]; exact hlq)
                have hcb : cnt (ps.take q) (at0 ks k) ≤ 61 := by
                  have h1 : cnt (ps.take q) (at0 ks k) ≤ (ps.take q).length := List.countP_le_length
                  rw [List.length_take] at h1
                  omega
                have hct := Lib.hid (cnt_take ps (at0 ks k) q (by rw [HNP.out]; exact hlq))
                generalize cnt (ps.take q) (at0 ks k) = cq at *
                have hh := has_w (at1 ps q) (at0 ks k)
                unfold spV at hh
                have hi0 : (0 : Int) ≤ (q : Int) := Int.natCast_nonneg _
                have hi1 : (q : Int) < (np : Int) := by omega
                have hj0 : (0 : Int) ≤ (k : Int) := Int.natCast_nonneg _
                have hj1 : (k : Int) < (nk : Int) := by omega
                have kC0 := cell_regrown C0
                have kC1 := cell_regrown C1
                have kK := cell_regrown (Ok.cell HOKQ.out hkc)
                cases h : hasB (at1 ps q) (at0 ks k) with
                | true =>
                  rw [h] at hh hct
                  have q0 : ∀ d os, Calls Try.prog 21 #[.agg #[.string (at1 ps q).lo, .string (at1 ps q).hi], .string (at0 ks k)] (Go.Sort.grow (redrawn wr d) os) fun e w'' => e = .returned (.bool true) ∧ ∃ p : Regrown, w'' = Go.Sort.grow (redrawn wr p.d) p.os := fun d os => Calls.regrown_of (hh _)
                  go_wp2_with fail
                  refine wp_region_quiet_below (by kernel_rfl) (by kernel_rfl) ?_
                  refine Held.out ?_
                  repeat (
                    refine hq_step (fun K hK => ?_)
                    go_simp
                    first
                      | (refine hK _ ?_; clear hK K)
                      | (apply Exists.intro
                         refine ⟨fun _ => ?_, hK _ ?_⟩
                         (first | (with_reducible exact q0 _ _))
                         clear hK K))
                  refine Held.mk (wpQuiet_nil ?_)
                  intro _ hw'
                  obtain ⟨⟨dq, osq⟩, hw''⟩ := hw'
                  subst hw''
                  go_wp2
                  refine ⟨⟨q + 1, hlq, rfl, by rw [hct.out]; rfl, Ok.call HOKQ.out (below_regrown _ dq osq)⟩, ?_⟩
                  show np - ((q : Int) + 1).toNat < np - (q : Int).toNat
                  omega
                | false =>
                  rw [h] at hh hct
                  have q0 : ∀ d os, Calls Try.prog 21 #[.agg #[.string (at1 ps q).lo, .string (at1 ps q).hi], .string (at0 ks k)] (Go.Sort.grow (redrawn wr d) os) fun e w'' => e = .returned (.bool false) ∧ ∃ p : Regrown, w'' = Go.Sort.grow (redrawn wr p.d) p.os := fun d os => Calls.regrown_of (hh _)
                  go_wp2_with fail
                  refine wp_region_quiet_below (by kernel_rfl) (by kernel_rfl) ?_
                  refine Held.out ?_
                  repeat (
                    refine hq_step (fun K hK => ?_)
                    go_simp
                    first
                      | (refine hK _ ?_; clear hK K)
                      | (apply Exists.intro
                         refine ⟨fun _ => ?_, hK _ ?_⟩
                         (first | (with_reducible exact q0 _ _))
                         clear hK K))
                  refine Held.mk (wpQuiet_nil ?_)
                  intro _ hw'
                  obtain ⟨⟨dq, osq⟩, hw''⟩ := hw'
                  subst hw''
                  go_wp2
                  refine ⟨⟨q + 1, hlq, rfl, by rw [hct.out]; rfl, Ok.call HOKQ.out (below_regrown _ dq osq)⟩, ?_⟩
                  show np - ((q : Int) + 1).toNat < np - (q : Int).toNat
                  omega
              · have d2 : decide ((q : Int) < (np : Int)) = false := decide_eq_false (by omega)
                have hcn : cnt (ps.take q) (at0 ks k) = if hasB ⟨sl, sh⟩ (at0 ks k) = true then 1 else 0 := by
                  rw [cnt_all ps _ q (by rw [HNP.out]; omega), ← HPS.out, cut_cnt]
                have hh1 := has_w ⟨sl, sh⟩ (at0 ks k)
                have hh2 := has_w ⟨tl, th⟩ (at0 ks k)
                have hh3 := has_w ⟨ml, mh⟩ (at0 ks k)
                have hmk := HMK.out (at0 ks k)
                obtain ⟨x, hx⟩ : ∃ x, hasB ⟨sl, sh⟩ (at0 ks k) = x := ⟨_, rfl⟩
                obtain ⟨y, hy⟩ : ∃ y, hasB ⟨tl, th⟩ (at0 ks k) = y := ⟨_, rfl⟩
                obtain ⟨z, hz⟩ : ∃ z, hasB ⟨ml, mh⟩ (at0 ks k) = z := ⟨_, rfl⟩
                rw [hx] at hcn hh1 hmk
                rw [hy] at hh2 hmk
                rw [hz] at hh3 hmk
                clear hx hy hz
                have HCN := Lib.hid hcn
                have HMK2 := Lib.hid hmk
                clear hcn hmk
                generalize cnt (ps.take q) (at0 ks k) = cq at *
                unfold spV at hh1 hh2 hh3
                have hj0 : (0 : Int) ≤ (k : Int) := Int.natCast_nonneg _
                have hj1 : (k : Int) < (nk : Int) := by omega
                have kK := cell_regrown (Ok.cell HOKQ.out hkc)
                have kS0 := cell_regrown (Ok.cell HOKQ.out S0)
                have kS1 := cell_regrown (Ok.cell HOKQ.out S1)
                have kT0 := cell_regrown (Ok.cell HOKQ.out T0)
                have kT1 := cell_regrown (Ok.cell HOKQ.out T1)
                have q0 : ∀ d os, Calls Try.prog 21 #[.agg #[.string sl, .string sh], .string (at0 ks k)] (Go.Sort.grow (redrawn wr d) os) fun e w'' => e = .returned (.bool x) ∧ ∃ p : Regrown, w'' = Go.Sort.grow (redrawn wr p.d) p.os := fun d os => Calls.regrown_of (hh1 _)
                have q1 : ∀ d os, Calls Try.prog 21 #[.agg #[.string tl, .string th], .string (at0 ks k)] (Go.Sort.grow (redrawn wr d) os) fun e w'' => e = .returned (.bool y) ∧ ∃ p : Regrown, w'' = Go.Sort.grow (redrawn wr p.d) p.os := fun d os => Calls.regrown_of (hh2 _)
                go_wp2_with fail
                refine wp_region_quiet_below (by kernel_rfl) (by kernel_rfl) ?_
                refine Held.out ?_
                repeat (
                  refine hq_step (fun K hK => ?_)
                  go_simp
                  first
                    | (refine hK _ ?_; clear hK K)
                    | (apply Exists.intro
                       refine ⟨fun _ => ?_, hK _ ?_⟩
                       (first | (with_reducible exact q0 _ _) | (with_reducible exact q1 _ _))
                       clear hK K))
                refine Held.mk (wpQuiet_nil ?_)
                intro _ hw'
                obtain ⟨⟨dq, osq⟩, hw''⟩ := hw'
                subst hw''
                have OQ2 := Lib.hid (Ok.call HOKQ.out (below_regrown _ dq osq))
                generalize Go.Sort.grow (redrawn wr dq) osq = w20 at OQ2 ⊢
                clear q0 q1 kK kS0 kS1 kT0 kT1
                have kK := cell_regrown (Ok.cell OQ2.out hkc)
                have kM0 := cell_regrown (Ok.cell OQ2.out M0)
                have kM1 := cell_regrown (Ok.cell OQ2.out M1)
                have q2 : ∀ d os, Calls Try.prog 21 #[.agg #[.string ml, .string mh], .string (at0 ks k)] (Go.Sort.grow (redrawn w20 d) os) fun e w'' => e = .returned (.bool z) ∧ ∃ p : Regrown, w'' = Go.Sort.grow (redrawn w20 p.d) p.os := fun d os => Calls.regrown_of (hh3 _)
                clear hh1 hh2 hh3
                cases x <;> cases y <;> cases ok <;> cases z <;> first | (exact absurd HMK2.out (by decide)) | skip
                all_goals (
                  have hcq := HCN.out
                  simp only [if_true, if_false, Bool.false_eq_true] at hcq
                  subst hcq
                  go_wp2_with fail
                  refine wp_region_quiet_below (by kernel_rfl) (by kernel_rfl) ?_
                  refine Held.out ?_
                  repeat (
                    refine hq_step (fun K hK => ?_)
                    go_simp
                    first
                      | (refine hK _ ?_; clear hK K)
                      | (apply Exists.intro
                         refine ⟨fun _ => ?_, hK _ ?_⟩
                         (first | (with_reducible exact q2 _ _))
                         clear hK K))
                  refine Held.mk (wpQuiet_nil ?_)
                  intro _ hw'
                  obtain ⟨⟨dq, osq⟩, hw''⟩ := hw'
                  subst hw''
                  go_wp2
                  refine ⟨⟨k + 1, hlt, rfl, Ok.call OQ2.out (below_regrown _ dq osq)⟩, ?_⟩
                  show nk - ((k : Int) + 1).toNat < nk - (k : Int).toNat
                  omega)
          · have d1 : decide ((k : Int) < (nk : Int)) = false := decide_eq_false (by omega)
            go_wp2_with fail
            go_loopw [17] (fun i wx => ∃ q : Nat, q ≤ np ∧ i = .int .i64 q ∧ Ok wc wx) (fun i _ => np - (intOf i).toNat)
            case atStart => exact ⟨0, Nat.zero_le _, rfl, HOKR.out⟩
            case round =>
              obtain ⟨q, hq, rfl, okq⟩ := hrel
              have HOKQ := Lib.hid okq
              clear okq
              by_cases hlq : q < np
              · have d2 : decide ((q : Int) < (np : Int)) = true := decide_eq_true (by omega)
                obtain ⟨pb, po, rfl, C0, C1⟩ := HAT.out.ok HOKQ.out q (by rw [HNP.out]; exact hlq)
                have hcw := cut_within ⟨sl, sh⟩ (sortS zs) (at1 ps q) (by rw [HPS.out]; exact at1_mem ps q (by rw [HNP.out]; exact hlq))
                have hw := within_w (at1 ps q) ⟨sl, sh⟩
                have hr := right_w (at1 ps q)
                rw [hcw.1] at hw
                rw [hcw.2] at hr
                clear hcw
                unfold spV at hw hr
                have hi0 : (0 : Int) ≤ (q : Int) := Int.natCast_nonneg _
                have hi1 : (q : Int) < (np : Int) := by omega
                have kC0 := cell_regrown C0
                have kC1 := cell_regrown C1
                have kS0 := cell_regrown (Ok.cell HOKQ.out S0)
                have kS1 := cell_regrown (Ok.cell HOKQ.out S1)
                have q0 : ∀ d os, Calls Try.prog 15 #[.agg #[.string (at1 ps q).lo, .string (at1 ps q).hi], .agg #[.string sl, .string sh]] (Go.Sort.grow (redrawn wr d) os) fun e w'' => e = .returned (.bool true) ∧ ∃ p : Regrown, w'' = Go.Sort.grow (redrawn wr p.d) p.os := fun d os => Calls.regrown_of (hw _)
                have q1 : ∀ d os, Calls Try.prog 17 #[.agg #[.string (at1 ps q).lo, .string (at1 ps q).hi]] (Go.Sort.grow (redrawn wr d) os) fun e w'' => e = .returned (.bool true) ∧ ∃ p : Regrown, w'' = Go.Sort.grow (redrawn wr p.d) p.os := fun d os => Calls.regrown_of (hr _)
                go_wp2_with fail
                refine wp_region_quiet_below (by kernel_rfl) (by kernel_rfl) ?_
                refine Held.out ?_
                repeat (
                  refine hq_step (fun K hK => ?_)
                  go_simp
                  first
                    | (refine hK _ ?_; clear hK K)
                    | (apply Exists.intro
                       refine ⟨fun _ => ?_, hK _ ?_⟩
                       (first | (with_reducible exact q0 _ _) | (with_reducible exact q1 _ _))
                       clear hK K))
                refine Held.mk (wpQuiet_nil ?_)
                intro _ hw'
                obtain ⟨⟨dq, osq⟩, hw''⟩ := hw'
                subst hw''
                go_wp2
                refine ⟨⟨q + 1, hlq, rfl, Ok.call HOKQ.out (below_regrown _ dq osq)⟩, ?_⟩
                show np - ((q : Int) + 1).toNat < np - (q : Int).toNat
                omega
              · have d2 : decide ((q : Int) < (np : Int)) = false := decide_eq_false (by omega)
                go_wp2
                go_ret
                exact ⟨rfl, Ok.call okL.out HOKQ.out⟩
end Go.Proofs.Ytneipmgkphdfkaa
