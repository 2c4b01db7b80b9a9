/- The law SpanTells, walked. -/
import Derived.Test.YtneipmgkphdfkaaAC
import Derived.Test.YtneipmgkphdfkaaAA
import Derived.Test.YtneipmgkphdfkaaM
namespace Go.Proofs.Ytneipmgkphdfkaa
open Go.RowKit

theorem four_new (w : World) (a b c d : Str) : OwnT (w.alloc (.cells #[.string a, .string b, .string c, .string d] 9)) w.heap.size (.slice (some ⟨w.heap.size, 0, none⟩) 4 4) [a, b, c, d] := by
  refine ⟨by simp, .inr ⟨w.heap.size, 4, #[.string a, .string b, .string c, .string d], rfl, Nat.le_refl _, ?_, by simp, by decide, by simp, by simp⟩⟩
  show (w.heap.push _)[w.heap.size]? = _
  simp
theorem StrsN.lift {n : Nat} {w w' : World} {v : Value} {zs : List Str} (h : StrsN n w v zs) (k : Below n w w') (hs : n ≤ w'.heap.size) : StrsN w'.heap.size w' v zs := by
  rcases h.below k with h | ⟨b, off, cap, e, hb, hl, hc⟩
  · exact .inl h
  · exact .inr ⟨b, off, cap, e, Nat.lt_of_lt_of_le hb hs, hl, hc⟩
/-- The world stands above this one. -/
def OkS (w w' : World) : Prop := Ok w w'
theorem S3 {w w' : World} {p : Nat} {u v : Value} (h0 : w.cell? ⟨p, 0, none⟩ = some u) (h1 : w.cell? ⟨p, 1, none⟩ = some v) (k : Ok w w') : w'.cell? ⟨p, 0, none⟩ = some u ∧ w'.cell? ⟨p, 1, none⟩ = some v ∧ OkS w w' :=
  ⟨Ok.cell k h0, Ok.cell k h1, k⟩

set_option maxRecDepth 100000 in
set_option maxHeartbeats 40000000 in
theorem spanTells_w (a b : Sp) (v : Value) (zs : List Str) (w : World) (ha : StrsN w.heap.size w v zs) : Calls Try.prog 3 #[spV a, spV b, v] w (Ret w (.bool true)) := by
  obtain ⟨Az, cz, rfl⟩ := ha.form
  have HA := Lib.hid ha
  clear ha
  obtain ⟨nz, hnz⟩ : ∃ n, zs.length = n := ⟨_, rfl⟩
  rw [hnz] at HA ⊢
  have HNZ := Lib.hid hnz
  clear hnz
  have HMM := Lib.hid (meet_w a b)
  have HMR := Lib.hid (rmeet_w a b)
  have HWI := Lib.hid (within_w a b)
  have HWR := Lib.hid (rwithin_w a b)
  have HRI := Lib.hid (right_w a)
  have HRR := Lib.hid (rright_w a)
  have HHI := Lib.hid (has_w a)
  have HHR := Lib.hid (rhas_w a)
  have HCI := Lib.hid (cut_w a)
  have HCR := Lib.hid (fun v' => rcut_w a v' zs)
  obtain ⟨ml, mh, ok, hmv, _⟩ := meet_form a b
  rw [hmv] at HMM HMR
  clear hmv
  generalize withinB a b = x at HWI HWR
  generalize rightB a = y at HRI HRR
  generalize hasB a = hb at HHI HHR
  rw [rcut_cut] at HCR
  have HCL : Hid ((cutM a (sortS zs)).length ≤ zs.length + 1) := Lib.hid (by
    have h1 := cutSt_len a (sortS zs)
    have h2 := sortS_len zs
    unfold cutM
    split
    · rw [List.length_append]; simp only [List.length_cons, List.length_nil]; omega
    · simp)
  have HCI := Lib.hid (fun A m c => HCI.out A m c zs)
  generalize cutM a (sortS zs) = ps at HCI HCR HCL
  obtain ⟨al, ah⟩ := a
  obtain ⟨bl, bh⟩ := b
  unfold spV at *
  go_enter Try.func3, Try.ntmps3
  go_wp2_with fail
  refine (awake_w _).mono ?_
  rintro _ w1 ⟨rfl, o1⟩
  have A0 : w1.cell? ⟨w.heap.size, 0, none⟩ = some (.string al) := Ok.cell o1 (by go_cell)
  have A1 : w1.cell? ⟨w.heap.size, 1, none⟩ = some (.string ah) := Ok.cell o1 (by go_cell)
  have B0 : w1.cell? ⟨w.heap.size + 1, 0, none⟩ = some (.string bl) := Ok.cell o1 (by go_cell)
  have B1 : w1.cell? ⟨w.heap.size + 1, 1, none⟩ = some (.string bh) := Ok.cell o1 (by go_cell)
  have ok1 := Lib.hid (Ok.call (Ok.alloc (Ok.alloc (Ok.refl w) _) _) o1)
  clear o1
  have HOWN := Lib.hid (four_new w1 al ah bl bh)
  have HAN : Hid (StrsN w.heap.size (w1.alloc (.cells #[.string al, .string ah, .string bl, .string bh] 9)) (.slice Az nz cz) zs) := Lib.hid (HA.out.below (Ok.alloc ok1.out _))
  go_wp2_with (at_builtin; go_must (refine wpList_appT rfl (.tmp 23) (.tmp 24) rfl w1.heap.size _ [al, ah, bl, bh] zs _ w.heap.size rfl rfl HOWN.out HAN.out (by simp) (by simp) ?_; intro A2 n2 c2 w2 hown2 hb2; have HOW2 := Lib.hid hown2; have HB2 := Lib.hid hb2; clear hown2 hb2))
  refine (few_w _ _ _ _ HOW2.out.strs).mono ?_
  rintro _ w3 ⟨⟨r, rfl, hr1⟩, rfl⟩
  have ok2 := Lib.hid (Ok.trans' ok1.out (Below.trans (Ok.alloc (Ok.refl w1) (.cells #[.string al, .string ah, .string bl, .string bh] 9)) HB2.out))
  have oB := Lib.hid (Below.trans (Ok.alloc (Ok.refl w1) (.cells #[.string al, .string ah, .string bl, .string bh] 9)) HB2.out)
  have A0 := Ok.cell oB.out A0
  have A1 := Ok.cell oB.out A1
  have B0 := Ok.cell oB.out B0
  have B1 := Ok.cell oB.out B1
  clear HOW2 HB2 HAN HOWN ok1 oB
  cases r with
  | false =>
    go_wp2
    go_ret
    exact ⟨rfl, ok2.out⟩
  | true =>
    have hz60 : nz ≤ 60 := by have := hr1 (by trivial); have := HNZ.out; simp only [List.length_append, List.length_cons, List.length_nil] at *; omega
    clear hr1
    go_wp2_with fail
    refine (HMM.out _).mono ?_
    rintro _ w4 ⟨rfl, o4⟩
    have M0 : (w4.alloc (.cells #[.string ml, .string mh] 23)).cell? ⟨w4.heap.size, 0, none⟩ = some (.string ml) := by go_cell
    have M1 : (w4.alloc (.cells #[.string ml, .string mh] 23)).cell? ⟨w4.heap.size, 1, none⟩ = some (.string mh) := by go_cell
    have o4 := Ok.alloc o4 (.cells #[.string ml, .string mh] 23)
    have A0 := Ok.cell o4 A0
    have A1 := Ok.cell o4 A1
    have B0 := Ok.cell o4 B0
    have B1 := Ok.cell o4 B1
    have ok4 := Lib.hid (Ok.call ok2.out o4)
    clear o4 ok2
    go_wp2_with fail
    refine (HMR.out _).mono ?_
    rintro _ w5 ⟨rfl, o5⟩
    have N0 : (w5.alloc (.cells #[.string ml, .string mh] 23)).cell? ⟨w5.heap.size, 0, none⟩ = some (.string ml) := by go_cell
    have N1 : (w5.alloc (.cells #[.string ml, .string mh] 23)).cell? ⟨w5.heap.size, 1, none⟩ = some (.string mh) := by go_cell
    have o5 := Ok.alloc o5 (.cells #[.string ml, .string mh] 23)
    have A0 := Ok.cell o5 A0
    have A1 := Ok.cell o5 A1
    have B0 := Ok.cell o5 B0
    have B1 := Ok.cell o5 B1
    have M0 := Ok.cell o5 M0
    have M1 := Ok.cell o5 M1
    have ok5 := Lib.hid (Ok.call ok4.out o5)
    clear o5 ok4
    go_wp2_with fail
    generalize w5.alloc (.cells #[.string ml, .string mh] 23) = w6 at *
    have kA0 := cell_regrown A0
    have kA1 := cell_regrown A1
    have kB0 := cell_regrown B0
    have kB1 := cell_regrown B1
    have kM0 := cell_regrown M0
    have kM1 := cell_regrown M1
    have kN0 := cell_regrown N0
    have kN1 := cell_regrown N1
    have q1 : ∀ d os, Calls Try.prog 15 #[.agg #[.string al, .string ah], .agg #[.string bl, .string bh]] (Go.Sort.grow (redrawn w6 d) os) fun e w'' => e = .returned (.bool x) ∧ ∃ p : Regrown, w'' = Go.Sort.grow (redrawn w6 p.d) p.os := fun d os => Calls.regrown_of (HWI.out _)
    have q2 : ∀ d os, Calls Try.prog 16 #[.agg #[.string al, .string ah], .agg #[.string bl, .string bh]] (Go.Sort.grow (redrawn w6 d) os) fun e w'' => e = .returned (.bool x) ∧ ∃ p : Regrown, w'' = Go.Sort.grow (redrawn w6 p.d) p.os := fun d os => Calls.regrown_of (HWR.out _)
    have q3 : ∀ d os, Calls Try.prog 17 #[.agg #[.string al, .string ah]] (Go.Sort.grow (redrawn w6 d) os) fun e w'' => e = .returned (.bool y) ∧ ∃ p : Regrown, w'' = Go.Sort.grow (redrawn w6 p.d) p.os := fun d os => Calls.regrown_of (HRI.out _)
    have q4 : ∀ d os, Calls Try.prog 18 #[.agg #[.string al, .string ah]] (Go.Sort.grow (redrawn w6 d) os) fun e w'' => e = .returned (.bool y) ∧ ∃ p : Regrown, w'' = Go.Sort.grow (redrawn w6 p.d) p.os := fun d os => Calls.regrown_of (HRR.out _)
    refine wp_region_quiet_below (by kernel_rfl) (by kernel_rfl) ?_
    refine HeldU.out ?_
    repeat (
      refine hqU_step (fun K hK => ?_)
      go_simp
      first
        | (refine hK _ ?_; clear hK K)
        | (apply Exists.intro
           refine ⟨fun _ => ?_, hK _ ?_⟩
           (first | (with_reducible exact q1 _ _) | (with_reducible exact q2 _ _) | (with_reducible exact q3 _ _) | (with_reducible exact q4 _ _))
           clear hK K))
    refine HeldU.mk (wpQuiet_nil ?_)
    intro _ hw'
    obtain ⟨⟨dq, osq⟩, hw''⟩ := hw'
    subst hw''
    have oq : Ok w6 (Go.Sort.grow (redrawn w6 dq) osq) := below_regrown w6 dq osq
    generalize Go.Sort.grow (redrawn w6 dq) osq = w7 at oq ⊢
    clear q1 q2 q3 q4 kA0 kA1 kB0 kB1 kM0 kM1 kN0 kN1 M0 M1 N0 N1 B0 B1 HMM HMR HWI HWR HRI HRR
    have A0 := Ok.cell oq A0
    have A1 := Ok.cell oq A1
    have ok7 := Lib.hid (Ok.call ok5.out oq)
    clear oq ok5
    have HA7 := Lib.hid (HA.out.below ok7.out)
    have HKC : Hid (∀ j, j < nz → ∃ b off, Az = some ⟨b, off, none⟩ ∧ w7.cell? ⟨b, off + j, none⟩ = some (.string (at0 zs j))) := Lib.hid fun j hj => by
      rcases HA7.out.strs with ⟨h, A', c', e⟩ | ⟨b, off, cap, e, _, hc⟩
      · rw [← HNZ.out, h] at hj; exact absurd hj (Nat.not_lt_zero _)
      · simp only [Value.slice.injEq] at e
        exact ⟨b, off, e.1, hc j (by rw [HNZ.out]; exact hj)⟩
    go_wp2_with fail
    go_loopw [11] (fun i wr => ∃ k : Nat, k ≤ nz ∧ i = .int .i64 k ∧ Ok w7 wr) (fun i _ => nz - (intOf i).toNat)
    case atStart => exact ⟨0, Nat.zero_le _, rfl, Ok.refl _⟩
    case round =>
      obtain ⟨k, hk, rfl, okr⟩ := hrel
      have HOKR := Lib.hid okr
      clear okr
      have A0 := Ok.cell HOKR.out A0
      have A1 := Ok.cell HOKR.out A1
      by_cases hlt : k < nz
      · have d1 : decide ((k : Int) < (nz : Int)) = true := decide_eq_true (by omega)
        obtain ⟨kb, ko, rfl, hkc⟩ := HKC.out k hlt
        have K0 := Ok.cell HOKR.out hkc
        have hky := key_w (at0 zs k)
        have hkr := rkey_w (at0 zs k)
        have hhi := HHI.out (at0 zs k)
        have hhr := HHR.out (at0 zs k)
        clear hkc
        generalize at0 zs k = t at K0 hky hkr hhi hhr
        generalize keyB t = z at hky hkr
        generalize hb t = u at hhi hhr
        have kA0 := cell_regrown A0
        have kA1 := cell_regrown A1
        have kK0 := cell_regrown K0
        have hi0 : (0 : Int) ≤ (k : Int) := Int.natCast_nonneg _
        have hi1 : (k : Int) < (nz : Int) := by omega
        have q1 : ∀ d os, Calls Try.prog 19 #[.string t] (Go.Sort.grow (redrawn wr d) os) fun e w'' => e = .returned (.bool z) ∧ ∃ p : Regrown, w'' = Go.Sort.grow (redrawn wr p.d) p.os := fun d os => Calls.regrown_of (hky _)
        have q2 : ∀ d os, Calls Try.prog 20 #[.string t] (Go.Sort.grow (redrawn wr d) os) fun e w'' => e = .returned (.bool z) ∧ ∃ p : Regrown, w'' = Go.Sort.grow (redrawn wr p.d) p.os := fun d os => Calls.regrown_of (hkr _)
        have q3 : ∀ d os, Calls Try.prog 21 #[.agg #[.string al, .string ah], .string t] (Go.Sort.grow (redrawn wr d) os) fun e w'' => e = .returned (.bool u) ∧ ∃ p : Regrown, w'' = Go.Sort.grow (redrawn wr p.d) p.os := fun d os => Calls.regrown_of (hhi _)
        have q4 : ∀ d os, Calls Try.prog 22 #[.agg #[.string al, .string ah], .string t] (Go.Sort.grow (redrawn wr d) os) fun e w'' => e = .returned (.bool u) ∧ ∃ p : Regrown, w'' = Go.Sort.grow (redrawn wr p.d) p.os := fun d os => Calls.regrown_of (hhr _)
        go_wp2_with fail
        refine wp_region_quiet_below (by kernel_rfl) (by kernel_rfl) ?_
        refine HeldU.out ?_
        repeat (
          refine hqU_step (fun K hK => ?_)
          go_simp
          first
            | (refine hK _ ?_; clear hK K)
            | (apply Exists.intro
               refine ⟨fun _ => ?_, hK _ ?_⟩
               (first | (with_reducible exact q1 _ _) | (with_reducible exact q2 _ _) | (with_reducible exact q3 _ _) | (with_reducible exact q4 _ _))
               clear hK K))
        refine HeldU.mk (wpQuiet_nil ?_)
        intro _ hw'
        obtain ⟨⟨dq, osq⟩, hw''⟩ := hw'
        subst hw''
        go_wp2
        refine ⟨⟨k + 1, hlt, rfl, Ok.call HOKR.out (below_regrown wr dq osq)⟩, ?_⟩
        show nz - ((k : Int) + 1).toNat < nz - (k : Int).toNat
        omega
      · have d1 : decide ((k : Int) < (nz : Int)) = false := decide_eq_false (by omega)
        have okR := Lib.hid (Ok.call ok7.out HOKR.out)
        clear HKC HHI HHR HA7 HOKR ok7
        go_wp2_with fail
        have hlent := lent_w (.slice Az nz cz) zs wr (by rw [HNZ.out]; exact hz60) (HA.out.lift okR.out okR.out.size)
        refine hlent.mono ?_
        rintro _ w8 ⟨g, cap, rfl, hcap, _, o8, hcl⟩
        have A0 := Ok.cell o8 A0
        have A1 := Ok.cell o8 A1
        have ok8 := Lib.hid (Ok.call okR.out o8)
        have HL : Hid (∀ w', Ok w8 w' → Strs w'.heap.size w' (.slice (some ⟨g, 0, none⟩) zs.length cap) zs) := Lib.hid fun w' k' => .inr ⟨g, 0, cap, rfl, (World.block_lt_of_cell? _ _ (Ok.cell k' (hcl 0 (by omega)))), fun j hj => by
          rw [Nat.zero_add, Ok.cell k' (hcl j (by omega)), lent_at0 zs j hj]⟩
        have H25 := Lib.hid fun w' (k' : Ok w8 w') => HCI.out (some ⟨g, 0, none⟩) zs.length cap (by rw [HNZ.out]; omega) w' (HL.out w' k')
        have H26 := Lib.hid fun w' (k' : Ok w8 w') => HCR.out (.slice Az nz cz) w' (by rw [HNZ.out]; exact hz60) (HA.out.lift (Ok.call ok8.out k') (Ok.call ok8.out k').size)
        have H24 := Lib.hid fun A B c d => same_w A B ps.length c d ps rfl (by have := HCL.out; rw [HNZ.out] at this; omega)
        have H27 := Lib.hid fun w' (k' : Ok w8 w') => kept_w g cap (.slice Az nz cz) zs w'.heap.size w' (by rw [HNZ.out]; exact hz60) hcap (fun j hj => Ok.cell k' (hcl j hj)) (HA.out.lift (Ok.call ok8.out k') (Ok.call ok8.out k').size).strs
        have HS := Lib.hid fun w' (k' : Ok w8 w') => S3 A0 A1 k'
        rw [HNZ.out] at H25 H27 ⊢
        clear hcl hcap o8 okR HL HA HCI HCR hlent
        go_wp2_with fail
        go_region_held3 (fun w' => w'.cell? ⟨w.heap.size, 0, none⟩ = some (.string al) ∧ w'.cell? ⟨w.heap.size, 1, none⟩ = some (.string ah) ∧ OkS w8 w')
          ((refine HS.out _ ?_; (repeat (first | (with_reducible exact Ok.refl _) | (with_reducible refine Ok.drew ?_) | (with_reducible refine Ok.trans' ?_ (by assumption))))))
          (first
            | (go_at_call 25; (with_reducible refine (H25.out _ ?_).mono ?_); (repeat (first | (with_reducible exact Ok.refl _) | (with_reducible refine Ok.drew ?_) | (with_reducible refine Ok.trans' ?_ (by assumption)))); rintro e w9 ⟨B9, c9, rfl, hown9, o9⟩)
            | (go_at_call 26; (with_reducible refine (H26.out _ ?_).mono ?_); (repeat (first | (with_reducible exact Ok.refl _) | (with_reducible refine Ok.drew ?_) | (with_reducible refine Ok.trans' ?_ (by assumption)))); rintro e w10 ⟨B10, c10, rfl, hown10, o10⟩)
            | (go_at_call 24; (with_reducible refine (H24.out _ _ _ _ _ ?_ ?_).mono ?_); (first | exact hown9.at | exact hown9.at.ok o10); (first | exact hown10.at | exact hown10.at.ok o9); rintro e w11 ⟨rfl, o11⟩)
            | (go_at_call 27; (with_reducible refine (H27.out _ ?_).mono ?_); (repeat (first | (with_reducible exact Ok.refl _) | (with_reducible refine Ok.drew ?_) | (with_reducible refine Ok.trans' ?_ (by assumption)))); rintro e w12 ⟨rfl, o12⟩))
        go_wp2
        go_ret
        exact ⟨rfl, Ok.call ok8.out (Ok.call (Ok.call (Ok.call (Ok.call (Ok.drew (Ok.refl w8)) o9) o10) o11) o12)⟩
end Go.Proofs.Ytneipmgkphdfkaa
