/- The readers, the program's and the document's, with any greatest number, a negative one among them. -/
import Derived.Test.YtolfdncmlfnbdaaMv
namespace Go.Proofs.Ytolfdncmlfnbdaa
open Go.RowKit

/-- What is read, if it is at most so much. -/
def cutZ (m : Int) (p : Nat × List B8) : Option (Nat × List B8) := if (p.1 : Int) ≤ m then some p else none
def rdFz (m : Int) (f k n : Nat) (xs : List B8) : Option (Nat × List B8) := (rdF topN f k n xs).bind (cutZ m)
def rdZ (m : Int) (xs : List B8) : Option (Nat × List B8) := (rd topN xs).bind (cutZ m)
theorem rdFz_step (m : Int) (f k n : Nat) (y : B8) (r : List B8) : rdFz m (f + 1) k n (y :: r) = if 127 < y.toNat then rdFz m f (k + 1) (n + y.toNat % 128 * 128 ^ k) r else if (y.toNat = 0 ∧ 0 < k) ∨ topN < n + y.toNat % 128 * 128 ^ k ∨ m < ((n + y.toNat % 128 * 128 ^ k : Nat) : Int) then none else some (n + y.toNat % 128 * 128 ^ k, r) := by
  unfold rdFz
  rw [rdF]
  generalize n + y.toNat % 128 * 128 ^ k = N
  by_cases h1 : 127 < y.toNat
  · rw [if_pos h1, if_pos h1]
  · rw [if_neg h1, if_neg h1]
    by_cases h2 : (y.toNat = 0 ∧ 0 < k) ∨ topN < N
    · rw [if_pos h2, if_pos (by rcases h2 with h | h; exact .inl h; exact .inr (.inl h))]; rfl
    · rw [if_neg h2]
      by_cases h3 : m < (N : Int)
      · rw [if_pos (.inr (.inr h3)), Option.bind_some, cutZ, if_neg (by omega)]
      · rw [if_neg (by rintro (h | h | h); exact h2 (.inl h); exact h2 (.inr h); exact h3 h), Option.bind_some, cutZ, if_pos (by omega)]
theorem rdZ_le (m : Int) (xs r : List B8) (N : Nat) (h : rdZ m xs = some (N, r)) : N ≤ topN ∧ (N : Int) ≤ m ∧ r.length < xs.length := by
  unfold rdZ at h
  cases hr : rd topN xs with
  | none => rw [hr] at h; cases h
  | some p =>
    rw [hr, Option.bind_some, cutZ] at h
    split at h
    · cases h
      have := rdF_le _ _ _ _ _ _ _ (show rdF topN 9 0 0 xs = some (N, r) from hr)
      exact ⟨this.1, by assumption, this.2⟩
    · cases h
set_option maxRecDepth 100000 in
set_option maxHeartbeats 4000000 in
theorem number_rz (W0 : World) (g : Nat) (W : World) (xs : List B8) (m : Int) (h : Rd W0 g W xs false) :
    Calls Try.prog 95 #[.pointer (some ⟨g, 0, none⟩), .int .i64 m] W (RdPost W0 g W (.int .i64 (resN (rdZ m xs) : Int)) (resL (rdZ m xs)) (resF (rdZ m xs))) := by
  have HR := Lib.hid h
  have H0 : Hid (rdZ m xs = rdFz m 9 0 0 xs) := Lib.hid rfl
  clear h
  go_enter Try.func95, Try.ntmps95
  go_wp2_with fail
  go_loopw [5, 6] (fun x s wr => ∃ (k n : Nat) (ys : List B8), s = .int .i64 ((7 * k : Nat) : Int) ∧ x = .int .i64 (n : Int) ∧ k ≤ 9 ∧ n < 128 ^ k ∧ Rd W0 g wr ys false ∧ Only g W wr ∧ rdZ m xs = rdFz m (9 - k) k n ys) (fun _ s _ => 63 - (intOf s).toNat)
  case atStart => exact ⟨0, 0, xs, rfl, rfl, by omega, by decide, HR.out, Only.refl _ _, H0.out⟩
  case round =>
    obtain ⟨k, n, ys, rfl, rfl, hk, hn, hr, ho, he⟩ := hrel
    have HRR := Lib.hid hr
    have HO := Lib.hid ho
    have HE := Lib.hid he
    have HNK := Lib.hid hn
    clear hr ho he hn
    by_cases hlt : k < 9
    · have hd0 : decide (((7 * k : Nat) : Int) < 63) = true := decide_eq_true (by omega)
      have hd0' : decide (7 * (k : Int) < 63) = true := decide_eq_true (by omega)
      cases ys with
      | nil =>
        have HE : Hid (rdZ m xs = none) := Lib.hid (by rw [HE.out, show 9 - k = (8 - k) + 1 from by omega]; rfl)
        go_wp2_with fail
        refine (octet_none W0 g _ false HRR.out).mono ?_
        rintro e w2 ⟨rfl, hr2, ho2⟩
        have hf := hr2.2.2.2.1
        have HR2 := Lib.hid hr2
        have HO2 := Lib.hid ho2
        clear hr2 ho2
        have ha : bits .and .u8 0 127 = 0 := by decide
        have hor := or_zero n (Nat.lt_of_lt_of_le HNK.out (pow_le9 k hk))
        have hw0 : wrap64 0 = 0 := IntWalk.wrap64_in 0 ⟨by decide, by decide⟩
        go_wp2_with fail
        refine (fail_r W0 g _ _ _ HR2.out).mono ?_
        rintro e w3 ⟨rfl, hr3, ho3⟩
        have HFIN : Hid (RdPost W0 g W (.int .i64 0) [] true (.returned (.int .i64 0)) w3) := Lib.hid ⟨rfl, hr3, (HO.out.trans HO2.out).trans ho3⟩
        clear hr3 ho3
        go_wp2_with fail
        go_ret
        rw [HE.out]
        exact HFIN.out
      | cons y r =>
        go_wp2_with fail
        refine (octet_some W0 g _ y r false HRR.out).mono ?_
        rintro e w2 ⟨rfl, hr2, ho2⟩
        have HR2 := Lib.hid hr2
        have HO2 := Lib.hid ho2
        clear hr2 ho2
        have ha := and127b y
        have hor := or_byte n k y HNK.out (by omega)
        have HST := Lib.hid (pow_step n y.toNat k HNK.out)
        have hbig : n + y.toNat % 128 * 128 ^ k < 9223372036854775808 := Nat.lt_of_lt_of_le HST.out (Nat.le_trans (pow_le9 (k + 1) (by omega)) (by decide))
        have HRD : Hid (rdFz m (9 - k) k n (y :: r) = if 127 < y.toNat then rdFz m (8 - k) (k + 1) (n + y.toNat % 128 * 128 ^ k) r else if (y.toNat = 0 ∧ 0 < k) ∨ topN < n + y.toNat % 128 * 128 ^ k ∨ m < ((n + y.toNat % 128 * 128 ^ k : Nat) : Int) then none else some (n + y.toNat % 128 * 128 ^ k, r)) := Lib.hid (by
          rw [show 9 - k = (8 - k) + 1 from by omega]; exact rdFz_step m (8 - k) k n y r)
        have HBIG := Lib.hid hbig
        clear hbig
        generalize hN : n + y.toNat % 128 * 128 ^ k = N at *
        have HNN := Lib.hid hN
        clear hN
        by_cases hy : 127 < y.toNat
        · have hd1 : decide ((127 : Int) < ub y) = true := decide_eq_true (by unfold ub; omega)
          have HE2 : Hid (rdZ m xs = rdFz m (9 - (k + 1)) (k + 1) N r) := Lib.hid (by rw [HE.out, HRD.out, if_pos hy, show 9 - (k + 1) = 8 - k from by omega])
          clear hy
          go_wp2_with fail
          go_roundw
          case rel => exact ⟨k + 1, N, r, by congr 1, rfl, by omega, HST.out, HR2.out, HO.out.trans HO2.out, HE2.out⟩
          case measure => simp [intOf]; omega
        · have hd1 : decide ((127 : Int) < ub y) = false := decide_eq_false (by unfold ub; omega)
          have hf := HR2.out.2.2.2.1
          have HE := Lib.hid (HE.out.trans (HRD.out.trans (if_neg hy)))
          by_cases hz : y.toNat = 0 ∧ 0 < k
          · have HE : Hid (rdZ m xs = none) := Lib.hid (by rw [HE.out, if_pos (.inl hz)])
            have hz0 : (ub y == 0) = true := by rw [beq_iff_eq]; unfold ub; omega
            have hz1 : decide ((0 : Int) < ((7 * k : Nat) : Int)) = true := decide_eq_true (by omega)
            have hz2 : decide ((0 : Int) < 7 * (k : Int)) = true := decide_eq_true (by omega)
            clear hy hz
            go_wp2_with fail
            refine (fail_r W0 g _ _ _ HR2.out).mono ?_
            rintro e w3 ⟨rfl, hr3, ho3⟩
            have HFIN : Hid (RdPost W0 g W (.int .i64 0) [] true (.returned (.int .i64 0)) w3) := Lib.hid ⟨rfl, hr3, (HO.out.trans HO2.out).trans ho3⟩
            clear hr3 ho3
            go_wp2_with fail
            go_ret
            rw [HE.out]
            exact HFIN.out
          · by_cases hy0' : y.toNat = 0
            · have hz0 : (ub y == 0) = true := by rw [beq_iff_eq]; unfold ub; omega
              have hz1 : decide ((0 : Int) < ((7 * k : Nat) : Int)) = false := decide_eq_false (by omega)
              have hz2 : decide ((0 : Int) < 7 * (k : Int)) = false := decide_eq_false (by omega)
              clear hy hy0'
              by_cases hb1 : 4611686018427387903 < N
              · have HE : Hid (rdZ m xs = none) := Lib.hid (by rw [HE.out, if_pos (.inr (.inl (by unfold topN; omega)))])
                have hd2 : decide ((4611686018427387903 : Int) < (N : Int)) = true := decide_eq_true (by omega)
                clear hb1
                go_wp2_with fail
                refine (fail_r W0 g _ _ _ HR2.out).mono ?_
                rintro e w3 ⟨rfl, hr3, ho3⟩
                have HFIN : Hid (RdPost W0 g W (.int .i64 0) [] true (.returned (.int .i64 0)) w3) := Lib.hid ⟨rfl, hr3, (HO.out.trans HO2.out).trans ho3⟩
                clear hr3 ho3
                go_wp2_with fail
                go_ret
                rw [HE.out]
                exact HFIN.out
              · have hd2 : decide ((4611686018427387903 : Int) < (N : Int)) = false := decide_eq_false (by omega)
                have HB1 : Hid (¬ topN < N) := Lib.hid (by unfold topN; omega)
                clear hb1
                by_cases hb2 : m < (N : Int)
                · have HE : Hid (rdZ m xs = none) := Lib.hid (by rw [HE.out, if_pos (.inr (.inr hb2))])
                  have hd3 : decide (m < (N : Int)) = true := decide_eq_true hb2
                  clear hb2
                  go_wp2_with fail
                  refine (fail_r W0 g _ _ _ HR2.out).mono ?_
                  rintro e w3 ⟨rfl, hr3, ho3⟩
                  have HFIN : Hid (RdPost W0 g W (.int .i64 0) [] true (.returned (.int .i64 0)) w3) := Lib.hid ⟨rfl, hr3, (HO.out.trans HO2.out).trans ho3⟩
                  clear hr3 ho3
                  go_wp2_with fail
                  go_ret
                  rw [HE.out]
                  exact HFIN.out
                · have HE : Hid (rdZ m xs = some (N, r)) := Lib.hid (by rw [HE.out, if_neg (by rintro (h | h | h); exact hz h; exact HB1.out h; exact hb2 h)])
                  have hd3 : decide (m < (N : Int)) = false := decide_eq_false hb2
                  clear hb2
                  go_wp2_with fail
                  go_ret
                  rw [HE.out]
                  exact ⟨rfl, HR2.out, HO.out.trans HO2.out⟩
            · have hz0 : (ub y == 0) = false := by rw [beq_eq_false_iff_ne]; unfold ub; omega
              clear hy hy0'
              by_cases hb1 : 4611686018427387903 < N
              · have HE : Hid (rdZ m xs = none) := Lib.hid (by rw [HE.out, if_pos (.inr (.inl (by unfold topN; omega)))])
                have hd2 : decide ((4611686018427387903 : Int) < (N : Int)) = true := decide_eq_true (by omega)
                clear hb1
                go_wp2_with fail
                refine (fail_r W0 g _ _ _ HR2.out).mono ?_
                rintro e w3 ⟨rfl, hr3, ho3⟩
                have HFIN : Hid (RdPost W0 g W (.int .i64 0) [] true (.returned (.int .i64 0)) w3) := Lib.hid ⟨rfl, hr3, (HO.out.trans HO2.out).trans ho3⟩
                clear hr3 ho3
                go_wp2_with fail
                go_ret
                rw [HE.out]
                exact HFIN.out
              · have hd2 : decide ((4611686018427387903 : Int) < (N : Int)) = false := decide_eq_false (by omega)
                have HB1 : Hid (¬ topN < N) := Lib.hid (by unfold topN; omega)
                clear hb1
                by_cases hb2 : m < (N : Int)
                · have HE : Hid (rdZ m xs = none) := Lib.hid (by rw [HE.out, if_pos (.inr (.inr hb2))])
                  have hd3 : decide (m < (N : Int)) = true := decide_eq_true hb2
                  clear hb2
                  go_wp2_with fail
                  refine (fail_r W0 g _ _ _ HR2.out).mono ?_
                  rintro e w3 ⟨rfl, hr3, ho3⟩
                  have HFIN : Hid (RdPost W0 g W (.int .i64 0) [] true (.returned (.int .i64 0)) w3) := Lib.hid ⟨rfl, hr3, (HO.out.trans HO2.out).trans ho3⟩
                  clear hr3 ho3
                  go_wp2_with fail
                  go_ret
                  rw [HE.out]
                  exact HFIN.out
                · have HE : Hid (rdZ m xs = some (N, r)) := Lib.hid (by rw [HE.out, if_neg (by rintro (h | h | h); exact hz h; exact HB1.out h; exact hb2 h)])
                  have hd3 : decide (m < (N : Int)) = false := decide_eq_false hb2
                  clear hb2
                  go_wp2_with fail
                  go_ret
                  rw [HE.out]
                  exact ⟨rfl, HR2.out, HO.out.trans HO2.out⟩
    · have hke : k = 9 := by omega
      subst hke
      have HE : Hid (rdZ m xs = none) := Lib.hid (by rw [HE.out]; rfl)
      have HR2 := HRR
      have HO2 : Hid (Only g wr wr) := Lib.hid (Only.refl g wr)
      go_wp2_with fail
      refine (fail_r W0 g _ _ _ HR2.out).mono ?_
      rintro e w3 ⟨rfl, hr3, ho3⟩
      have HFIN : Hid (RdPost W0 g W (.int .i64 0) [] true (.returned (.int .i64 0)) w3) := Lib.hid ⟨rfl, hr3, (HO.out.trans HO2.out).trans ho3⟩
      clear hr3 ho3
      go_wp2_with fail
      go_ret
      rw [HE.out]
      exact HFIN.out

/-- A number read: what is told, what is left, whether it has failed. -/
def numZ (m : Int) (xs : List B8) (f : Bool) : Nat × List B8 × Bool := if f = true then (0, xs, true) else (resN (rdZ m xs), resL (rdZ m xs), resF (rdZ m xs))
theorem numZ_ok (m : Int) (xs : List B8) (f : Bool) (h : f = true → xs = []) : (numZ m xs f).2.2 = true → (numZ m xs f).2.1 = [] := by
  unfold numZ
  split
  · rename_i hf; intro _; exact h hf
  · cases rdZ m xs with
    | none => intro _; rfl
    | some p => intro e; cases e
theorem numZ_len (m : Int) (xs : List B8) (f : Bool) : (numZ m xs f).2.1.length ≤ xs.length := by
  unfold numZ
  split
  · exact Nat.le_refl _
  · cases h : rdZ m xs with
    | none => exact Nat.zero_le _
    | some p => exact Nat.le_of_lt (rdZ_le _ _ _ _ h).2.2
set_option maxHeartbeats 400000 in
theorem Num_z (W0 : World) (g : Nat) (w : World) (xs : List B8) (f : Bool) (m : Int) (h : Rd W0 g w xs f) :
    Calls Try.prog 27 #[.pointer (some ⟨g, 0, none⟩), .int .i64 m] w (RdPost W0 g w (.int .i64 ((numZ m xs f).1 : Int)) (numZ m xs f).2.1 (numZ m xs f).2.2) := by
  have HR := Lib.hid h
  clear h
  cases f with
  | false =>
    have HN := Lib.hid (number_rz W0 g w xs m HR.out)
    have e : numZ m xs false = (resN (rdZ m xs), resL (rdZ m xs), resF (rdZ m xs)) := rfl
    rw [e]
    clear e
    go_enter Try.func27, Try.ntmps27
    go_wp2_with fail
    refine (dead_r W0 g w _ false HR.out).mono ?_
    rintro e w' ⟨rfl, rfl⟩
    go_wp2_with fail
    refine HN.out.mono ?_
    rintro e w' ⟨rfl, hr, ho⟩
    have HR2 := Lib.hid hr
    have HO := Lib.hid ho
    clear hr ho
    go_wp2_with fail
    go_ret
    exact ⟨rfl, HR2.out, HO.out⟩
  | true =>
    have e : numZ m xs true = (0, xs, true) := rfl
    rw [e]
    clear e
    go_enter Try.func27, Try.ntmps27
    go_wp2_with fail
    refine (dead_r W0 g w _ true HR.out).mono ?_
    rintro e w' ⟨rfl, rfl⟩
    go_wp2_with fail
    go_ret
    exact ⟨rfl, HR.out, Only.refl _ _⟩
theorem rd_getz (m : Int) (xs : List B8) : ((getM xs).2 = 0 ∨ m < ((getM xs).1 : Int)) ∧ rdZ m xs = none ∨ ((getM xs).2 ≠ 0 ∧ ((getM xs).1 : Int) ≤ m ∧ (getM xs).2 ≤ xs.length ∧ rdZ m xs = some ((getM xs).1, xs.drop (getM xs).2)) := by
  unfold getM rdZ
  have h3 : rd topN xs = rdF topN 9 0 0 xs := rfl
  cases hr : rd topN xs with
  | none => exact .inl ⟨.inl rfl, rfl⟩
  | some p =>
    obtain ⟨n, r⟩ := p
    have hle := rdF_le _ _ _ _ _ _ _ (h3.symm.trans hr)
    have hdr := rdF_drop _ _ _ _ _ _ _ (h3.symm.trans hr)
    simp only [Option.bind_some, cutZ]
    by_cases hn : (n : Int) ≤ m
    · rw [if_pos hn]
      exact .inr ⟨by omega, hn, by omega, by rw [← hdr]⟩
    · rw [if_neg hn]
      exact .inl ⟨.inr (by omega), rfl⟩
set_option maxRecDepth 100000 in
set_option maxHeartbeats 2000000 in
theorem rnum_z (W0 : World) (g : Nat) (w : World) (xs : List B8) (f : Bool) (m : Int) (h : Rf W0 g w xs f) :
    Calls Try.prog 28 #[.pointer (some ⟨g, 0, none⟩), .int .i64 m] w (RfPost W0 g w (.int .i64 ((numZ m xs f).1 : Int)) (numZ m xs f).2.1 (numZ m xs f).2.2) := by
  have HR := Lib.hid h
  obtain ⟨_, hok, ⟨v, hv, h0⟩, h1, h3, h4⟩ := h
  cases f with
  | true =>
    have e : numZ m xs true = (0, xs, true) := rfl
    rw [e]
    clear e
    go_enter Try.func28, Try.ntmps28
    go_wp2
    go_ret
    exact ⟨rfl, HR.out, Only.refl _ _⟩
  | false =>
    obtain ⟨A, c, rfl, _⟩ := hv.form
    have HV := Lib.hid hv
    have HG := Lib.hid (get_w _ xs w (hok.bytes hv))
    have hcr : xs.length ≤ c := by
      rcases hv with ⟨rfl, _⟩ | ⟨_, _, _, e, hc, _⟩
      · simp
      · simp only [Value.slice.injEq] at e; omega
    have hcase := rd_getz m xs
    have HNM : Hid (numZ m xs false = (resN (rdZ m xs), resL (rdZ m xs), resF (rdZ m xs))) := Lib.hid rfl
    generalize rdZ m xs = R at hcase HNM
    generalize getM xs = P at HG hcase
    obtain ⟨n, N⟩ := P
    simp only at HG hcase
    generalize numZ m xs false = Z at HNM ⊢
    clear hv hok
    rcases hcase with ⟨hbad, hR⟩ | ⟨hb1, hb2, hb3, hR⟩
    · have HZ : Hid (Z = (0, [], true)) := Lib.hid (by rw [HNM.out, hR]; rfl)
      clear hR HNM
      by_cases hN : N = 0
      · have d1 : ((N : Int) == 0) = true := beq_iff_eq.2 (by omega)
        clear hN hbad
        go_enter Try.func28, Try.ntmps28
        go_wp2_with fail
        refine HG.out.mono ?_
        rintro _ w1 ⟨rfl, rfl⟩
        go_wp2_with fail
        refine (rfail_w W0 g _ _ _ HR.out).mono ?_
        rintro _ w2 ⟨rfl, hr2, ho2⟩
        have HR2 := Lib.hid hr2
        have HO2 := Lib.hid ho2
        clear hr2 ho2
        go_wp2_with fail
        go_ret
        rw [HZ.out]
        exact ⟨rfl, HR2.out, HO2.out⟩
      · have d1 : ((N : Int) == 0) = false := beq_eq_false_iff_ne.2 (by omega)
        have d2 : decide ((m : Int) < (n : Int)) = true := decide_eq_true (by rcases hbad with h | h <;> omega)
        have d3 : decide (m < n) = true := decide_eq_true (by rcases hbad with h | h <;> omega)
        clear hN hbad
        go_enter Try.func28, Try.ntmps28
        go_wp2_with fail
        refine HG.out.mono ?_
        rintro _ w1 ⟨rfl, rfl⟩
        go_wp2_with fail
        refine (rfail_w W0 g _ _ _ HR.out).mono ?_
        rintro _ w2 ⟨rfl, hr2, ho2⟩
        have HR2 := Lib.hid hr2
        have HO2 := Lib.hid ho2
        clear hr2 ho2
        go_wp2_with fail
        go_ret
        rw [HZ.out]
        exact ⟨rfl, HR2.out, HO2.out⟩
    · have HZ : Hid (Z = (n, xs.drop N, false)) := Lib.hid (by rw [HNM.out, hR]; rfl)
      have d1 : ((N : Int) == 0) = false := beq_eq_false_iff_ne.2 (by omega)
      have d2 : decide ((m : Int) < (n : Int)) = false := decide_eq_false (by omega)
      have d3 : decide (m < n) = false := decide_eq_false (by omega)
      have HD : Hid (BytesIn W0 (.slice (if c = N then A else A.map (·.add N)) (xs.length - N) (c - N)) (xs.drop N)) := Lib.hid (bytes_drop HV.out hb3)
      have HF : Hid (∀ V, BytesIn W0 V (xs.drop N) → Rf W0 g (w.setCell ⟨g, 0, none⟩ V) (xs.drop N) false) := Lib.hid fun V hV =>
        HR.out.set hV ((Only.refl g w).set 0 _) (by go_simp) (by go_simp) (by go_simp) (by go_simp)
      clear hR HNM
      generalize hl : xs.length = l at *
      have HL := Lib.hid hl
      clear hl
      have hNl : N ≤ l := by omega
      have hNc : N ≤ c := by omega
      have hN0 : (0 : Int) ≤ (N : Int) := by omega
      have hN1 : (N : Int) ≤ (l : Int) := by omega
      have hN2 : (N : Int) ≤ (c : Int) := by omega
      clear hb1 hb2 hb3
      cases A with
      | none =>
        have HD2 : Hid (BytesIn W0 (.slice none (l - N) (c - N)) (xs.drop N)) := Lib.hid (by
          have := HD.out
          split at this <;> exact this)
        go_enter Try.func28, Try.ntmps28
        go_wp2_with fail
        refine HG.out.mono ?_
        rintro _ w1 ⟨rfl, rfl⟩
        go_wp2_with fail
        go_ret
        rw [HZ.out]
        exact ⟨rfl, HF.out _ HD2.out, (Only.refl g w).set 0 _⟩
      | some a =>
        by_cases hcN : c = N
        · have HD2 : Hid (BytesIn W0 (.slice (some a) 0 0) (xs.drop N)) := Lib.hid (by
            have := HD.out
            rwa [if_pos hcN, show l - N = 0 by omega, show c - N = 0 by omega] at this)
          subst hcN
          go_enter Try.func28, Try.ntmps28
          go_wp2_with fail
          refine HG.out.mono ?_
          rintro _ w1 ⟨rfl, rfl⟩
          go_wp2_with fail
          go_ret
          rw [HZ.out]
          exact ⟨rfl, HF.out _ HD2.out, (Only.refl g w).set 0 _⟩
        · have HD2 : Hid (BytesIn W0 (.slice (some (a.add N)) (l - N) (c - N)) (xs.drop N)) := Lib.hid (by
            have := HD.out
            rwa [if_neg hcN] at this)
          go_enter Try.func28, Try.ntmps28
          go_wp2_with fail
          refine HG.out.mono ?_
          rintro _ w1 ⟨rfl, rfl⟩
          go_wp2_with fail
          go_ret
          rw [HZ.out]
          exact ⟨rfl, HF.out _ HD2.out, (Only.refl g w).set 0 _⟩
/-- A row read: the bytes, what is left, whether it has failed. -/
def rowZ (m : Int) (xs : List B8) (f : Bool) : List B8 × List B8 × Bool :=
  if (numZ m xs f).2.2 = true then ([], (numZ m xs f).2.1, true) else if (numZ m xs f).2.1.length < (numZ m xs f).1 then ([], [], true) else ((numZ m xs f).2.1.take (numZ m xs f).1, (numZ m xs f).2.1.drop (numZ m xs f).1, false)
theorem numZ_zero (m : Int) (xs : List B8) (f : Bool) (h : (numZ m xs f).2.2 = true) : (numZ m xs f).1 = 0 := by
  unfold numZ at h ⊢
  split
  · rfl
  · rename_i hf
    rw [if_neg hf] at h
    cases hr : rdZ m xs with
    | none => rfl
    | some p => rw [hr] at h; cases h
theorem rowZ_ok (m : Int) (xs : List B8) (f : Bool) (h : f = true → xs = []) : (rowZ m xs f).2.2 = true → (rowZ m xs f).2.1 = [] := by
  unfold rowZ
  split
  · rename_i h2; intro _; exact numZ_ok m xs f h h2
  · split
    · intro _; rfl
    · intro e; cases e
theorem rowZ_dead (m : Int) (xs : List B8) : rowZ m xs true = ([], xs, true) := rfl
/-- Live: too few left, or these. -/
theorem rowZ_few (m : Int) (xs : List B8) (f : Bool) (h : (numZ m xs f).2.1.length < (numZ m xs f).1) : rowZ m xs f = ([], [], true) := by
  unfold rowZ
  rw [if_pos h]
  split
  · rename_i h2; have := numZ_zero m xs f h2; omega
  · rfl
theorem rowZ_take (m : Int) (xs : List B8) (h : ¬ (numZ m xs false).2.1.length < (numZ m xs false).1) : rowZ m xs false = ((numZ m xs false).2.1.take (numZ m xs false).1, (numZ m xs false).2.1.drop (numZ m xs false).1, (numZ m xs false).2.2) := by
  unfold rowZ
  rw [if_neg h]
  split
  · rename_i h2
    have h3 := numZ_ok m xs false (fun e => by cases e) h2
    rw [h3, h2]; simp
  · rename_i h2
    rw [show (numZ m xs false).2.2 = false by simpa using h2]
theorem rowZ_fail (m : Int) (xs : List B8) (f : Bool) (h : (numZ m xs f).2.2 = true) : rowZ m xs f = ([], (numZ m xs f).2.1, true) := by
  unfold rowZ
  rw [if_pos h]
theorem rowZ_live (m : Int) (xs : List B8) (f : Bool) (h : (numZ m xs f).2.2 = false) (h2 : ¬ (numZ m xs f).2.1.length < (numZ m xs f).1) : rowZ m xs f = ((numZ m xs f).2.1.take (numZ m xs f).1, (numZ m xs f).2.1.drop (numZ m xs f).1, false) := by
  unfold rowZ
  rw [if_neg (by rw [h]; decide), if_neg h2]

set_option maxRecDepth 100000 in
set_option maxHeartbeats 2000000 in
theorem placeRow_z (W0 : World) (g : Nat) (w : World) (xs : List B8) (m : Int) (h : Rd W0 g w xs false) :
    Calls Try.prog 100 #[.pointer (some ⟨g, 0, none⟩), .int .i64 m] w (RowR W0 g w (rowZ m xs false).1 (rowZ m xs false).2.1 (rowZ m xs false).2.2) := by
  have HN := Lib.hid (number_rz W0 g w xs m h)
  have HFEW := Lib.hid (rowZ_few m xs false)
  have HTAKE := Lib.hid (rowZ_take m xs)
  have HNM : Hid (numZ m xs false = (resN (rdZ m xs), resL (rdZ m xs), resF (rdZ m xs))) := Lib.hid rfl
  clear h
  rw [HNM.out] at HFEW HTAKE
  clear HNM
  generalize rowZ m xs false = R at *
  generalize resN (rdZ m xs) = N at *
  generalize resL (rdZ m xs) = ys at *
  generalize resF (rdZ m xs) = ff at *
  simp only at HFEW HTAKE
  go_enter Try.func100, Try.ntmps100
  go_wp2_with fail
  refine HN.out.mono ?_
  rintro _ w1 ⟨rfl, hr, ho⟩
  have HR := Lib.hid hr
  have HO := Lib.hid ho
  obtain ⟨_, _, ⟨v, hv, h0⟩, h1, h2, h3, h4⟩ := hr
  clear ho HN h1
  obtain ⟨A, c, rfl, _⟩ := hv.form
  obtain ⟨l, hl⟩ : ∃ l, ys.length = l := ⟨_, rfl⟩
  rw [hl] at hv h0 HFEW HTAKE
  have HL := Lib.hid hl
  have HV := Lib.hid hv
  have hlc : l ≤ c := by
    rcases hv with ⟨rfl, _⟩ | ⟨_, _, _, e, hc, _⟩
    · simp at hl; omega
    · simp only [Value.slice.injEq] at e; omega
  clear hv hl
  by_cases hlt : l < N
  · have HZ := Lib.hid (HFEW.out hlt)
    have d1 : decide ((l : Int) < (N : Int)) = true := decide_eq_true (by omega)
    have d3 : decide (l < N) = true := decide_eq_true (by omega)
    clear HFEW HTAKE hlt
    go_wp2_with fail
    refine (fail_r W0 g _ _ _ HR.out).mono ?_
    rintro _ w2 ⟨rfl, hr2, ho2⟩
    have HR2 := Lib.hid hr2
    have HO2 := Lib.hid ho2
    clear hr2 ho2
    go_wp2_with fail
    go_ret
    rw [HZ.out]
    exact ⟨_, rfl, BytesIn.nil W0, HR2.out, HO.out.trans HO2.out⟩
  · have HZ := Lib.hid (HTAKE.out hlt)
    have d1 : decide ((l : Int) < (N : Int)) = false := decide_eq_false (by omega)
    have d3 : decide (l < N) = false := decide_eq_false (by omega)
    have HT := Lib.hid (bytes_take HV.out (show N ≤ ys.length by have := HL.out; omega))
    have HD := Lib.hid (bytes_drop HV.out (show N ≤ ys.length by have := HL.out; omega))
    have HF : Hid (∀ V, BytesIn W0 V (ys.drop N) → Rd W0 g (w1.setCell ⟨g, 0, none⟩ V) (ys.drop N) ff) := Lib.hid fun V hV =>
      HR.out.set hV ((Only.refl g w1).set 0 _) (by go_simp) (by have h5 := HR.out.2.2.2.1; go_simp) (by go_simp) (by go_simp) (by go_simp)
    have hNl : N ≤ l := by omega
    have hNc : N ≤ c := by omega
    have hN0 : (0 : Int) ≤ (N : Int) := by omega
    have hN1 : (N : Int) ≤ (l : Int) := by omega
    have hN2 : (N : Int) ≤ (c : Int) := by omega
    have HEND : Hid (∀ v V, BytesIn W0 v (ys.take N) → BytesIn W0 V (ys.drop N) → RowR W0 g w R.1 R.2.1 R.2.2 (.returned v) (w1.setCell ⟨g, 0, none⟩ V)) := Lib.hid fun v V h1 h2 => by
      rw [HZ.out]
      exact ⟨v, rfl, h1, HF.out V h2, HO.out.trans ((Only.refl g w1).set 0 _)⟩
    clear HFEW HTAKE hlt HF HZ
    cases A with
    | none =>
      have HD2 : Hid (BytesIn W0 (.slice none (l - N) (c - N)) (ys.drop N)) := Lib.hid (by
        have := HD.out
        split at this <;> exact this)
      go_wp2_with fail
      go_ret
      exact HEND.out _ _ HT.out HD2.out
    | some a =>
      by_cases hcN : c = N
      · have HD2 : Hid (BytesIn W0 (.slice (some a) 0 0) (ys.drop N)) := Lib.hid (by
          have := HD.out
          rwa [if_pos hcN, show l - N = 0 by omega, show c - N = 0 by omega] at this)
        subst hcN
        go_wp2_with fail
        go_ret
        exact HEND.out _ _ HT.out HD2.out
      · have HD2 : Hid (BytesIn W0 (.slice (some (a.add N)) (l - N) (c - N)) (ys.drop N)) := Lib.hid (by
          have := HD.out
          rwa [if_neg hcN] at this)
        go_wp2_with fail
        go_ret
        exact HEND.out _ _ HT.out HD2.out
set_option maxHeartbeats 400000 in
theorem Text_z (W0 : World) (g : Nat) (w : World) (xs : List B8) (f : Bool) (m : Int) (h : Rd W0 g w xs f) :
    Calls Try.prog 31 #[.pointer (some ⟨g, 0, none⟩), .int .i64 m] w (RdPost W0 g w (.string (toStr (rowZ m xs f).1)) (rowZ m xs f).2.1 (rowZ m xs f).2.2) := by
  have HR := Lib.hid h
  clear h
  cases f with
  | true =>
    rw [rowZ_dead]
    go_enter Try.func31, Try.ntmps31
    go_wp2_with fail
    refine (dead_r W0 g w _ true HR.out).mono ?_
    rintro e w' ⟨rfl, rfl⟩
    go_wp2_with fail
    go_ret
    exact ⟨rfl, HR.out, Only.refl _ _⟩
  | false =>
    have HP := Lib.hid (placeRow_z W0 g w xs m HR.out)
    generalize rowZ m xs false = R at *
    obtain ⟨zs, ys, ff⟩ := R
    simp only at HP ⊢
    go_enter Try.func31, Try.ntmps31
    go_wp2_with fail
    refine (dead_r W0 g w _ false HR.out).mono ?_
    rintro e w' ⟨rfl, rfl⟩
    go_wp2_with fail
    refine HP.out.mono ?_
    rintro _ w2 ⟨v, rfl, hz, hr2, ho2⟩
    have hcv := conv_str (hr2.2.1.bytes hz)
    have HR2 := Lib.hid hr2
    have HO2 := Lib.hid ho2
    clear hr2 ho2 hz
    go_wp2_with fail
    clear hcv
    go_ret
    exact ⟨rfl, HR2.out, HO2.out⟩
set_option maxRecDepth 100000 in
set_option maxHeartbeats 2000000 in
theorem Row_z (W0 : World) (g : Nat) (w : World) (xs : List B8) (f : Bool) (m : Int) (h : Rf W0 g w xs f) :
    Calls Try.prog 32 #[.pointer (some ⟨g, 0, none⟩), .int .i64 m] w (RowF W0 g w (rowZ m xs f).1 (rowZ m xs f).2.1 (rowZ m xs f).2.2) := by
  have HN := Lib.hid (rnum_z W0 g w xs f m h)
  have HFAIL := Lib.hid (rowZ_fail m xs f)
  have HFEW := Lib.hid (rowZ_few m xs f)
  have HLIVE := Lib.hid (rowZ_live m xs f)
  clear h
  generalize rowZ m xs f = R at *
  generalize numZ m xs f = Z at *
  obtain ⟨N, ys, ff⟩ := Z
  simp only at HN HFEW HFAIL HLIVE
  go_enter Try.func32, Try.ntmps32
  go_wp2_with fail
  refine HN.out.mono ?_
  rintro _ w1 ⟨rfl, hr, ho⟩
  have HR := Lib.hid hr
  have HO := Lib.hid ho
  obtain ⟨_, _, ⟨v, hv, h0⟩, h1, h3, h4⟩ := hr
  have hgs := HR.out.lt
  clear ho HN
  cases ff with
  | true =>
    have HZ := Lib.hid (HFAIL.out rfl)
    clear HFEW HLIVE HFAIL hv
    go_wp2_with fail
    go_ret
    rw [HZ.out]
    exact ⟨_, rfl, BytesIn.nil _, HR.out, Alo.only HO.out⟩
  | false =>
  obtain ⟨A, c, rfl, hbm⟩ := hv.form
  obtain ⟨l, hl⟩ : ∃ l, ys.length = l := ⟨_, rfl⟩
  rw [hl] at hv h0 hbm HFEW HLIVE
  have HL := Lib.hid hl
  have HBM := Lib.hid hbm
  clear hbm
  have HV := Lib.hid hv
  have hlc : l ≤ c := by
    rcases hv with ⟨rfl, _⟩ | ⟨_, _, _, e, hc, _⟩
    · simp at hl; omega
    · simp only [Value.slice.injEq] at e; omega
  clear hv hl HFAIL
  by_cases hlt : l < N
  · have HZ := Lib.hid (HFEW.out hlt)
    have d1 : decide ((l : Int) < (N : Int)) = true := decide_eq_true (by omega)
    have d3 : decide (l < N) = true := decide_eq_true (by omega)
    clear HFEW HLIVE hlt
    go_wp2_with fail
    refine (rfail_w W0 g _ _ _ HR.out).mono ?_
    rintro _ w2 ⟨rfl, hr2, ho2⟩
    have HR2 := Lib.hid hr2
    have HO2 := Lib.hid ho2
    clear hr2 ho2
    go_wp2_with fail
    go_ret
    rw [HZ.out]
    exact ⟨_, rfl, BytesIn.nil _, HR2.out, Alo.only (HO.out.trans HO2.out)⟩
  · have HZ := Lib.hid (HLIVE.out rfl hlt)
    have d1 : decide ((l : Int) < (N : Int)) = false := decide_eq_false (by omega)
    have d3 : decide (l < N) = false := decide_eq_false (by omega)
    have HT := Lib.hid (bytes_take HV.out (show N ≤ ys.length by have := HL.out; omega))
    have HD := Lib.hid (bytes_drop HV.out (show N ≤ ys.length by have := HL.out; omega))
    have HTL : Hid ((ys.take N).length = N) := Lib.hid (by rw [List.length_take]; have := HL.out; omega)
    have hNl : N ≤ l := by omega
    have hNc : N ≤ c := by omega
    have hN0 : (0 : Int) ≤ (N : Int) := by omega
    have hN1 : (N : Int) ≤ (l : Int) := by omega
    have hN2 : (N : Int) ≤ (c : Int) := by omega
    generalize hts : ys.take N = ts at *
    generalize hds : ys.drop N = ds at *
    clear hts hds HFEW HLIVE hlt
    have HO1 := Lib.hid (own_zero w1)
    have HOK1 : Hid (Ok w1 (w1.alloc (.cells #[] 5))) := Lib.hid ((Ok.refl w1).alloc _)
    have HT1 : Hid (BytesIn (w1.alloc (.cells #[] 5)) (.slice A N c) ts) := Lib.hid (HOK1.out.bytes (HR.out.2.1.bytes HT.out))
    have HEND : Hid (∀ (A' : Option Addr) (c' : Nat) (w3 : World) (V : Value), OwnN w3 w1.heap.size (.slice A' N c') ts → Ok w1 w3 → BytesIn W0 V ds → RowF W0 g w R.1 R.2.1 R.2.2 (.returned (.slice A' N c')) (w3.setCell ⟨g, 0, none⟩ V)) := Lib.hid fun A' c' w3 V h1 h2 h3 => by
      have hr3 := HR.out.ok h2
      have hlt3 : ∀ b, (Value.slice A' N c').ownBlock = some b → b ≠ g := fun b hb => by
        have := (World.ownsRow.lt h1 b hb).1; omega
      obtain ⟨_, _, ⟨v, _, k0⟩, k1, k3, k4⟩ := hr3
      rw [HZ.out]
      refine ⟨_, rfl, (h1.bytes (by rw [HTL.out]; have := HBM.out; omega)).same fun b hb => Below.heap_setCell _ _ _ _ (hlt3 b hb), ?_, (Alo.only HO.out).trans ((Alo.ok h2).trans (Alo.only ((Only.refl g w3).set 0 _)))⟩
      exact (HR.out.ok h2).set h3 ((Only.refl g w3).set 0 _) (by go_simp) (by go_simp) (by go_simp) (by go_simp)
    have HSL : Hid ([] ++ ts = ts) := Lib.hid rfl
    clear HZ HR HO
    cases A with
    | none =>
      have HD2 : Hid (BytesIn W0 (.slice none (l - N) (c - N)) ds) := Lib.hid (by
        have := HD.out
        split at this <;> exact this)
      go_wp2_with (at_builtin; go_must (refine wpList_app rfl (.tmp 23) (.tmp 29) rfl w1.heap.size (.slice (some ⟨w1.heap.size, 0, none⟩) 0 0) [] ts (.slice none N c) rfl rfl HO1.out HT1.out (by rw [HTL.out]; have := HBM.out; simp only [List.length_nil]; omega) HOK1.out.size ?_; rw [List.length_nil, HTL.out, Nat.zero_add, HSL.out]; intro A' c' w3 hown3 hbel3; have hok3 : Ok w1 w3 := Below.trans HOK1.out hbel3; have HOW := Lib.hid hown3; have c0 := hok3.cell h0; have f0 : w3.frozen? ⟨g, 0, none⟩ = false := (by rw [Below.frozen hok3 (p := ⟨g, 0, none⟩) hgs]; exact h3); have HOK3 := Lib.hid hok3; clear hown3 hbel3 hok3))
      go_ret
      exact HEND.out _ _ _ _ HOW.out HOK3.out HD2.out
    | some a =>
      by_cases hcN : c = N
      · have HD2 : Hid (BytesIn W0 (.slice (some a) 0 0) ds) := Lib.hid (by
          have := HD.out
          rwa [if_pos hcN, show l - N = 0 by omega, show c - N = 0 by omega] at this)
        subst hcN
        go_wp2_with (at_builtin; go_must (refine wpList_app rfl (.tmp 23) (.tmp 29) rfl w1.heap.size (.slice (some ⟨w1.heap.size, 0, none⟩) 0 0) [] ts (.slice (some a) c c) rfl rfl HO1.out HT1.out (by rw [HTL.out]; have := HBM.out; simp only [List.length_nil]; omega) HOK1.out.size ?_; rw [List.length_nil, HTL.out, Nat.zero_add, HSL.out]; intro A' c' w3 hown3 hbel3; have hok3 : Ok w1 w3 := Below.trans HOK1.out hbel3; have HOW := Lib.hid hown3; have c0 := hok3.cell h0; have f0 : w3.frozen? ⟨g, 0, none⟩ = false := (by rw [Below.frozen hok3 (p := ⟨g, 0, none⟩) hgs]; exact h3); have HOK3 := Lib.hid hok3; clear hown3 hbel3 hok3))
        go_ret
        exact HEND.out _ _ _ _ HOW.out HOK3.out HD2.out
      · have HD2 : Hid (BytesIn W0 (.slice (some (a.add N)) (l - N) (c - N)) ds) := Lib.hid (by
          have := HD.out
          rwa [if_neg hcN] at this)
        go_wp2_with (at_builtin; go_must (refine wpList_app rfl (.tmp 23) (.tmp 29) rfl w1.heap.size (.slice (some ⟨w1.heap.size, 0, none⟩) 0 0) [] ts (.slice (some a) N c) rfl rfl HO1.out HT1.out (by rw [HTL.out]; have := HBM.out; simp only [List.length_nil]; omega) HOK1.out.size ?_; rw [List.length_nil, HTL.out, Nat.zero_add, HSL.out]; intro A' c' w3 hown3 hbel3; have hok3 : Ok w1 w3 := Below.trans HOK1.out hbel3; have HOW := Lib.hid hown3; have c0 := hok3.cell h0; have f0 : w3.frozen? ⟨g, 0, none⟩ = false := (by rw [Below.frozen hok3 (p := ⟨g, 0, none⟩) hgs]; exact h3); have HOK3 := Lib.hid hok3; clear hown3 hbel3 hok3))
        go_ret
        exact HEND.out _ _ _ _ HOW.out HOK3.out HD2.out
end Go.Proofs.Ytolfdncmlfnbdaa
