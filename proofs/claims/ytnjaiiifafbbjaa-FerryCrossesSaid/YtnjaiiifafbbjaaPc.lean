/- The document's own reader: one number; the program's reader, failed or not. -/
import Derived.Test.YtnjaiiifafbbjaaPb
namespace Go.Proofs.Ytnjaiiifafbbjaa
open Go.RowKit

theorem bytes_take {w : World} {A : Option Addr} {n c N : Nat} {xs : List B8} (h : BytesIn w (.slice A n c) xs) (hN : N ≤ xs.length) : BytesIn w (.slice A N c) (xs.take N) := by
  rcases h with ⟨rfl, A', c', e, hA⟩ | ⟨b, o, c', e, hn, hm, hc⟩
  · simp only [Value.slice.injEq] at e
    obtain ⟨rfl, rfl, rfl⟩ := e
    obtain rfl : N = 0 := by simpa using hN
    exact .inl ⟨rfl, _, _, rfl, hA⟩
  · simp only [Value.slice.injEq] at e
    obtain ⟨rfl, rfl, rfl⟩ := e
    refine .inr ⟨b, o, c, by rw [List.length_take, Nat.min_eq_left hN], by rw [List.length_take]; omega, by rw [List.length_take]; omega, fun i hi => ?_⟩
    rw [List.length_take, Nat.min_eq_left hN] at hi
    rw [hc i (by omega)]
    simp [hi]
theorem bytes_drop {w : World} {A : Option Addr} {n c N : Nat} {xs : List B8} (h : BytesIn w (.slice A n c) xs) (hN : N ≤ xs.length) : BytesIn w (.slice (if c = N then A else A.map (·.add N)) (n - N) (c - N)) (xs.drop N) := by
  rcases h with ⟨rfl, A', c', e, hA⟩ | ⟨b, o, c', e, hn, hm, hc⟩
  · simp only [Value.slice.injEq] at e
    obtain ⟨rfl, rfl, rfl⟩ := e
    obtain rfl : N = 0 := by simpa using hN
    refine .inl ⟨rfl, _, _, rfl, fun e => ?_⟩
    have : A = none := by
      split at e
      · exact e
      · simpa using e
    have := hA this
    omega
  · simp only [Value.slice.injEq] at e
    obtain ⟨rfl, rfl, rfl⟩ := e
    by_cases h0 : N = xs.length
    · refine .inl ⟨by simp [h0], (if c = N then some ⟨b, o, none⟩ else (some (⟨b, o, none⟩ : Addr)).map (·.add N)), c - N, by rw [h0]; simp, fun e => ?_⟩
      split at e <;> cases e
    · have hne : c ≠ N := by omega
      rw [if_neg hne]
      refine .inr ⟨b, o + N, c - N, by simp only [Option.map, Addr.add]; split <;> simp_all, by rw [List.length_drop]; omega, by rw [List.length_drop]; omega, fun i hi => ?_⟩
      rw [List.length_drop] at hi
      rw [show o + N + i = o + (N + i) from by omega, hc (N + i) (by omega)]
      simp


/-- A document's reader at block m. -/
def Rf (W0 : World) (m : Nat) (w : World) (xs : List B8) (f : Bool) : Prop :=
  W0.heap.size ≤ m ∧ Ok W0 w ∧ (∃ v, BytesIn W0 v xs ∧ w.cell? ⟨m, 0, none⟩ = some v) ∧ w.cell? ⟨m, 1, none⟩ = some (.bool f) ∧ w.frozen? ⟨m, 0, none⟩ = false ∧ w.frozen? ⟨m, 1, none⟩ = false
theorem Rf.set {W0 : World} {m : Nat} {w : World} {xs ys : List B8} {f f' : Bool} {v : Value} (h : Rf W0 m w xs f) (hy : BytesIn W0 v ys) {w' : World} (ho : Only m w w')
    (h0 : w'.cell? ⟨m, 0, none⟩ = some v) (h1 : w'.cell? ⟨m, 1, none⟩ = some (.bool f')) (h3 : w'.frozen? ⟨m, 0, none⟩ = false) (h4 : w'.frozen? ⟨m, 1, none⟩ = false) : Rf W0 m w' ys f' :=
  ⟨h.1, Below.trans h.2.1 (ho.below h.1), ⟨v, hy, h0⟩, h1, h3, h4⟩
def RfPost (W0 : World) (m : Nat) (w : World) (res : Value) (ys : List B8) (f : Bool) (e : Ending) (w' : World) : Prop := e = .returned res ∧ Rf W0 m w' ys f ∧ Only m w w'
/-- A number read: what is told, what is left, whether it has failed. -/
def numM (m : Nat) (xs : List B8) (f : Bool) : Nat × List B8 × Bool := if f = true then (0, xs, true) else (resN (rd m xs), resL (rd m xs), resF (rd m xs))
theorem numM_ok (m : Nat) (xs : List B8) (f : Bool) (h : f = true → xs = []) : (numM m xs f).2.2 = true → (numM m xs f).2.1 = [] := by
  unfold numM
  split
  · rename_i hf; intro _; exact h hf
  · cases rd m xs with
    | none => intro _; rfl
    | some p => intro e; cases e
theorem numM_le (m : Nat) (xs : List B8) (f : Bool) : (numM m xs f).1 ≤ m := by
  unfold numM
  split
  · exact Nat.zero_le _
  · cases hrd : rd m xs with
    | none => exact Nat.zero_le _
    | some p => exact (rd_enc _ _ _ _ hrd).2.1

set_option maxHeartbeats 400000 in
theorem Num_any (W0 : World) (g : Nat) (w : World) (xs : List B8) (f : Bool) (m : Nat) (hm : m ≤ topN) (h : Rd W0 g w xs f) :
    Calls Try.prog 114 #[.pointer (some ⟨g, 0, none⟩), .int .i64 (m : Int)] w (RdPost W0 g w (.int .i64 ((numM m xs f).1 : Int)) (numM m xs f).2.1 (numM m xs f).2.2) := by
  cases f with
  | false =>
    have := Number_r W0 g w xs m hm h
    simpa [numM] using this
  | true =>
    have HR := Lib.hid h
    have e : numM m xs true = (0, xs, true) := rfl
    rw [e]
    clear h e
    go_enter Try.func114, Try.ntmps114
    go_wp2_with fail
    refine (dead_r W0 g w _ true HR.out).mono ?_
    rintro e w' ⟨rfl, rfl⟩
    go_wp2_with fail
    go_ret
    exact ⟨rfl, HR.out, Only.refl _ _⟩

set_option maxHeartbeats 400000 in
theorem rfail_w (W0 : World) (m : Nat) (w : World) (xs : List B8) (f : Bool) (h : Rf W0 m w xs f) :
    Calls Try.prog 136 #[.pointer (some ⟨m, 0, none⟩)] w (RfPost W0 m w (.tuple #[]) [] true) := by
  have HR := Lib.hid h
  obtain ⟨_, _, ⟨v, _, h0⟩, h1, h3, h4⟩ := h
  have HF : Hid (RfPost W0 m w (.tuple #[]) [] true (.returned (.tuple #[])) ((w.setCell ⟨m, 1, none⟩ (.bool true)).setCell ⟨m, 0, none⟩ (.slice none 0 0))) := Lib.hid
    ⟨rfl, HR.out.set (BytesIn.nil W0) (((Only.refl m w).set 1 _).set 0 _) (by go_simp) (by go_simp) (by go_simp) (by go_simp), ((Only.refl m w).set 1 _).set 0 _⟩
  go_enter Try.func136, Try.ntmps136
  go_wp2
  go_end0
  exact HF.out

theorem rd_get (m : Nat) (hm : m ≤ topN) (xs : List B8) : ((getM xs).2 = 0 ∨ m < (getM xs).1) ∧ rd m xs = none ∨ ((getM xs).2 ≠ 0 ∧ (getM xs).1 ≤ m ∧ (getM xs).2 ≤ xs.length ∧ rd m xs = some ((getM xs).1, xs.drop (getM xs).2)) := by
  have h1 := rdF_top m hm 9 0 0 xs
  have h2 : rd m xs = rdF m 9 0 0 xs := rfl
  rw [h2, h1]
  unfold getM
  have h3 : rd topN xs = rdF topN 9 0 0 xs := rfl
  rw [← h3]
  cases hr : rd topN xs with
  | none => exact .inl ⟨.inl rfl, rfl⟩
  | some p =>
    obtain ⟨n, r⟩ := p
    have hle := rdF_le _ _ _ _ _ _ _ (h3.symm.trans hr)
    have hdr := rdF_drop _ _ _ _ _ _ _ (h3.symm.trans hr)
    simp only [Option.bind_some]
    by_cases hn : n ≤ m
    · rw [if_pos hn]
      exact .inr ⟨by omega, hn, by omega, by rw [← hdr]⟩
    · rw [if_neg hn]
      exact .inl ⟨.inr (by omega), rfl⟩

set_option maxRecDepth 100000 in
set_option maxHeartbeats 2000000 in
theorem rnum_w (W0 : World) (g : Nat) (w : World) (xs : List B8) (f : Bool) (m : Nat) (hm : m ≤ topN) (h : Rf W0 g w xs f) :
    Calls Try.prog 116 #[.pointer (some ⟨g, 0, none⟩), .int .i64 (m : Int)] w (RfPost W0 g w (.int .i64 ((numM m xs f).1 : Int)) (numM m xs f).2.1 (numM m xs f).2.2) := by
  have HR := Lib.hid h
  obtain ⟨_, hok, ⟨v, hv, h0⟩, h1, h3, h4⟩ := h
  cases f with
  | true =>
    have e : numM m xs true = (0, xs, true) := rfl
    rw [e]
    clear e
    go_enter Try.func116, Try.ntmps116
    go_wp2
    go_ret
    exact ⟨rfl, HR.out, Only.refl _ _⟩
  | false =>
    obtain ⟨A, c, rfl, _⟩ := hv.form
    have HV := Lib.hid hv
    have HG := Lib.hid (get_w _ xs w (hok.bytes hv))
    have hcr : xs.length ≤ c := by
      rcases hv with ⟨rfl, _⟩ | ⟨_, _, _, e, hc, _⟩
      · simp
      · simp only [Value.slice.injEq] at e; omega
    have hcase := rd_get m hm xs
    have HNM : Hid (numM m xs false = (resN (rd m xs), resL (rd m xs), resF (rd m xs))) := Lib.hid rfl
    generalize rd m xs = R at hcase HNM
    generalize getM xs = P at HG hcase
    obtain ⟨n, N⟩ := P
    simp only at HG hcase
    generalize numM m xs false = Z at HNM ⊢
    clear hv hok
    rcases hcase with ⟨hbad, hR⟩ | ⟨hb1, hb2, hb3, hR⟩
    · have HZ : Hid (Z = (0, [], true)) := Lib.hid (by rw [HNM.out, hR]; rfl)
      clear hR HNM
      by_cases hN : N = 0
      · have d1 : ((N : Int) == 0) = true := beq_iff_eq.2 (by omega)
        clear hN hbad
        go_enter Try.func116, Try.ntmps116
        go_wp2_with fail
        refine HG.out.mono ?_
        rintro _ w1 ⟨rfl, rfl⟩
        go_wp2_with fail
        refine (rfail_w W0 g _ _ _ HR.out).mono ?_
        rintro _ w2 ⟨rfl, hr2, ho2⟩
        have HR2 := Lib.hid hr2
        have HO2 := Lib.hid ho2
        clear hr2 ho2
        go_wp2_with fail
        go_ret
        rw [HZ.out]
        exact ⟨rfl, HR2.out, HO2.out⟩
      · have d1 : ((N : Int) == 0) = false := beq_eq_false_iff_ne.2 (by omega)
        have d2 : decide ((m : Int) < (n : Int)) = true := decide_eq_true (by rcases hbad with h | h <;> omega)
        have d3 : decide (m < n) = true := decide_eq_true (by rcases hbad with h | h <;> omega)
        clear hN hbad
        go_enter Try.func116, Try.ntmps116
        go_wp2_with fail
        refine HG.out.mono ?_
        rintro _ w1 ⟨rfl, rfl⟩
        go_wp2_with fail
        refine (rfail_w W0 g _ _ _ HR.out).mono ?_
        rintro _ w2 ⟨rfl, hr2, ho2⟩
        have HR2 := Lib.hid hr2
        have HO2 := Lib.hid ho2
        clear hr2 ho2
        go_wp2_with fail
        go_ret
        rw [HZ.out]
        exact ⟨rfl, HR2.out, HO2.out⟩
    · have HZ : Hid (Z = (n, xs.drop N, false)) := Lib.hid (by rw [HNM.out, hR]; rfl)
      have d1 : ((N : Int) == 0) = false := beq_eq_false_iff_ne.2 (by omega)
      have d2 : decide ((m : Int) < (n : Int)) = false := decide_eq_false (by omega)
      have d3 : decide (m < n) = false := decide_eq_false (by omega)
      have HD : Hid (BytesIn W0 (.slice (if c = N then A else A.map (·.add N)) (xs.length - N) (c - N)) (xs.drop N)) := Lib.hid (bytes_drop HV.out hb3)
      have HF : Hid (∀ V, BytesIn W0 V (xs.drop N) → Rf W0 g (w.setCell ⟨g, 0, none⟩ V) (xs.drop N) false) := Lib.hid fun V hV =>
        HR.out.set hV ((Only.refl g w).set 0 _) (by go_simp) (by go_simp) (by go_simp) (by go_simp)
      clear hR HNM
      generalize hl : xs.length = l at *
      have HL := Lib.hid hl
      clear hl
      have hNl : N ≤ l := by omega
      have hNc : N ≤ c := by omega
      have hN0 : (0 : Int) ≤ (N : Int) := by omega
      have hN1 : (N : Int) ≤ (l : Int) := by omega
      have hN2 : (N : Int) ≤ (c : Int) := by omega
      clear hb1 hb2 hb3
      cases A with
      | none =>
        have HD2 : Hid (BytesIn W0 (.slice none (l - N) (c - N)) (xs.drop N)) := Lib.hid (by
          have := HD.out
          split at this <;> exact this)
        go_enter Try.func116, Try.ntmps116
        go_wp2_with fail
        refine HG.out.mono ?_
        rintro _ w1 ⟨rfl, rfl⟩
        go_wp2_with fail
        go_ret
        rw [HZ.out]
        exact ⟨rfl, HF.out _ HD2.out, (Only.refl g w).set 0 _⟩
      | some a =>
        by_cases hcN : c = N
        · have HD2 : Hid (BytesIn W0 (.slice (some a) 0 0) (xs.drop N)) := Lib.hid (by
            have := HD.out
            rwa [if_pos hcN, show l - N = 0 by omega, show c - N = 0 by omega] at this)
          subst hcN
          go_enter Try.func116, Try.ntmps116
          go_wp2_with fail
          refine HG.out.mono ?_
          rintro _ w1 ⟨rfl, rfl⟩
          go_wp2_with fail
          go_ret
          rw [HZ.out]
          exact ⟨rfl, HF.out _ HD2.out, (Only.refl g w).set 0 _⟩
        · have HD2 : Hid (BytesIn W0 (.slice (some (a.add N)) (l - N) (c - N)) (xs.drop N)) := Lib.hid (by
            have := HD.out
            rwa [if_neg hcN] at this)
          go_enter Try.func116, Try.ntmps116
          go_wp2_with fail
          refine HG.out.mono ?_
          rintro _ w1 ⟨rfl, rfl⟩
          go_wp2_with fail
          go_ret
          rw [HZ.out]
          exact ⟨rfl, HF.out _ HD2.out, (Only.refl g w).set 0 _⟩
end Go.Proofs.Ytnjaiiifafbbjaa
