/- Contracts of the reader's rows, texts and flags, whether it has failed or not. -/
import Derived.Test.YtmbnknbbfipciaaWd
namespace Go.Proofs.Ytmbnknbbfipciaa
open Go.RowKit

/-- Behind a call of a reader: what it tells, and where it stands. -/
def RdQ (W0 : World) (g : Nat) (res : Value) (ys : List B8) (failed : Bool) (e : Ending) (w' : World) : Prop := e = .returned res ∧ Rd W0 g w' ys failed
theorem RdPost.q {W0 : World} {g : Nat} {w w' : World} {res : Value} {ys : List B8} {f : Bool} {e : Ending} (h : RdPost W0 g w res ys f e w') : RdQ W0 g res ys f e w' := ⟨h.1, h.2.1⟩

theorem bytes_take {w : World} {A : Option Addr} {n c N : Nat} {xs : List B8} (h : BytesIn w (.slice A n c) xs) (hN : N ≤ xs.length) : BytesIn w (.slice A N c) (xs.take N) := by
  rcases h with ⟨rfl, A', c', e, hA⟩ | ⟨b, o, c', e, hn, hm, hc⟩
  · simp only [Value.slice.injEq] at e
    obtain ⟨rfl, rfl, rfl⟩ := e
    obtain rfl : N = 0 := by simpa using hN
    exact .inl ⟨rfl, _, _, rfl, hA⟩
  · simp only [Value.slice.injEq] at e
    obtain ⟨rfl, rfl, rfl⟩ := e
    refine .inr ⟨b, o, c, by rw [List.length_take, Nat.min_eq_left hN], by rw [List.length_take]; omega, by rw [List.length_take]; omega, fun i hi => ?_⟩
    rw [List.length_take, Nat.min_eq_left hN] at hi
    rw [hc i (by omega)]
    simp [hi]
theorem bytes_drop {w : World} {A : Option Addr} {n c N : Nat} {xs : List B8} (h : BytesIn w (.slice A n c) xs) (hN : N ≤ xs.length) : BytesIn w (.slice (if c = N then A else A.map (·.add N)) (n - N) (c - N)) (xs.drop N) := by
  rcases h with ⟨rfl, A', c', e, hA⟩ | ⟨b, o, c', e, hn, hm, hc⟩
  · simp only [Value.slice.injEq] at e
    obtain ⟨rfl, rfl, rfl⟩ := e
    obtain rfl : N = 0 := by simpa using hN
    refine .inl ⟨rfl, _, _, rfl, fun e => ?_⟩
    have : A = none := by
      split at e
      · exact e
      · simpa using e
    have := hA this
    omega
  · simp only [Value.slice.injEq] at e
    obtain ⟨rfl, rfl, rfl⟩ := e
    by_cases h0 : N = xs.length
    · refine .inl ⟨by simp [h0], (if c = N then some ⟨b, o, none⟩ else (some (⟨b, o, none⟩ : Addr)).map (·.add N)), c - N, by rw [h0]; simp, fun e => ?_⟩
      split at e <;> cases e
    · have hne : c ≠ N := by omega
      rw [if_neg hne]
      refine .inr ⟨b, o + N, c - N, by simp only [Option.map, Addr.add]; split <;> simp_all, by rw [List.length_drop]; omega, by rw [List.length_drop]; omega, fun i hi => ?_⟩
      rw [List.length_drop] at hi
      rw [show o + N + i = o + (N + i) from by omega, hc (N + i) (by omega)]
      simp

theorem numQ (W0 : World) (g : Nat) (w : World) (xs : List B8) (m : Nat) (hm : m ≤ 4611686018427387903) (h : Rd W0 g w xs false) :
    Calls Try.prog 42 #[.pointer (some ⟨g, 0, none⟩), .int .i64 (m : Int)] w fun e w' => ∃ (N : Nat) (r : List B8) (f : Bool), RdQ W0 g (.int .i64 (N : Int)) r f e w' ∧ N ≤ m ∧ rowOf m xs = if r.length < N then ([], [], true) else (r.take N, r.drop N, f) := by
  refine (number_r W0 g w xs m hm h).mono fun e w' hp => ?_
  refine ⟨_, _, _, hp.q, ?_, ?_⟩
  · cases hrd : rd m xs with
    | none => simp [resN]
    | some p => exact (rd_enc _ _ _ _ hrd).2.1
  · unfold rowOf
    cases hrd : rd m xs with
    | none => simp [resN, resL, resF]
    | some p => by_cases hq : p.2.length < p.1 <;> simp [resN, resL, resF, hq]

set_option maxRecDepth 100000 in
set_option maxHeartbeats 2000000 in
theorem prow_r (W0 : World) (g : Nat) (w : World) (xs : List B8) (m : Nat) (hm : m ≤ 20000) (h : Rd W0 g w xs false) :
    Calls Try.prog 53 #[.pointer (some ⟨g, 0, none⟩), .int .i64 (m : Int)] w fun e w' => ∃ V, BytesIn W0 V (rowOf m xs).1 ∧ RdQ W0 g V (rowOf m xs).2.1 (rowOf m xs).2.2 e w' := by
  have HR := Lib.hid h
  clear h
  go_enter Try.func53, Try.ntmps53
  go_wp2_with fail
  refine (numQ W0 g w xs m (by omega) HR.out).mono ?_
  rintro e w1 ⟨N, r, f, ⟨rfl, hr1⟩, hNm, hro⟩
  have HRO := Lib.hid hro
  have HR1 := Lib.hid hr1
  clear hro
  obtain ⟨_, _, ⟨v, hv, h0⟩, h1, h2, h3, h4⟩ := hr1
  obtain ⟨A, c, rfl, hrm⟩ := hv.form
  have HV := Lib.hid hv
  have hcr : r.length ≤ c := by
    rcases hv with ⟨rfl, _⟩ | ⟨_, _, _, e, hc, _⟩
    · simp
    · simp only [Value.slice.injEq] at e; omega
  clear hv
  by_cases hlt : r.length < N
  · have HRO2 : Hid (rowOf m xs = ([], [], true)) := Lib.hid (by rw [HRO.out, if_pos hlt])
    have hd : decide ((r.length : Int) < (N : Int)) = true := decide_eq_true (by omega)
    have hd2 : decide (r.length < N) = true := decide_eq_true hlt
    go_wp2_with fail
    refine (fail_r W0 g _ _ _ HR1.out).mono ?_
    rintro e w2 ⟨rfl, hr2, _⟩
    have HR2 := Lib.hid hr2
    clear hr2
    go_wp2_with fail
    go_ret
    rw [HRO2.out]
    exact ⟨_, BytesIn.nil W0, rfl, HR2.out⟩
  · have HRO2 : Hid (rowOf m xs = (r.take N, r.drop N, f)) := Lib.hid (by rw [HRO.out, if_neg hlt])
    have hd : decide ((r.length : Int) < (N : Int)) = false := decide_eq_false (by omega)
    have hd2 : decide (r.length < N) = false := decide_eq_false hlt
    have HT : Hid (BytesIn W0 (.slice A N c) (r.take N)) := Lib.hid (bytes_take HV.out (by omega))
    have HD : Hid (BytesIn W0 (.slice (if c = N then A else A.map (·.add N)) (r.length - N) (c - N)) (r.drop N)) := Lib.hid (bytes_drop HV.out (by omega))
    have HF : Hid (∀ V, BytesIn W0 V (r.drop N) → Rd W0 g (w1.setCell ⟨g, 0, none⟩ V) (r.drop N) f) := Lib.hid fun V hV =>
      HR1.out.set hV ((Only.refl g w1).set 0 _) (by go_simp) (by go_simp) (by go_simp) (by go_simp) (by go_simp)
    generalize hl : r.length = l at *
    have HL := Lib.hid hl
    clear hl
    have hNl : N ≤ l := by omega
    have hNc : N ≤ c := by omega
    clear hlt HRO hrm hNm
    have hN0 : (0 : Int) ≤ (N : Int) := by omega
    have hN1 : (N : Int) ≤ (l : Int) := by omega
    have hN2 : (N : Int) ≤ (c : Int) := by omega
    cases A with
    | none =>
      have HD2 : Hid (BytesIn W0 (.slice none (l - N) (c - N)) (r.drop N)) := Lib.hid (by
        have := HD.out
        split at this <;> exact this)
      go_wp2_with fail
      go_ret
      rw [HRO2.out]
      exact ⟨_, HT.out, rfl, HF.out _ HD2.out⟩
    | some a =>
      by_cases hcN : c = N
      · have HD2 : Hid (BytesIn W0 (.slice (some a) 0 0) (r.drop N)) := Lib.hid (by
          have := HD.out
          rwa [if_pos hcN, show l - N = 0 by omega, show c - N = 0 by omega] at this)
        subst hcN
        go_wp2_with fail
        go_ret
        rw [HRO2.out]
        exact ⟨_, HT.out, rfl, HF.out _ HD2.out⟩
      · have HD2 : Hid (BytesIn W0 (.slice (some (a.add N)) (l - N) (c - N)) (r.drop N)) := Lib.hid (by
          have := HD.out
          rwa [if_neg hcN] at this)
        go_wp2_with fail
        go_ret
        rw [HRO2.out]
        exact ⟨_, HT.out, rfl, HF.out _ HD2.out⟩

set_option maxHeartbeats 400000 in
/-- A reader that has failed has nothing. -/
theorem num_dead (W0 : World) (g : Nat) (w : World) (xs : List B8) (n : Int) (h : Rd W0 g w xs true) :
    Calls Try.prog 20 #[.pointer (some ⟨g, 0, none⟩), .int .i64 n] w (RdQ W0 g (.int .i64 0) xs true) := by
  have HR := Lib.hid h
  clear h
  go_enter Try.func20, Try.ntmps20
  go_wp2_with fail
  refine (dead_r W0 g w _ true HR.out).mono ?_
  rintro e w' ⟨rfl, rfl⟩
  go_wp2_with fail
  go_ret
  exact ⟨rfl, HR.out⟩
set_option maxHeartbeats 1000000 in
theorem flag_dead (W0 : World) (g : Nat) (w : World) (xs : List B8) (h : Rd W0 g w xs true) :
    Calls Try.prog 39 #[.pointer (some ⟨g, 0, none⟩)] w (RdQ W0 g (.bool false) xs true) := by
  have HR := Lib.hid h
  clear h
  go_enter Try.func39, Try.ntmps39
  go_wp2_with fail
  refine (dead_r W0 g w _ true HR.out).mono ?_
  rintro e w' ⟨rfl, rfl⟩
  go_wp2_with fail
  go_ret
  exact ⟨rfl, HR.out⟩
set_option maxHeartbeats 1000000 in
theorem row_dead (W0 : World) (g : Nat) (w : World) (xs : List B8) (n : Int) (h : Rd W0 g w xs true) :
    Calls Try.prog 38 #[.pointer (some ⟨g, 0, none⟩), .int .i64 n] w (RdQ W0 g (.slice none 0 0) xs true) := by
  have HR := Lib.hid h
  clear h
  go_enter Try.func38, Try.ntmps38
  go_wp2_with fail
  refine (dead_r W0 g w _ true HR.out).mono ?_
  rintro e w' ⟨rfl, rfl⟩
  go_wp2_with fail
  go_ret
  exact ⟨rfl, HR.out⟩
set_option maxHeartbeats 1000000 in
theorem text_dead (W0 : World) (g : Nat) (w : World) (xs : List B8) (n : Int) (h : Rd W0 g w xs true) :
    Calls Try.prog 40 #[.pointer (some ⟨g, 0, none⟩), .int .i64 n] w (RdQ W0 g (.string { data := #[] }) xs true) := by
  have HR := Lib.hid h
  clear h
  go_enter Try.func40, Try.ntmps40
  go_wp2_with fail
  refine (dead_r W0 g w _ true HR.out).mono ?_
  rintro e w' ⟨rfl, rfl⟩
  go_wp2_with fail
  go_ret
  exact ⟨rfl, HR.out⟩

/-- A row: a copy of what is read. -/
def RowP (W0 : World) (g : Nat) (bs ys : List B8) (f : Bool) (e : Ending) (w' : World) : Prop := ∃ A c, e = .returned (.slice A bs.length c) ∧ BytesIn w' (.slice A bs.length c) bs ∧ Rd W0 g w' ys f
theorem rowOf_len (m : Nat) (xs : List B8) : (rowOf m xs).1.length ≤ m := by
  unfold rowOf
  split
  · rename_i n r hr
    split
    · simp
    · have := (rd_enc _ _ _ _ hr).2.1
      simp; omega
  · simp
set_option maxRecDepth 100000 in
set_option maxHeartbeats 2000000 in
theorem row_r (W0 : World) (g : Nat) (w : World) (xs : List B8) (m : Nat) (hm : m ≤ 20000) (h : Rd W0 g w xs false) :
    Calls Try.prog 38 #[.pointer (some ⟨g, 0, none⟩), .int .i64 (m : Int)] w (RowP W0 g (rowOf m xs).1 (rowOf m xs).2.1 (rowOf m xs).2.2) := by
  have HR := Lib.hid h
  clear h
  have HLEN := Lib.hid (rowOf_len m xs)
  go_enter Try.func38, Try.ntmps38
  go_wp2_with fail
  refine (dead_r W0 g w _ false HR.out).mono ?_
  rintro e w' ⟨rfl, rfl⟩
  go_wp2_with fail
  refine (prow_r W0 g w xs m hm HR.out).mono ?_
  rintro e w1 ⟨V, hV, rfl, hr1⟩
  generalize (rowOf m xs).1 = bs at *
  generalize (rowOf m xs).2.1 = ys at *
  generalize (rowOf m xs).2.2 = f at *
  obtain ⟨A, c, rfl, _⟩ := hV.form
  have HV := Lib.hid hV
  have HR1 := Lib.hid hr1
  have HV1 : Hid (BytesIn w1 (.slice A bs.length c) bs) := Lib.hid (hr1.2.1.bytes hV)
  have HON : Hid (OwnN w1 w1.heap.size (.slice none 0 0) []) := Lib.hid (World.ownsRow_nil _ _ _ _)
  clear hV hr1
  go_wp2_with (at_builtin; go_must (refine wpList_app rfl (.const (.slice none 0 0)) (.tmp 11) rfl w1.heap.size (.slice none 0 0) [] bs (.slice A bs.length c) rfl rfl HON.out HV1.out (by have := HLEN.out; simp; omega) (Nat.le_refl _) ?_; intro A' c' w2 hown2 hbel2; simp only [List.nil_append, List.length_nil, Nat.zero_add] at hown2 ⊢; have HOWN2 := Lib.hid hown2; have HBEL2 := Lib.hid hbel2; clear hown2 hbel2))
  go_ret
  exact ⟨A', c', rfl, HOWN2.out.bytes (by have := HLEN.out; omega), HR1.out.ok HBEL2.out⟩

/-- A flag. -/
theorem flag_at (b : Bool) (xs : List B8) : (rdI (.flag b) xs false).1 = (match xs with | [] => [] | y :: r => if y.toNat ≤ 1 then r else []) := by
  cases xs with
  | nil => rfl
  | cons y r => simp only [rdI, Bool.false_eq_true, if_false]; split <;> rfl
def flagV : List B8 → Bool | [] => false | y :: _ => decide (y = 1#8)
def flagR : List B8 → List B8 | [] => [] | y :: r => if y.toNat ≤ 1 then r else []
def flagF : List B8 → Bool | [] => true | y :: _ => !decide (y.toNat ≤ 1)
theorem rdI_flag (b : Bool) (xs : List B8) : rdI (.flag b) xs false = (flagR xs, flagF xs, flagV xs == b) := by
  cases xs with
  | nil => cases b <;> rfl
  | cons y r =>
    simp only [rdI, Bool.false_eq_true, if_false, flagR, flagF, flagV]
    by_cases hy : y.toNat ≤ 1
    · simp [hy]
    · have : ¬ y = 1#8 := fun e => hy (by subst e; decide)
      cases b <;> simp [hy, this]
theorem ub_one (y : B8) : (ub y == 1) = decide (y = 1#8) := by
  have := ub_eq y 1#8
  rw [show ub 1#8 = 1 from rfl] at this
  rw [this]
  by_cases h : y = 1#8 <;> simp [h]
set_option maxRecDepth 100000 in
set_option maxHeartbeats 2000000 in
theorem flag_r (W0 : World) (g : Nat) (w : World) (xs : List B8) (h : Rd W0 g w xs false) :
    Calls Try.prog 39 #[.pointer (some ⟨g, 0, none⟩)] w (RdQ W0 g (.bool (flagV xs)) (flagR xs) (flagF xs)) := by
  have HR := Lib.hid h
  clear h
  cases xs with
  | nil =>
    go_enter Try.func39, Try.ntmps39
    go_wp2_with fail
    refine (dead_r W0 g w _ false HR.out).mono ?_
    rintro e w' ⟨rfl, rfl⟩
    go_wp2_with fail
    refine (octet_none W0 g w false HR.out).mono ?_
    rintro e w1 ⟨rfl, hr1, _⟩
    have HR1 := Lib.hid hr1
    clear hr1
    go_wp2_with fail
    go_ret
    exact ⟨rfl, HR1.out⟩
  | cons y r =>
    have HO := Lib.hid (ub_one y)
    have HU := Lib.hid (ub_lo y)
    by_cases hy : y.toNat ≤ 1
    · have hd : decide ((1 : Int) < ub y) = false := decide_eq_false (by unfold ub; omega)
      have HF : Hid (flagR (y :: r) = r ∧ flagF (y :: r) = false) := Lib.hid (by simp [flagR, flagF, hy])
      clear hy
      go_enter Try.func39, Try.ntmps39
      go_wp2_with fail
      refine (dead_r W0 g w _ false HR.out).mono ?_
      rintro e w' ⟨rfl, rfl⟩
      go_wp2_with fail
      refine (octet_some W0 g w y r false HR.out).mono ?_
      rintro e w1 ⟨rfl, hr1, _⟩
      have HR1 := Lib.hid hr1
      clear hr1
      go_wp2_with fail
      go_ret
      rw [HF.out.1, HF.out.2]
      exact ⟨by rw [HO.out]; rfl, HR1.out⟩
    · have hd : decide ((1 : Int) < ub y) = true := decide_eq_true (by unfold ub; omega)
      have HF : Hid (flagR (y :: r) = [] ∧ flagF (y :: r) = true) := Lib.hid (by simp [flagR, flagF, hy])
      clear hy
      go_enter Try.func39, Try.ntmps39
      go_wp2_with fail
      refine (dead_r W0 g w _ false HR.out).mono ?_
      rintro e w' ⟨rfl, rfl⟩
      go_wp2_with fail
      refine (octet_some W0 g w y r false HR.out).mono ?_
      rintro e w1 ⟨rfl, hr1, _⟩
      have HR1 := Lib.hid hr1
      clear hr1
      go_wp2_with fail
      refine (fail_r W0 g _ _ _ HR1.out).mono ?_
      rintro e w2 ⟨rfl, hr2, _⟩
      have HR2 := Lib.hid hr2
      clear hr2
      go_wp2_with fail
      go_ret
      rw [HF.out.1, HF.out.2]
      exact ⟨by rw [HO.out]; rfl, HR2.out⟩
end Go.Proofs.Ytmbnknbbfipciaa
