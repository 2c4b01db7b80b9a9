/- The document's own reader: one number; the program's reader, failed or not. -/
import Derived.Test.YtebhcadolnjplaaGreatXf
import Derived.Deep.DeepCutAuto
import Derived.Deep.RegionHeld3
namespace Go.Proofs.YtebhcadolnjplaaGreat
open Go.RowKit

def topN : Nat := 4611686018427387903
theorem rdF_top (m : Nat) (hm : m ≤ topN) : ∀ (f k n : Nat) (xs : List B8), rdF m f k n xs = (rdF topN f k n xs).bind fun p => if p.1 ≤ m then some p else none
  | 0, _, _, _ => rfl
  | _ + 1, _, _, [] => rfl
  | f + 1, k, n, y :: r => by
    rw [rdF, rdF]
    by_cases h : 127 < y.toNat
    · rw [if_pos h, if_pos h]; exact rdF_top m hm f _ _ r
    · rw [if_neg h, if_neg h]
      generalize n + y.toNat % 128 * 128 ^ k = N
      by_cases h1 : y.toNat = 0 ∧ 0 < k
      · have e1 : (y.toNat = 0 ∧ 0 < k) ∨ m < N := Or.inl h1
        have e2 : (y.toNat = 0 ∧ 0 < k) ∨ topN < N := Or.inl h1
        rw [if_pos e1, if_pos e2]; rfl
      · by_cases h2 : topN < N
        · have e1 : (y.toNat = 0 ∧ 0 < k) ∨ m < N := Or.inr (by omega)
          have e2 : (y.toNat = 0 ∧ 0 < k) ∨ topN < N := Or.inr h2
          rw [if_pos e1, if_pos e2]; rfl
        · have e2 : ¬ ((y.toNat = 0 ∧ 0 < k) ∨ topN < N) := fun h => h.elim h1 h2
          rw [if_neg e2]
          by_cases h3 : m < N
          · have e1 : (y.toNat = 0 ∧ 0 < k) ∨ m < N := Or.inr h3
            rw [if_pos e1]
            simp only [Option.bind_some]
            rw [if_neg (by omega)]
          · have e1 : ¬ ((y.toNat = 0 ∧ 0 < k) ∨ m < N) := fun h => h.elim h1 h3
            rw [if_neg e1]
            simp only [Option.bind_some]
            rw [if_pos (by omega)]
/-- The number that bytes begin with, and how many they are. -/
def getM (xs : List B8) : Nat × Nat := match rd topN xs with
  | none => (0, 0)
  | some (n, r) => (n, xs.length - r.length)
theorem rdF_drop (m f k n : Nat) : ∀ (xs r : List B8) (N : Nat), rdF m f k n xs = some (N, r) → r = xs.drop (xs.length - r.length) := by
  induction f generalizing k n with
  | zero => intro xs r N h; cases h
  | succ f ih =>
    intro xs r N h
    cases xs with
    | nil => cases h
    | cons y xs =>
      rw [rdF] at h
      split at h
      · have h1 := ih _ _ _ _ _ h
        have h2 := (rdF_le _ _ _ _ _ _ _ h).2
        rw [List.length_cons, show xs.length + 1 - r.length = (xs.length - r.length) + 1 from by omega, List.drop_succ_cons]
        exact h1
      · split at h
        · cases h
        · simp only [Option.some.injEq, Prod.mk.injEq] at h
          obtain ⟨_, rfl⟩ := h
          rw [List.length_cons, show xs.length + 1 - xs.length = 1 from by omega]; rfl

set_option maxRecDepth 100000 in
set_option maxHeartbeats 2000000 in
theorem get_w (v : Value) (xs : List B8) (w : World) (h : BytesIn w v xs) :
    Calls Tryz.prog 133 #[v] w fun e w' => e = .returned (.tuple #[.int .i64 ((getM xs).1 : Int), .int .i64 ((getM xs).2 : Int)]) ∧ w = w' := by
  obtain ⟨A, c, rfl, hmax⟩ := h.form
  have HB := Lib.hid h
  have H0 : Hid (rd topN xs = rdF topN 9 0 0 xs) := Lib.hid rfl
  have HG : Hid (∀ r, rd topN xs = r → getM xs = match r with | none => (0, 0) | some (n, r) => (n, xs.length - r.length)) := Lib.hid fun r e => by rw [← e]; rfl
  generalize getM xs = R at HG ⊢
  obtain ⟨L, hL⟩ : ∃ L, xs.length = L := ⟨_, rfl⟩
  have HL := Lib.hid hL
  rw [hL] at HB hmax ⊢
  clear h hL
  go_enter Tryz.func133, Tryz.ntmps133
  go_wp2_with fail
  go_loop [4, 5] (fun x s => ∃ (k n : Nat), s = .int .i64 (k : Int) ∧ x = .int .i64 (n : Int) ∧ k ≤ 9 ∧ k ≤ L ∧ n < 128 ^ k ∧ rd topN xs = rdF topN (9 - k) k n (xs.drop k)) (fun _ s => 9 - (intOf s).toNat)
  case atStart => exact ⟨0, 0, rfl, rfl, by omega, by omega, by decide, H0.out⟩
  case round =>
    obtain ⟨k, n, rfl, rfl, hk, hkL, hn, he⟩ := hrel
    have HE := Lib.hid he
    have HNK := Lib.hid hn
    clear he hn
    by_cases hlt : k < L
    · have d1 : decide ((k : Int) < (L : Int)) = true := decide_eq_true (by omega)
      by_cases h9 : k < 9
      · have d2 : decide ((k : Int) < 9) = true := decide_eq_true (by omega)
        obtain ⟨b, o, rfl, hc⟩ : ∃ b o, A = some ⟨b, o, none⟩ ∧ w.cell? ⟨b, o + k, none⟩ = some (.int .u8 (ub (xs.getD k 0#8))) := by
          rcases HB.out with ⟨e, _⟩ | ⟨b, o, c', e, _, _, hc⟩
          · have := HL.out; rw [e] at this; simp at this; omega
          · simp only [Value.slice.injEq] at e
            exact ⟨b, o, e.1, hc k (by rw [HL.out]; exact hlt)⟩
        have HD : Hid (xs.drop k = xs.getD k 0#8 :: xs.drop (k + 1)) := Lib.hid (by
          rw [List.drop_eq_getElem_cons (by rw [HL.out]; exact hlt)]
          simp [HL.out, hlt])
        generalize xs.getD k 0#8 = y at hc HD
        have hi0 : (0 : Int) ≤ (k : Int) := Int.natCast_nonneg _
        have hi1 : (k : Int) < (L : Int) := by omega
        have ha := and127b y
        have hor := or_byte n k y HNK.out (by omega)
        have HST := Lib.hid (pow_step n y.toNat k HNK.out)
        have hbig : n + y.toNat % 128 * 128 ^ k < 9223372036854775808 := Nat.lt_of_lt_of_le HST.out (Nat.le_trans (pow_le9 (k + 1) (by omega)) (by decide))
        have HRD : Hid (rdF topN (9 - k) k n (y :: xs.drop (k + 1)) = if 127 < y.toNat then rdF topN (9 - (k + 1)) (k + 1) (n + y.toNat % 128 * 128 ^ k) (xs.drop (k + 1)) else if (y.toNat = 0 ∧ 0 < k) ∨ topN < n + y.toNat % 128 * 128 ^ k then none else some (n + y.toNat % 128 * 128 ^ k, xs.drop (k + 1))) := Lib.hid (by
          rw [show 9 - k = (9 - (k + 1)) + 1 from by omega]; rfl)
        have HE := Lib.hid (HE.out.trans ((congrArg (rdF topN (9 - k) k n) HD.out).trans HRD.out))
        have HBIG := Lib.hid hbig
        clear hbig HRD HD
        generalize hN : n + y.toNat % 128 * 128 ^ k = N at *
        have hNn : (0 : Int) ≤ (N : Int) := Int.natCast_nonneg _
        have hn0 : decide ((N : Int) < 0) = false := decide_eq_false (by omega)
        clear hN hNn
        by_cases hy : 127 < y.toNat
        · have hd1 : decide (ub y < 128) = false := decide_eq_false (by unfold ub; omega)
          have HE2 := Lib.hid (HE.out.trans (if_pos hy))
          clear hy
          go_wp2
          go_round
          case rel => exact ⟨k + 1, N, by go_num, rfl, by omega, by omega, HST.out, HE2.out⟩
          case measure => simp [intOf]; omega
        · have hd1 : decide (ub y < 128) = true := decide_eq_true (by unfold ub; omega)
          have HE := Lib.hid (HE.out.trans (if_neg hy))
          by_cases hz : y.toNat = 0 ∧ 0 < k
          · have HE := Lib.hid (HG.out _ (HE.out.trans (if_pos (Or.inl hz))))
            have hz0 : (ub y == 0) = true := by rw [beq_iff_eq]; unfold ub; omega
            have hz2 : decide ((0 : Int) < (k : Int)) = true := decide_eq_true (by omega)
            have hk0 : 0 < k := hz.2
            clear hy hz
            go_wp2
            go_ret2
            rw [HE.out]
            exact ⟨rfl, rfl⟩
          · by_cases hb1 : topN < N
            · have HE := Lib.hid (HG.out _ (HE.out.trans (if_pos (Or.inr hb1))))
              have hd2 : decide ((4611686018427387903 : Int) < (N : Int)) = true := decide_eq_true (by unfold topN at hb1; omega)
              by_cases hk0 : 0 < k
              · have hz0 : (ub y == 0) = false := by rw [beq_eq_false_iff_ne]; unfold ub; omega
                have hz2 : decide ((0 : Int) < (k : Int)) = true := decide_eq_true (by omega)
                clear hy hz hb1
                go_wp2
                go_ret2
                rw [HE.out]
                exact ⟨rfl, rfl⟩
              · have hz2 : decide ((0 : Int) < (k : Int)) = false := decide_eq_false (by omega)
                clear hy hz hb1
                go_wp2
                go_ret2
                rw [HE.out]
                exact ⟨rfl, rfl⟩
            · have e3 : ¬ ((y.toNat = 0 ∧ 0 < k) ∨ topN < N) := fun h => h.elim hz hb1
              have HE := Lib.hid (HG.out _ (HE.out.trans (if_neg e3)))
              have hd2 : decide ((4611686018427387903 : Int) < (N : Int)) = false := decide_eq_false (by unfold topN at hb1; omega)
              have HK1 : Hid (L - (xs.drop (k + 1)).length = k + 1) := Lib.hid (by rw [List.length_drop, HL.out]; omega)
              have HF : Hid (R = (N, k + 1)) := Lib.hid (by
                rw [HE.out]
                show (N, xs.length - (xs.drop (k + 1)).length) = _
                rw [HL.out, HK1.out])
              clear e3 hb1
              by_cases hk0 : 0 < k
              · have hz0 : (ub y == 0) = false := by rw [beq_eq_false_iff_ne]; unfold ub; omega
                have hz2 : decide ((0 : Int) < (k : Int)) = true := decide_eq_true (by omega)
                clear hy hz
                go_wp2
                go_ret2
                rw [HF.out]
                exact ⟨by go_num, rfl⟩
              · have hz2 : decide ((0 : Int) < (k : Int)) = false := decide_eq_false (by omega)
                clear hy hz
                go_wp2
                go_ret2
                rw [HF.out]
                exact ⟨by go_num, rfl⟩
      · have d2 : decide ((k : Int) < 9) = false := decide_eq_false (by omega)
        have HE := Lib.hid (HG.out _ (HE.out.trans (by rw [show 9 - k = 0 from by omega]; rfl : _ = none)))
        go_wp2
        go_ret2
        rw [HE.out]
        exact ⟨rfl, rfl⟩
    · have d1 : decide ((k : Int) < (L : Int)) = false := decide_eq_false (by omega)
      have HD : Hid (xs.drop k = []) := Lib.hid (List.drop_eq_nil_of_le (by rw [HL.out]; omega))
      have HE := Lib.hid (HG.out _ (HE.out.trans (by rw [HD.out]; cases 9 - k <;> rfl : _ = none)))
      go_wp2
      go_ret2
      rw [HE.out]
      exact ⟨rfl, rfl⟩
end Go.Proofs.YtebhcadolnjplaaGreat
namespace Go.Proofs.YtebhcadolnjplaaGreat
open Go.RowKit

theorem bytes_take {w : World} {A : Option Addr} {n c N : Nat} {xs : List B8} (h : BytesIn w (.slice A n c) xs) (hN : N ≤ xs.length) : BytesIn w (.slice A N c) (xs.take N) := by
  rcases h with ⟨rfl, A', c', e, hA⟩ | ⟨b, o, c', e, hn, hm, hc⟩
  · simp only [Value.slice.injEq] at e
    obtain ⟨rfl, rfl, rfl⟩ := e
    obtain rfl : N = 0 := by simpa using hN
    exact .inl ⟨rfl, _, _, rfl, hA⟩
  · simp only [Value.slice.injEq] at e
    obtain ⟨rfl, rfl, rfl⟩ := e
    refine .inr ⟨b, o, c, by rw [List.length_take, Nat.min_eq_left hN], by rw [List.length_take]; omega, by rw [List.length_take]; omega, fun i hi => ?_⟩
    rw [List.length_take, Nat.min_eq_left hN] at hi
    rw [hc i (by omega)]
    simp [hi]
theorem bytes_drop {w : World} {A : Option Addr} {n c N : Nat} {xs : List B8} (h : BytesIn w (.slice A n c) xs) (hN : N ≤ xs.length) : BytesIn w (.slice (if c = N then A else A.map (·.add N)) (n - N) (c - N)) (xs.drop N) := by
  rcases h with ⟨rfl, A', c', e, hA⟩ | ⟨b, o, c', e, hn, hm, hc⟩
  · simp only [Value.slice.injEq] at e
    obtain ⟨rfl, rfl, rfl⟩ := e
    obtain rfl : N = 0 := by simpa using hN
    refine .inl ⟨rfl, _, _, rfl, fun e => ?_⟩
    have : A = none := by
      split at e
      · exact e
      · simpa using e
    have := hA this
    omega
  · simp only [Value.slice.injEq] at e
    obtain ⟨rfl, rfl, rfl⟩ := e
    by_cases h0 : N = xs.length
    · refine .inl ⟨by simp [h0], (if c = N then some ⟨b, o, none⟩ else (some (⟨b, o, none⟩ : Addr)).map (·.add N)), c - N, by rw [h0]; simp, fun e => ?_⟩
      split at e <;> cases e
    · have hne : c ≠ N := by omega
      rw [if_neg hne]
      refine .inr ⟨b, o + N, c - N, by simp only [Option.map, Addr.add]; split <;> simp_all, by rw [List.length_drop]; omega, by rw [List.length_drop]; omega, fun i hi => ?_⟩
      rw [List.length_drop] at hi
      rw [show o + N + i = o + (N + i) from by omega, hc (N + i) (by omega)]
      simp


/-- A document's reader at block m. -/
def Rf (W0 : World) (m : Nat) (w : World) (xs : List B8) (f : Bool) : Prop :=
  W0.heap.size ≤ m ∧ Ok W0 w ∧ (∃ v, BytesIn W0 v xs ∧ w.cell? ⟨m, 0, none⟩ = some v) ∧ w.cell? ⟨m, 1, none⟩ = some (.bool f) ∧ w.frozen? ⟨m, 0, none⟩ = false ∧ w.frozen? ⟨m, 1, none⟩ = false
theorem Rf.set {W0 : World} {m : Nat} {w : World} {xs ys : List B8} {f f' : Bool} {v : Value} (h : Rf W0 m w xs f) (hy : BytesIn W0 v ys) {w' : World} (ho : Only m w w')
    (h0 : w'.cell? ⟨m, 0, none⟩ = some v) (h1 : w'.cell? ⟨m, 1, none⟩ = some (.bool f')) (h3 : w'.frozen? ⟨m, 0, none⟩ = false) (h4 : w'.frozen? ⟨m, 1, none⟩ = false) : Rf W0 m w' ys f' :=
  ⟨h.1, Below.trans h.2.1 (ho.below h.1), ⟨v, hy, h0⟩, h1, h3, h4⟩
def RfPost (W0 : World) (m : Nat) (w : World) (res : Value) (ys : List B8) (f : Bool) (e : Ending) (w' : World) : Prop := e = .returned res ∧ Rf W0 m w' ys f ∧ Only m w w'
/-- A number read: what is told, what is left, whether it has failed. -/
def numM (m : Nat) (xs : List B8) (f : Bool) : Nat × List B8 × Bool := if f = true then (0, xs, true) else (resN (rd m xs), resL (rd m xs), resF (rd m xs))
theorem numM_ok (m : Nat) (xs : List B8) (f : Bool) (h : f = true → xs = []) : (numM m xs f).2.2 = true → (numM m xs f).2.1 = [] := by
  unfold numM
  split
  · rename_i hf; intro _; exact h hf
  · cases rd m xs with
    | none => intro _; rfl
    | some p => intro e; cases e
theorem numM_le (m : Nat) (xs : List B8) (f : Bool) : (numM m xs f).1 ≤ m := by
  unfold numM
  split
  · exact Nat.zero_le _
  · cases hrd : rd m xs with
    | none => exact Nat.zero_le _
    | some p => exact (rd_enc _ _ _ _ hrd).2.1

set_option maxHeartbeats 400000 in
theorem Num_any (W0 : World) (g : Nat) (w : World) (xs : List B8) (f : Bool) (m : Nat) (hm : m ≤ topN) (h : Rd W0 g w xs f) :
    Calls Tryz.prog 84 #[.pointer (some ⟨g, 0, none⟩), .int .i64 (m : Int)] w (RdPost W0 g w (.int .i64 ((numM m xs f).1 : Int)) (numM m xs f).2.1 (numM m xs f).2.2) := by
  cases f with
  | false =>
    have := Number_r W0 g w xs m hm h
    simpa [numM] using this
  | true =>
    have HR := Lib.hid h
    have e : numM m xs true = (0, xs, true) := rfl
    rw [e]
    clear h e
    go_enter Tryz.func84, Tryz.ntmps84
    go_wp2_with fail
    refine (dead_r W0 g w _ true HR.out).mono ?_
    rintro e w' ⟨rfl, rfl⟩
    go_wp2_with fail
    go_ret
    exact ⟨rfl, HR.out, Only.refl _ _⟩

set_option maxHeartbeats 400000 in
theorem rfail_w (W0 : World) (m : Nat) (w : World) (xs : List B8) (f : Bool) (h : Rf W0 m w xs f) :
    Calls Tryz.prog 134 #[.pointer (some ⟨m, 0, none⟩)] w (RfPost W0 m w (.tuple #[]) [] true) := by
  have HR := Lib.hid h
  obtain ⟨_, _, ⟨v, _, h0⟩, h1, h3, h4⟩ := h
  have HF : Hid (RfPost W0 m w (.tuple #[]) [] true (.returned (.tuple #[])) ((w.setCell ⟨m, 1, none⟩ (.bool true)).setCell ⟨m, 0, none⟩ (.slice none 0 0))) := Lib.hid
    ⟨rfl, HR.out.set (BytesIn.nil W0) (((Only.refl m w).set 1 _).set 0 _) (by go_simp) (by go_simp) (by go_simp) (by go_simp), ((Only.refl m w).set 1 _).set 0 _⟩
  go_enter Tryz.func134, Tryz.ntmps134
  go_wp2
  go_end0
  exact HF.out

theorem rd_get (m : Nat) (hm : m ≤ topN) (xs : List B8) : ((getM xs).2 = 0 ∨ m < (getM xs).1) ∧ rd m xs = none ∨ ((getM xs).2 ≠ 0 ∧ (getM xs).1 ≤ m ∧ (getM xs).2 ≤ xs.length ∧ rd m xs = some ((getM xs).1, xs.drop (getM xs).2)) := by
  have h1 := rdF_top m hm 9 0 0 xs
  have h2 : rd m xs = rdF m 9 0 0 xs := rfl
  rw [h2, h1]
  unfold getM
  have h3 : rd topN xs = rdF topN 9 0 0 xs := rfl
  rw [← h3]
  cases hr : rd topN xs with
  | none => exact .inl ⟨.inl rfl, rfl⟩
  | some p =>
    obtain ⟨n, r⟩ := p
    have hle := rdF_le _ _ _ _ _ _ _ (h3.symm.trans hr)
    have hdr := rdF_drop _ _ _ _ _ _ _ (h3.symm.trans hr)
    simp only [Option.bind_some]
    by_cases hn : n ≤ m
    · rw [if_pos hn]
      exact .inr ⟨by omega, hn, by omega, by rw [← hdr]⟩
    · rw [if_neg hn]
      exact .inl ⟨.inr (by omega), rfl⟩

set_option maxRecDepth 100000 in
set_option maxHeartbeats 2000000 in
theorem rnum_w (W0 : World) (g : Nat) (w : World) (xs : List B8) (f : Bool) (m : Nat) (hm : m ≤ topN) (h : Rf W0 g w xs f) :
    Calls Tryz.prog 87 #[.pointer (some ⟨g, 0, none⟩), .int .i64 (m : Int)] w (RfPost W0 g w (.int .i64 ((numM m xs f).1 : Int)) (numM m xs f).2.1 (numM m xs f).2.2) := by
  have HR := Lib.hid h
  obtain ⟨_, hok, ⟨v, hv, h0⟩, h1, h3, h4⟩ := h
  cases f with
  | true =>
    have e : numM m xs true = (0, xs, true) := rfl
    rw [e]
    clear e
    go_enter Tryz.func87, Tryz.ntmps87
    go_wp2
    go_ret
    exact ⟨rfl, HR.out, Only.refl _ _⟩
  | false =>
    obtain ⟨A, c, rfl, _⟩ := hv.form
    have HV := Lib.hid hv
    have HG := Lib.hid (get_w _ xs w (hok.bytes hv))
    have hcr : xs.length ≤ c := by
      rcases hv with ⟨rfl, _⟩ | ⟨_, _, _, e, hc, _⟩
      · simp
      · simp only [Value.slice.injEq] at e; omega
    have hcase := rd_get m hm xs
    have HNM : Hid (numM m xs false = (resN (rd m xs), resL (rd m xs), resF (rd m xs))) := Lib.hid rfl
    generalize rd m xs = R at hcase HNM
    generalize getM xs = P at HG hcase
    obtain ⟨n, N⟩ := P
    simp only at HG hcase
    generalize numM m xs false = Z at HNM ⊢
    clear hv hok
    rcases hcase with ⟨hbad, hR⟩ | ⟨hb1, hb2, hb3, hR⟩
    · have HZ : Hid (Z = (0, [], true)) := Lib.hid (by rw [HNM.out, hR]; rfl)
      clear hR HNM
      by_cases hN : N = 0
      · have d1 : ((N : Int) == 0) = true := beq_iff_eq.2 (by omega)
        clear hN hbad
        go_enter Tryz.func87, Tryz.ntmps87
        go_wp2_with fail
        refine HG.out.mono ?_
        rintro _ w1 ⟨rfl, rfl⟩
        go_wp2_with fail
        refine (rfail_w W0 g _ _ _ HR.out).mono ?_
        rintro _ w2 ⟨rfl, hr2, ho2⟩
        have HR2 := Lib.hid hr2
        have HO2 := Lib.hid ho2
        clear hr2 ho2
        go_wp2_with fail
        go_ret
        rw [HZ.out]
        exact ⟨rfl, HR2.out, HO2.out⟩
      · have d1 : ((N : Int) == 0) = false := beq_eq_false_iff_ne.2 (by omega)
        have d2 : decide ((m : Int) < (n : Int)) = true := decide_eq_true (by rcases hbad with h | h <;> omega)
        have d3 : decide (m < n) = true := decide_eq_true (by rcases hbad with h | h <;> omega)
        clear hN hbad
        go_enter Tryz.func87, Tryz.ntmps87
        go_wp2_with fail
        refine HG.out.mono ?_
        rintro _ w1 ⟨rfl, rfl⟩
        go_wp2_with fail
        refine (rfail_w W0 g _ _ _ HR.out).mono ?_
        rintro _ w2 ⟨rfl, hr2, ho2⟩
        have HR2 := Lib.hid hr2
        have HO2 := Lib.hid ho2
        clear hr2 ho2
        go_wp2_with fail
        go_ret
        rw [HZ.out]
        exact ⟨rfl, HR2.out, HO2.out⟩
    · have HZ : Hid (Z = (n, xs.drop N, false)) := Lib.hid (by rw [HNM.out, hR]; rfl)
      have d1 : ((N : Int) == 0) = false := beq_eq_false_iff_ne.2 (by omega)
      have d2 : decide ((m : Int) < (n : Int)) = false := decide_eq_false (by omega)
      have d3 : decide (m < n) = false := decide_eq_false (by omega)
      have HD : Hid (BytesIn W0 (.slice (if c = N then A else A.map (·.add N)) (xs.length - N) (c - N)) (xs.drop N)) := Lib.hid (bytes_drop HV.out hb3)
      have HF : Hid (∀ V, BytesIn W0 V (xs.drop N) → Rf W0 g (w.setCell ⟨g, 0, none⟩ V) (xs.drop N) false) := Lib.hid fun V hV =>
        HR.out.set hV ((Only.refl g w).set 0 _) (by go_simp) (by go_simp) (by go_simp) (by go_simp)
      clear hR HNM
      generalize hl : xs.length = l at *
      have HL := Lib.hid hl
      clear hl
      have hNl : N ≤ l := by omega
      have hNc : N ≤ c := by omega
      have hN0 : (0 : Int) ≤ (N : Int) := by omega
      have hN1 : (N : Int) ≤ (l : Int) := by omega
      have hN2 : (N : Int) ≤ (c : Int) := by omega
      clear hb1 hb2 hb3
      cases A with
      | none =>
        have HD2 : Hid (BytesIn W0 (.slice none (l - N) (c - N)) (xs.drop N)) := Lib.hid (by
          have := HD.out
          split at this <;> exact this)
        go_enter Tryz.func87, Tryz.ntmps87
        go_wp2_with fail
        refine HG.out.mono ?_
        rintro _ w1 ⟨rfl, rfl⟩
        go_wp2_with fail
        go_ret
        rw [HZ.out]
        exact ⟨rfl, HF.out _ HD2.out, (Only.refl g w).set 0 _⟩
      | some a =>
        by_cases hcN : c = N
        · have HD2 : Hid (BytesIn W0 (.slice (some a) 0 0) (xs.drop N)) := Lib.hid (by
            have := HD.out
            rwa [if_pos hcN, show l - N = 0 by omega, show c - N = 0 by omega] at this)
          subst hcN
          go_enter Tryz.func87, Tryz.ntmps87
          go_wp2_with fail
          refine HG.out.mono ?_
          rintro _ w1 ⟨rfl, rfl⟩
          go_wp2_with fail
          go_ret
          rw [HZ.out]
          exact ⟨rfl, HF.out _ HD2.out, (Only.refl g w).set 0 _⟩
        · have HD2 : Hid (BytesIn W0 (.slice (some (a.add N)) (l - N) (c - N)) (xs.drop N)) := Lib.hid (by
            have := HD.out
            rwa [if_neg hcN] at this)
          go_enter Tryz.func87, Tryz.ntmps87
          go_wp2_with fail
          refine HG.out.mono ?_
          rintro _ w1 ⟨rfl, rfl⟩
          go_wp2_with fail
          go_ret
          rw [HZ.out]
          exact ⟨rfl, HF.out _ HD2.out, (Only.refl g w).set 0 _⟩
end Go.Proofs.YtebhcadolnjplaaGreat
