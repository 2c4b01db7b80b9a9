/- Contracts of what tells whether two rows are the same, and how many of a row are in a set. -/
import Derived.Test.YtolfdncmlfnbdaaQb
namespace Go.Proofs.Ytolfdncmlfnbdaa
open Go.RowKit

theorem Ok.drewN' {w w' : World} (h : Ok w w') (n : Nat) : Ok w (w'.drewN n) := by
  obtain ⟨h1, h2, h3, h4, h5⟩ := h
  exact ⟨h1, h2, h3, h4, h5⟩
theorem take_same (xs ys : List Int) (k : Nat) (h : k < xs.length) (h' : k < ys.length) (e : xs.take k = ys.take k) (e1 : xs.getD k 0 = ys.getD k 0) : xs.take (k + 1) = ys.take (k + 1) := by
  rw [List.take_succ_eq_append_getElem h, List.take_succ_eq_append_getElem h', e]
  simp [h, h'] at e1
  rw [e1]
theorem not_same_at (xs ys : List Int) (k : Nat) (e1 : ¬ xs.getD k 0 = ys.getD k 0) : sameB xs ys = false := decide_eq_false (fun e => e1 (by rw [e]))
theorem not_same_len (xs ys : List Int) (e1 : ¬ xs.length = ys.length) : sameB xs ys = false := decide_eq_false (fun e => e1 (by rw [e]))

/-- Nothing has turned but what was drawn. -/
def Dr (W w : World) : Prop := ∃ m, w = W.drewN m
theorem Dr.refl (W : World) : Dr W W := ⟨0, rfl⟩
theorem Dr.drewN' {W w : World} (h : Dr W w) (n : Nat) : Dr W (w.drewN n) := by
  obtain ⟨m, rfl⟩ := h
  exact ⟨m + n, by simp [World.drewN, Nat.add_assoc]⟩
theorem Dr.trans {a b c : World} (h : Dr a b) (k : Dr b c) : Dr a c := by
  obtain ⟨m, rfl⟩ := k
  exact h.drewN' m
theorem Dr.ok {W w : World} (h : Dr W w) : Ok W w := by
  obtain ⟨m, rfl⟩ := h
  exact (Ok.refl W).drewN' m
set_option maxRecDepth 100000 in
set_option maxHeartbeats 1000000 in
theorem equal_d (va vb : Value) (xs ys : List Int) (W : World) (ha : InI W va xs) (hb : InI W vb ys) :
    Calls Try.prog 103 #[va, vb] W fun e w' => e = .returned (.bool (sameB xs ys)) ∧ Dr W w' := by
  obtain ⟨A, ca, rfl, hm⟩ := ha.form
  obtain ⟨B, cb, rfl, hm2⟩ := hb.form
  have HA := Lib.hid ha
  have HB := Lib.hid hb
  clear ha hb
  by_cases hlen : xs.length = ys.length
  · rw [← hlen] at HB ⊢
    clear hm2
    have HLE := Lib.hid hlen
    clear hlen
    generalize hn : xs.length = n at *
    have HN := Lib.hid hn
    clear hn
    have hne : ((n : Int) != n) = false := by simp
    go_enter Try.func103, Try.ntmps103
    go_wp2_with fail
    go_loopw [13] (fun i wr => ∃ k : Nat, k ≤ n ∧ i = .int .i64 k ∧ Dr W wr ∧ xs.take k = ys.take k) (fun i _ => n - (intOf i).toNat)
    case atStart => exact ⟨0, Nat.zero_le _, rfl, Dr.refl _, rfl⟩
    case round =>
      obtain ⟨k, hk, rfl, hok, htk⟩ := hrel
      by_cases hlt : k < n
      · obtain ⟨b, o, rfl, hc⟩ := (HA.out.at rfl k hlt).2
        obtain ⟨b', o', rfl, hc'⟩ := (HB.out.at rfl k hlt).2
        have hx := hok.ok.cell hc
        have hy := hok.ok.cell hc'
        have HO := Lib.hid hok
        have HT := Lib.hid (take_same xs ys k (by rw [HN.out]; exact hlt) (by rw [← HLE.out]; exact hlt) htk)
        have HF := Lib.hid (not_same_at xs ys k)
        clear hc hc' hok htk
        generalize xs.getD k 0 = y at *
        generalize ys.getD k 0 = z at *
        have hi0 : (0 : Int) ≤ (k : Int) := Int.natCast_nonneg _
        have hi1 : (k : Int) < (n : Int) := by omega
        by_cases hyz : y = z
        · have he : (y != z) = false := by simp [hyz]
          have HT2 := Lib.hid (HT.out hyz)
          clear HT HF
          go_wp2_with fail
          go_quiet (fail)
          go_wp2_with fail
          go_roundw
          case rel => exact ⟨k + 1, by omega, by go_num, HO.out.drewN' _, HT2.out⟩
          case measure => simp [intOf]; omega
        · have he : (y != z) = true := by simp [hyz]
          have HF2 := Lib.hid (HF.out hyz)
          clear HT HF
          go_wp2_with fail
          go_quiet (fail)
          go_wp2_with fail
          go_ret
          exact ⟨by rw [HF2.out]; rfl, HO.out.drewN' _⟩
      · have hke : k = n := by omega
        subst hke
        have HO := Lib.hid hok
        have HS : Hid (sameB xs ys = true) := Lib.hid (by
          rw [List.take_of_length_le (by rw [HN.out]; exact Nat.le_refl _), List.take_of_length_le (by rw [← HLE.out]; exact Nat.le_refl _)] at htk
          exact decide_eq_true htk)
        clear hok htk
        go_wp2_with fail
        go_ret
        exact ⟨by rw [HS.out]; rfl, HO.out⟩
  · have HS := Lib.hid (not_same_len xs ys hlen)
    have hne : ((xs.length : Int) != (ys.length : Int)) = true := by simp; omega
    generalize xs.length = n at *
    generalize ys.length = m at *
    go_enter Try.func103, Try.ntmps103
    go_wp2_with fail
    go_ret
    exact ⟨by rw [HS.out]; rfl, Dr.refl _⟩

theorem equal_q (va vb : Value) (xs ys : List Int) (W : World) (ha : InI W va xs) (hb : InI W vb ys) :
    Calls Try.prog 103 #[va, vb] W fun e w' => e = .returned (.bool (sameB xs ys)) ∧ Ok W w' := (equal_d va vb xs ys W ha hb).mono fun _ _ h => ⟨h.1, h.2.ok⟩

set_option maxRecDepth 100000 in
set_option maxHeartbeats 1000000 in
theorem sameInts_q (va vb : Value) (xs ys : List Int) (W : World) (ha : InI W va xs) (hb : InI W vb ys) :
    Calls Try.prog 55 #[va, vb] W fun e w' => e = .returned (.bool (sameB xs ys)) ∧ Ok W w' := by
  obtain ⟨A, ca, rfl, hm⟩ := ha.form
  obtain ⟨B, cb, rfl, hm2⟩ := hb.form
  have HA := Lib.hid ha
  have HB := Lib.hid hb
  clear ha hb
  by_cases hlen : xs.length = ys.length
  · rw [← hlen] at HB ⊢
    clear hm2
    have HLE := Lib.hid hlen
    clear hlen
    generalize hn : xs.length = n at *
    have HN := Lib.hid hn
    clear hn
    have hne : ((n : Int) != n) = false := by simp
    go_enter Try.func55, Try.ntmps55
    go_wp2_with fail
    go_loopw [5] (fun i wr => ∃ k : Nat, k ≤ n ∧ i = .int .i64 k ∧ Ok W wr ∧ xs.take k = ys.take k) (fun i _ => n - (intOf i).toNat)
    case atStart => exact ⟨0, Nat.zero_le _, rfl, Ok.refl _, rfl⟩
    case round =>
      obtain ⟨k, hk, rfl, hok, htk⟩ := hrel
      by_cases hlt : k < n
      · obtain ⟨b, o, rfl, hc⟩ := (HA.out.at rfl k hlt).2
        obtain ⟨b', o', rfl, hc'⟩ := (HB.out.at rfl k hlt).2
        have hx := hok.cell hc
        have hy := hok.cell hc'
        have HO := Lib.hid hok
        have HT := Lib.hid (take_same xs ys k (by rw [HN.out]; exact hlt) (by rw [← HLE.out]; exact hlt) htk)
        have HF := Lib.hid (not_same_at xs ys k)
        clear hc hc' hok htk
        generalize xs.getD k 0 = y at *
        generalize ys.getD k 0 = z at *
        have hi0 : (0 : Int) ≤ (k : Int) := Int.natCast_nonneg _
        have hi1 : (k : Int) < (n : Int) := by omega
        by_cases hyz : y = z
        · have he : (y != z) = false := by simp [hyz]
          have HT2 := Lib.hid (HT.out hyz)
          clear HT HF
          go_wp2_with fail
          go_quiet (fail)
          go_wp2_with fail
          go_roundw
          case rel => exact ⟨k + 1, by omega, by go_num, HO.out.drewN' _, HT2.out⟩
          case measure => simp [intOf]; omega
        · have he : (y != z) = true := by simp [hyz]
          have HF2 := Lib.hid (HF.out hyz)
          clear HT HF
          go_wp2_with fail
          go_quiet (fail)
          go_wp2_with fail
          go_ret
          exact ⟨by rw [HF2.out]; rfl, HO.out.drewN' _⟩
      · have hke : k = n := by omega
        subst hke
        have HO := Lib.hid hok
        have HS : Hid (sameB xs ys = true) := Lib.hid (by
          rw [List.take_of_length_le (by rw [HN.out]; exact Nat.le_refl _), List.take_of_length_le (by rw [← HLE.out]; exact Nat.le_refl _)] at htk
          exact decide_eq_true htk)
        clear hok htk
        go_wp2_with fail
        go_ret
        exact ⟨by rw [HS.out]; rfl, HO.out⟩
  · have HS := Lib.hid (not_same_len xs ys hlen)
    have hne : ((xs.length : Int) != (ys.length : Int)) = true := by simp; omega
    generalize xs.length = n at *
    generalize ys.length = m at *
    go_enter Try.func55, Try.ntmps55
    go_wp2_with fail
    go_ret
    exact ⟨by rw [HS.out]; rfl, Ok.refl _⟩

theorem cnt_take (xs s : List Int) (k : Nat) (h : k < xs.length) : cnt (xs.take (k + 1)) s = cnt (xs.take k) s + (if inB (xs.getD k 0) s then 1 else 0) := by
  rw [List.take_succ_eq_append_getElem h, cnt, cnt, List.filter_append, List.length_append]
  have : xs.getD k 0 = xs[k] := by simp [h]
  rw [this]
  cases hb : inB xs[k] s <;> simp [hb]
theorem cnt_le (xs s : List Int) : cnt xs s ≤ xs.length := List.length_filter_le _ _

set_option maxRecDepth 100000 in
set_option maxHeartbeats 1000000 in
theorem most_q (va vb : Value) (xs ys : List Int) (W : World) (ha : InI W va xs) (hb : InI W vb ys) :
    Calls Try.prog 113 #[va, vb] W fun e w' => e = .returned (.bool (mostB xs ys)) ∧ W = w' := by
  obtain ⟨A, ca, rfl, hm⟩ := ha.form
  have HA := Lib.hid ha
  have HB := Lib.hid hb
  clear ha hb
  generalize hn : xs.length = n at *
  have HN := Lib.hid hn
  clear hn
  go_enter Try.func113, Try.ntmps113
  go_wp2_with fail
  go_loopw [5, 10] (fun a i wr => ∃ (k m : Nat), k ≤ n ∧ m ≤ k ∧ i = .int .i64 k ∧ a = .int .i64 m ∧ W = wr ∧ m = cnt (xs.take k) ys) (fun _ i _ => n - (intOf i).toNat)
  case atStart => exact ⟨0, 0, Nat.zero_le _, Nat.zero_le _, rfl, rfl, rfl, rfl⟩
  case round =>
    obtain ⟨k, m, hk, hmk, rfl, rfl, rfl, hcnt⟩ := hrel
    by_cases hlt : k < n
    · obtain ⟨b, o, rfl, hc⟩ := (HA.out.at rfl k hlt).2
      have HC := Lib.hid hcnt
      have HT := Lib.hid (cnt_take xs ys k (by rw [HN.out]; exact hlt))
      clear hcnt
      generalize xs.getD k 0 = y at *
      have hi0 : (0 : Int) ≤ (k : Int) := Int.natCast_nonneg _
      have hi1 : (k : Int) < (n : Int) := by omega
      go_wp2_with fail
      refine (contains_q vb y ys W HB.out).mono ?_
      rintro e w1 ⟨rfl, rfl⟩
      cases hin : inB y ys with
      | true =>
        have HT2 : Hid (cnt (xs.take (k + 1)) ys = m + 1) := Lib.hid (by rw [HT.out, hin, HC.out]; rfl)
        clear hin HT
        go_wp2_with fail
        go_roundw
        case rel => exact ⟨k + 1, m + 1, by omega, by omega, by go_num, by go_num, trivial, HT2.out.symm⟩
        case measure => simp [intOf]; omega
      | false =>
        have HT2 : Hid (cnt (xs.take (k + 1)) ys = m) := Lib.hid (by rw [HT.out, hin, HC.out]; rfl)
        clear hin HT
        go_wp2_with fail
        go_roundw
        case rel => exact ⟨k + 1, m, by omega, by omega, by go_num, rfl, trivial, HT2.out.symm⟩
        case measure => simp [intOf]; omega
    · have hke : k = n := by omega
      subst hke
      have HM : Hid (mostB xs ys = decide ((k : Int) < 2 * (m : Int))) := Lib.hid (by
        rw [mostB, hcnt, List.take_of_length_le (by rw [HN.out]; exact Nat.le_refl _), HN.out]
        exact decide_eq_decide.2 (by omega))
      clear hcnt
      go_wp2_with fail
      go_ret
      exact ⟨by rw [HM.out]; rfl, rfl⟩
end Go.Proofs.Ytolfdncmlfnbdaa
