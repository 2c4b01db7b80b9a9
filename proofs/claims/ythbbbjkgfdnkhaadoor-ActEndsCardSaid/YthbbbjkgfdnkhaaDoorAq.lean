/- Numbers there and back; of two names one is older. -/
import Derived.Test.YthbbbjkgfdnkhaaDoorAm
namespace Go.Proofs.YthbbbjkgfdnkhaaDoor
open Go.RowKit
theorem digC_nat (m : Nat) : (digC m).toNat = 48 + m % 10 := by
  unfold digC
  rw [UInt8.toNat_ofNat']
  omega
theorem digC_dig (m : Nat) : digB (digC m) = true := by
  unfold digB
  rw [digC_nat]
  simp
  omega
theorem valF_snoc (n : Nat) (l : Chs) (c : UInt8) : valF n (l ++ [c]) = 10 * valF n l + (c.toNat - 48) := by
  unfold valF
  rw [List.foldl_append]
  rfl
theorem dec_facts (u : Nat) : (Lib.decDigits u).all digB = true ∧ valF 0 (Lib.decDigits u) = u := by
  induction u using Nat.strongRecOn with
  | _ u ih =>
    rw [dec_split, List.all_append, valF_snoc, digC_nat]
    by_cases h : 10 ≤ u
    · have h2 := ih (u / 10) (by omega)
      unfold decH
      rw [if_pos h, h2.1, h2.2]
      refine ⟨by simp [digC_dig], by omega⟩
    · unfold decH
      rw [if_neg h]
      refine ⟨by simp [digC_dig], ?_⟩
      show 10 * 0 + _ = _
      omega
theorem dec_neg (u : Nat) : negB (Lib.decDigits u) = false := by
  have h := (dec_facts u).1
  unfold negB
  cases hd : Lib.decDigits u with
  | nil => rfl
  | cons c t =>
    rw [hd] at h
    simp only [List.all_cons, Bool.and_eq_true] at h
    have h1 := h.1
    unfold digB at h1
    simp only [Bool.and_eq_true, decide_eq_true_eq] at h1
    simp only [List.head?_cons]
    have hc : c ≠ 45 := fun e => by
      rw [e] at h1
      have : (45 : UInt8).toNat = 45 := rfl
      omega
    simpa using hc
theorem num_val (n : Int) (h0 : -1073741824 ≤ n) (h1 : n ≤ 1073741824) : numV (valueT n).data.toList = n := by
  have hb : boundM n 1073741824 = n := by unfold boundM; omega
  show numV (Lib.itoa (boundM n 1073741824)) = n
  rw [hb]
  by_cases h : 0 ≤ n
  · obtain ⟨b, rfl⟩ := Int.eq_ofNat_of_zero_le h
    rw [itoa_pos, numV_eq]
    have hn := dec_neg b
    obtain ⟨f1, f2⟩ := dec_facts b
    have hc : cutL (Lib.decDigits b) = Lib.decDigits b := by unfold cutL; rw [hn]; rfl
    rw [hc, f1, f2, hn, if_pos ⟨rfl, by omega⟩]
    rfl
  · obtain ⟨b, hb2⟩ := Int.eq_ofNat_of_zero_le (show 0 ≤ -n by omega)
    obtain rfl : n = -(b : Int) := by omega
    rw [itoa_neg b (by omega), numV_eq]
    obtain ⟨f1, f2⟩ := dec_facts b
    have hn : negB (45 :: Lib.decDigits b) = true := rfl
    have hc : cutL (45 :: Lib.decDigits b) = Lib.decDigits b := by unfold cutL; rw [hn]; rfl
    rw [hc, f1, f2, hn, if_pos ⟨rfl, by omega⟩]
    rfl
/-- A name. -/
structure Nm where
  c : Int
  n : Int
def nmV (x : Nm) : Value := .agg #[.int .i64 x.c, .int .i64 x.n]
def oldB (a b : Nm) : Bool := if a.n < b.n then true else (decide (a.n = b.n) && decide (a.c < b.c))
set_option maxHeartbeats 1000000 in
theorem older_w (a b : Nm) (w : World) : Calls Tryd.prog 18 #[nmV a, nmV b] w (Ret w (.bool (oldB a b))) := by
  obtain ⟨ac, an⟩ := a
  obtain ⟨bc, bn⟩ := b
  have hO := Lib.hid ((Ok.refl w).alloc (.cells #[.int .i64 ac, .int .i64 an] 24))
  unfold nmV oldB
  simp only
  by_cases h1 : an < bn
  · have d1 : decide (an < bn) = true := decide_eq_true h1
    rw [if_pos h1]
    clear h1
    go_enter Tryd.func18, Tryd.ntmps18
    go_wp2_with fail
    go_ret
    exact ⟨rfl, hO.out.alloc _⟩
  · have d1 : decide (an < bn) = false := decide_eq_false h1
    rw [if_neg h1]
    clear h1
    by_cases h2 : an = bn
    · subst h2
      have d2 : (an == an) = true := by simp
      by_cases h3 : ac < bc
      · have d3 : decide (ac < bc) = true := decide_eq_true h3
        rw [d3]
        clear h3
        go_enter Tryd.func18, Tryd.ntmps18
        go_wp2_with fail
        go_ret
        exact ⟨by simp, hO.out.alloc _⟩
      · have d3 : decide (ac < bc) = false := decide_eq_false h3
        rw [d3]
        clear h3
        go_enter Tryd.func18, Tryd.ntmps18
        go_wp2_with fail
        go_ret
        exact ⟨by simp, hO.out.alloc _⟩
    · have d2 : (an == bn) = false := by simpa using h2
      rw [show decide (an = bn) = false from decide_eq_false h2]
      clear h2
      go_enter Tryd.func18, Tryd.ntmps18
      go_wp2_with fail
      go_ret
      exact ⟨by simp, hO.out.alloc _⟩
theorem old_ways (a b : Nm) : (oldB a b = true ∧ oldB b a = false ∧ ¬ (a.c = b.c ∧ a.n = b.n)) ∨ (oldB a b = false ∧ oldB b a = true ∧ ¬ (a.c = b.c ∧ a.n = b.n)) ∨ (oldB a b = false ∧ oldB b a = false ∧ a.c = b.c ∧ a.n = b.n) := by
  obtain ⟨ac, an⟩ := a
  obtain ⟨bc, bn⟩ := b
  unfold oldB
  simp only
  rcases Int.lt_trichotomy an bn with h | h | h
  · left
    rw [if_pos h, if_neg (by omega)]
    refine ⟨rfl, ?_, by omega⟩
    rw [decide_eq_false (by omega : ¬ bn = an)]; rfl
  · subst h
    rw [if_neg (Int.lt_irrefl an), if_neg (Int.lt_irrefl an)]
    rw [show decide (an = an) = true from decide_eq_true rfl, Bool.true_and, Bool.true_and]
    rcases Int.lt_trichotomy ac bc with h | h | h
    · left; exact ⟨decide_eq_true h, decide_eq_false (by omega), fun h2 => by omega⟩
    · right; right; exact ⟨decide_eq_false (by omega), decide_eq_false (by omega), h, rfl⟩
    · right; left; exact ⟨decide_eq_false (by omega), decide_eq_true h, fun h2 => by omega⟩
  · right; left
    rw [if_neg (by omega), if_pos h]
    refine ⟨?_, rfl, by omega⟩
    rw [decide_eq_false (by omega : ¬ an = bn)]; rfl
end Go.Proofs.YthbbbjkgfdnkhaaDoor
