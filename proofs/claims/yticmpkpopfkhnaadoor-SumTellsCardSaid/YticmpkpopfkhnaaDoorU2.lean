/- Contracts of the helpers that look whether lent lists of bytes are as they were lent. -/
import Derived.Test.YticmpkpopfkhnaaDoorU
import Derived.Deep.QuietTactic
import Derived.BigQuiet
namespace Go.Proofs.YticmpkpopfkhnaaDoor
open Go.RowKit

theorem Ok.drewN {w w' : World} (h : Ok w w') (n : Nat) : Ok w (w'.drewN n) := by
  obtain ⟨h1, h2, h3, h4, h5⟩ := h
  exact ⟨h1, h2, h3, h4, h5⟩
theorem markByte_q (i : Nat) (w : World) (hi : i < 12) : Calls Tryd.prog 25 #[.int .i64 1, .int .i64 (i : Int)] w fun e w' => e = .returned (.int .u8 (ub (mb i))) ∧ w' = w :=
  (markByte_v i w hi).mono fun _ _ ⟨h, e⟩ => ⟨h, e.symm⟩
theorem same_cells {w : World} {v : Value} {xs : List B8} {A : Option Addr} {n c : Nat} (h : BytesIn w v xs) (hv : v = .slice A n c) (i : Nat) (hi : i < n) : ∃ b o, A = some ⟨b, o, none⟩ ∧ w.cell? ⟨b, o + i, none⟩ = some (.int .u8 (ub (xs.getD i 0#8))) := by
  rcases h with ⟨rfl, A', c', rfl, _⟩ | ⟨b, o, c', rfl, _, hc⟩
  · simp only [Value.slice.injEq] at hv; omega
  · simp only [Value.slice.injEq] at hv
    obtain ⟨rfl, rfl, rfl⟩ := hv
    exact ⟨b, o, rfl, hc i hi⟩
theorem getD_left (xs ys : List B8) (i : Nat) (h : i < xs.length) : (xs ++ ys).getD i 0#8 = xs.getD i 0#8 := by
  simp [List.getD, List.getElem?_append_left h]
theorem getD_right (xs ys : List B8) (i : Nat) (h : xs.length ≤ i) : (xs ++ ys).getD i 0#8 = ys.getD (i - xs.length) 0#8 := by
  simp [List.getD, List.getElem?_append_right h]

theorem OwnB.at' {w : World} {base g cap : Nat} {zs : List B8} (h : OwnB w base g cap zs) (j : Nat) (hj : j < zs.length) : w.cell? ⟨g, j, none⟩ = some (.int .u8 (ub (zs.getD j 0#8))) := by
  rw [h.1.cellAt j (by omega)]
  simp [hj, bv]
set_option maxRecDepth 100000 in
set_option maxHeartbeats 4000000 in
theorem keptBytes_v (W : World) (base g cap : Nat) (v : Value) (xs : List B8) (h : BytesIn W v xs) (ho : OwnB W base g cap (xs ++ marks 12)) (hx : xs.length ≤ 20000) :
    Calls Tryd.prog 23 #[.slice (some ⟨g, 0, none⟩) xs.length cap, v] W fun e w' => e = .returned (.bool true) ∧ Ok W w' := by
  obtain ⟨A, c, rfl, _⟩ := h.form
  have HX := Lib.hid h
  have HO := Lib.hid ho
  clear h ho
  have hcap : xs.length + 12 ≤ cap := by
    have := HO.out.2.1
    rw [List.length_append, marks_len] at this
    exact this
  have hcapm : cap ≤ 9223372036854775807 := HO.out.2.2
  generalize hn : xs.length = n at *
  have HN := Lib.hid hn
  clear hn
  have hne : ((n : Int) != n) = false := by simp
  have hi1 : (n : Int) + 12 ≤ (cap : Int) := by omega
  have hn0 : (0 : Int) ≤ (n : Int) + 12 := by omega
  go_enter Tryd.func23, Tryd.ntmps23
  go_wp2_with fail
  go_loopw [6] (fun i wr => ∃ k : Nat, k ≤ n + 12 ∧ i = .int .i64 k ∧ Ok W wr) (fun i _ => n + 12 - (intOf i).toNat)
  case atStart => exact ⟨0, Nat.zero_le _, rfl, Ok.refl _⟩
  case round =>
    obtain ⟨k, hk, rfl, hok⟩ := hrel
    have HOK := Lib.hid hok
    clear hok
    by_cases hlt : k < n + 12
    · have hk0 : (0 : Int) ≤ (k : Int) := Int.natCast_nonneg _
      have hk1 : (k : Int) < (n : Int) + 12 := by omega
      have hL : (xs ++ marks 12).length = n + 12 := by rw [List.length_append, marks_len, HN.out]
      have hcg := (HO.out.ok HOK.out).at' k (by rw [hL]; omega)
      by_cases hkn : k < n
      · obtain ⟨b, o, rfl, hc⟩ := same_cells HX.out rfl k hkn
        have hc := HOK.out.cell hc
        rw [getD_left xs (marks 12) k (by rw [HN.out]; exact hkn)] at hcg
        clear hL
        generalize xs.getD k 0#8 = y at *
        have hd1 : decide (k < n) = true := decide_eq_true hkn
        have hd2 : decide (n ≤ k) = false := decide_eq_false (by omega)
        have hd3 : decide ((k : Int) < (n : Int)) = true := decide_eq_true (by omega)
        have hk2 : (k : Int) < (n : Int) := by omega
        have hok : Ok W wr := HOK.out
        go_wp2_with fail
        go_quiet (fail)
        go_wp2_with fail
        go_roundw
        case rel => exact ⟨k + 1, by omega, by go_num, HOK.out.drewN _⟩
        case measure => simp [intOf]; omega
      · obtain ⟨j, rfl⟩ : ∃ j, k = n + j := ⟨k - n, by omega⟩
        have hj : j < 12 := by omega
        rw [getD_right xs (marks 12) (n + j) (by rw [HN.out]; omega), HN.out, Nat.add_sub_cancel_left, marks_get 12 j hj] at hcg
        clear hL
        have hd1 : decide (n + j < n) = false := decide_eq_false (by omega)
        have hd2 : decide (n ≤ n + j) = true := decide_eq_true (by omega)
        have hd3 : decide ((n : Int) + (j : Int) < (n : Int)) = false := decide_eq_false (by omega)
        have hd4 : decide ((n : Int) ≤ (n : Int) + (j : Int)) = true := decide_eq_true (by omega)
        have hsub : ((n + j : Nat) : Int) - (n : Int) = (j : Int) := by omega
        have hsub2 : (n : Int) + (j : Int) - (n : Int) = (j : Int) := by omega
        have hok : Ok W wr := HOK.out
        have HQ : Hid (∀ w, Calls Tryd.prog 25 #[.int .i64 1, .int .i64 (j : Int)] w fun e w' => e = .returned (.int .u8 (ub (mb j))) ∧ w' = w) := Lib.hid fun w => markByte_q j w hj
        generalize mb j = y at *
        go_wp2_with fail
        go_quiet ((go_at_call 25; exact Calls.quiet_of_same (HQ.out _)))
        go_wp2_with fail
        go_roundw
        case rel => exact ⟨n + j + 1, by omega, by go_num, HOK.out.drewN _⟩
        case measure => simp [intOf]; omega
    · have hke : k = n + 12 := by omega
      subst hke
      go_wp2_with fail
      go_ret
      exact ⟨rfl, HOK.out⟩
end Go.Proofs.YticmpkpopfkhnaaDoor
