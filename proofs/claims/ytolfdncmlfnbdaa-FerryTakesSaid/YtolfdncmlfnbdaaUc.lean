/- The document's answers on rows of numbers: is a row right, is a number in it, a row without another one's, more than half. -/
import Derived.Test.YtolfdncmlfnbdaaQj
import Derived.Test.YtolfdncmlfnbdaaUa
import Derived.Test.YtolfdncmlfnbdaaUb
namespace Go.Proofs.Ytolfdncmlfnbdaa
open Go.RowKit

theorem rowF_pos (xs : List Int) (k : Nat) (a : Int) (h : k < xs.length) (h1 : ¬ xs.getD k 0 ≤ a) (h2 : ¬ 5 < xs.getD k 0) : rowF a (xs.drop k) = rowF (xs.getD k 0) (xs.drop (k + 1)) := by
  rw [rowF_at xs k h a, decide_eq_false h1, decide_eq_false h2]; rfl
theorem rowF_neg (xs : List Int) (k : Nat) (a : Int) (h : k < xs.length) (h1 : xs.getD k 0 ≤ a ∨ 5 < xs.getD k 0) : rowF a (xs.drop k) = false := by
  rw [rowF_at xs k h a]
  rcases h1 with h1 | h1
  · rw [decide_eq_true h1]; rfl
  · rw [decide_eq_true h1]; simp

set_option maxRecDepth 100000 in
set_option maxHeartbeats 8000000 in
theorem row06_w (v : Value) (xs : List Int) (W : World) (h : InI W v xs) :
    Calls Try.prog 106 #[v] W fun e w' => e = .returned (.bool (rowB xs)) ∧ Ok W w' := by
  obtain ⟨A, c, rfl, hm⟩ := h.form
  have HA := Lib.hid h
  clear h
  generalize hn : xs.length = n at *
  have HN := Lib.hid hn
  clear hn
  go_enter Try.func106, Try.ntmps106
  go_wp2_with fail
  go_loopw [3] (fun i wr => ∃ (k : Nat) (a : Int), k ≤ n ∧ i = .int .i64 k ∧ Ok W wr ∧ rowB xs = rowF a (xs.drop k) ∧ 0 ≤ a ∧ (0 < k → 1 ≤ a ∧ a = xs.getD (k - 1) 0) ∧ (k = 0 → a = 0)) (fun i _ => n - (intOf i).toNat)
  case atStart => exact ⟨0, 0, Nat.zero_le _, rfl, Ok.refl _, rfl, by omega, fun h => by omega, fun _ => rfl⟩
  case round =>
    obtain ⟨k, a, hk, rfl, hok, hro, ha0, hak, haz⟩ := hrel
    have HO := Lib.hid hok
    have HAK := Lib.hid hak
    have HAZ := Lib.hid haz
    clear hok hak haz
    by_cases hlt : k < n
    · obtain ⟨b, o, rfl, hc⟩ := ((HO.out.ints HA.out).at rfl k hlt).2
      have kc := cell_regrown hc
      have hi0 : (0 : Int) ≤ (k : Int) := Int.natCast_nonneg _
      have hi1 : (k : Int) < (n : Int) := by omega
      have HF := Lib.hid (rowF_neg xs k a (by rw [HN.out]; exact hlt))
      have HT := Lib.hid (rowF_pos xs k a (by rw [HN.out]; exact hlt))
      have HGET : Hid (xs.getD k 0 = xs.getD (k + 1 - 1) 0) := Lib.hid rfl
      have HRO := Lib.hid hro
      clear hro
      by_cases h1 : xs.getD k 0 < 1
      · have HE := Lib.hid (HRO.out.trans (HF.out (.inl (by omega))))
        generalize xs.getD k 0 = y at *
        have d1 : decide (y < 1) = true := decide_eq_true h1
        clear HF HT HGET HAK HAZ
        go_wp2_with fail
        refine wp_region_quiet_below (by kernel_rfl) (by kernel_rfl) ?_
        refine HeldU.out ?_
        repeat (
          refine hqU_step (fun K hK => ?_)
          go_simp
          (refine hK _ ?_; clear hK K))
        refine HeldU.mk (wpQuiet_nil ?_)
        intro _ hw'
        obtain ⟨⟨dq, osq⟩, hw''⟩ := hw'
        subst hw''
        go_wp2_with fail
        go_ret
        exact ⟨by rw [HE.out]; rfl, Ok.call HO.out (below_regrown wr dq osq)⟩
      have d1 : decide (xs.getD k 0 < 1) = false := decide_eq_false h1
      by_cases h2 : 5 < xs.getD k 0
      · have HE := Lib.hid (HRO.out.trans (HF.out (.inr h2)))
        generalize xs.getD k 0 = y at *
        have d2 : decide (5 < y) = true := decide_eq_true h2
        clear HF HT HGET HAK HAZ
        go_wp2_with fail
        refine wp_region_quiet_below (by kernel_rfl) (by kernel_rfl) ?_
        refine HeldU.out ?_
        repeat (
          refine hqU_step (fun K hK => ?_)
          go_simp
          (refine hK _ ?_; clear hK K))
        refine HeldU.mk (wpQuiet_nil ?_)
        intro _ hw'
        obtain ⟨⟨dq, osq⟩, hw''⟩ := hw'
        subst hw''
        go_wp2_with fail
        go_ret
        exact ⟨by rw [HE.out]; rfl, Ok.call HO.out (below_regrown wr dq osq)⟩
      have d2 : decide (5 < xs.getD k 0) = false := decide_eq_false h2
      by_cases hz : k = 0
      · have hkz : decide ((0 : Int) < (k : Int)) = false := decide_eq_false (by omega)
        have hkz2 : decide (0 < k) = false := decide_eq_false (by omega)
        have HE := Lib.hid (HRO.out.trans (HT.out (by rw [HAZ.out hz]; omega) h2))
        have HY : Hid (1 ≤ xs.getD k 0) := Lib.hid (by omega)
        clear hz
        generalize xs.getD k 0 = y at *
        clear HF HT HAK HAZ
        go_wp2_with fail
        refine wp_region_quiet_below (by kernel_rfl) (by kernel_rfl) ?_
        refine HeldU.out ?_
        repeat (
          refine hqU_step (fun K hK => ?_)
          go_simp
          (refine hK _ ?_; clear hK K))
        refine HeldU.mk (wpQuiet_nil ?_)
        intro _ hw'
        obtain ⟨⟨dq, osq⟩, hw''⟩ := hw'
        subst hw''
        go_wp2_with fail
        go_roundw
        case rel => exact ⟨k + 1, y, by omega, by go_num, Ok.call HO.out (below_regrown wr dq osq), HE.out, by have := HY.out; omega, fun _ => ⟨HY.out, HGET.out⟩, fun h => by omega⟩
        case measure => simp [intOf]; omega
      · obtain ⟨m, hm1⟩ : ∃ m, k = m + 1 := ⟨k - 1, by omega⟩
        have hkz : decide ((0 : Int) < (k : Int)) = true := decide_eq_true (by omega)
        have hkz2 : decide (0 < k) = true := decide_eq_true (by omega)
        have hg : xs.getD (k - 1) 0 = a := ((HAK.out (by omega)).2).symm
        obtain ⟨b', o', he', hc'⟩ := ((HO.out.ints HA.out).at rfl m (by omega)).2
        simp only [Option.some.injEq, Addr.mk.injEq, and_true] at he'
        obtain ⟨rfl, rfl⟩ := he'
        rw [show m = k - 1 by omega, hg, show k - 1 = m by omega] at hc'
        have kc' := cell_regrown hc'
        have s2 : wrap64 ((k : Int) - 1) = (m : Int) := by simp only [wrap64]; omega
        have s6 : IntKind.i64.wrap ((k : Int) - 1) = (m : Int) := by simp only [IntKind.wrap_i64]; omega
        have hm0 : (0 : Int) ≤ (m : Int) := Int.natCast_nonneg _
        have hm2 : (m : Int) < (n : Int) := by omega
        by_cases h3 : xs.getD k 0 ≤ a
        · have HE := Lib.hid (HRO.out.trans (HF.out (.inl h3)))
          clear hg hm1
          generalize xs.getD k 0 = y at *
          have d3 : decide (y ≤ a) = true := decide_eq_true h3
          clear HF HT HGET HAK HAZ hz
          go_wp2_with fail
          refine wp_region_quiet_below (by kernel_rfl) (by kernel_rfl) ?_
          refine HeldU.out ?_
          repeat (
            refine hqU_step (fun K hK => ?_)
            go_simp
            (refine hK _ ?_; clear hK K))
          refine HeldU.mk (wpQuiet_nil ?_)
          intro _ hw'
          obtain ⟨⟨dq, osq⟩, hw''⟩ := hw'
          subst hw''
          go_wp2_with fail
          go_ret
          exact ⟨by rw [HE.out]; rfl, Ok.call HO.out (below_regrown wr dq osq)⟩
        · have HE := Lib.hid (HRO.out.trans (HT.out h3 h2))
          have HY : Hid (1 ≤ xs.getD k 0) := Lib.hid (by have := (HAK.out (by omega)).1; omega)
          clear hg hm1
          generalize xs.getD k 0 = y at *
          have d3 : decide (y ≤ a) = false := decide_eq_false h3
          clear HF HT HAK HAZ hz
          go_wp2_with fail
          refine wp_region_quiet_below (by kernel_rfl) (by kernel_rfl) ?_
          refine HeldU.out ?_
          repeat (
            refine hqU_step (fun K hK => ?_)
            go_simp
            (refine hK _ ?_; clear hK K))
          refine HeldU.mk (wpQuiet_nil ?_)
          intro _ hw'
          obtain ⟨⟨dq, osq⟩, hw''⟩ := hw'
          subst hw''
          go_wp2_with fail
          go_roundw
          case rel => exact ⟨k + 1, y, by omega, by go_num, Ok.call HO.out (below_regrown wr dq osq), HE.out, by have := HY.out; omega, fun _ => ⟨HY.out, HGET.out⟩, fun h => by omega⟩
          case measure => simp [intOf]; omega
    · have hke : k = n := by omega
      subst hke
      have HR : Hid (rowB xs = true) := Lib.hid (by rw [hro, List.drop_of_length_le (by rw [HN.out]; exact Nat.le_refl _)]; rfl)
      clear hro
      go_wp2_with fail
      go_ret
      exact ⟨by rw [HR.out]; rfl, HO.out⟩

set_option maxRecDepth 100000 in
set_option maxHeartbeats 1000000 in
theorem in06_w (v : Value) (x : Int) (xs : List Int) (W : World) (h : InI W v xs) :
    Calls Try.prog 112 #[v, .int .i64 x] W fun e w' => e = .returned (.bool (inB x xs)) ∧ W = w' := by
  obtain ⟨A, c, rfl, hm⟩ := h.form
  have HA := Lib.hid h
  clear h
  generalize hn : xs.length = n at *
  have HN := Lib.hid hn
  clear hn
  go_enter Try.func112, Try.ntmps112
  go_wp2_with fail
  go_loopw [5] (fun i wr => ∃ k : Nat, k ≤ n ∧ i = .int .i64 k ∧ W = wr ∧ x ∉ xs.take k) (fun i _ => n - (intOf i).toNat)
  case atStart => exact ⟨0, Nat.zero_le _, rfl, rfl, by simp⟩
  case round =>
    obtain ⟨k, hk, rfl, rfl, hno⟩ := hrel
    by_cases hlt : k < n
    · obtain ⟨b, o, rfl, hc⟩ := (HA.out.at rfl k hlt).2
      have HM := Lib.hid (getD_mem xs k (by rw [HN.out]; exact hlt))
      have HT := Lib.hid (take_succ_mem x xs k (by rw [HN.out]; exact hlt) hno)
      clear hno
      generalize xs.getD k 0 = y at *
      have hi0 : (0 : Int) ≤ (k : Int) := Int.natCast_nonneg _
      have hi1 : (k : Int) < (n : Int) := by omega
      by_cases hxy : x = y
      · subst hxy
        go_wp2_with fail
        go_ret
        exact ⟨by rw [inB, decide_eq_true HM.out]; rfl, rfl⟩
      · have he : (y == x) = false := beq_eq_false_iff_ne.2 (fun e => hxy e.symm)
        have HT2 := Lib.hid (HT.out hxy)
        go_wp2_with fail
        go_roundw
        case rel => exact ⟨k + 1, by omega, by go_num, trivial, HT2.out⟩
        case measure => simp [intOf]; omega
    · have hke : k = n := by omega
      subst hke
      have HX : Hid (x ∉ xs) := Lib.hid (by rwa [List.take_of_length_le (by rw [HN.out]; exact Nat.le_refl _)] at hno)
      clear hno
      go_wp2_with fail
      go_ret
      exact ⟨by rw [inB, decide_eq_false HX.out]; rfl, rfl⟩

set_option maxRecDepth 100000 in
set_option maxHeartbeats 2000000 in
theorem less06_w (va vb : Value) (l m : List Int) (W : World) (ha : InI W va l) (hb : InI W vb m) (hl : l.length ≤ 1000) :
    Calls Try.prog 108 #[va, vb] W fun e w' => (∃ A cc, e = .returned (.slice A (newsL m l).length cc) ∧ OwnZ w' W.heap.size (.slice A (newsL m l).length cc) (newsL m l)) ∧ Ok W w' := by
  obtain ⟨A0, c0, rfl, _⟩ := ha.form
  have H1 := Lib.hid hb
  have HW := Lib.hid ha
  clear ha hb
  generalize hn : l.length = n at *
  have HN := Lib.hid hn
  clear hn
  go_enter Try.func108, Try.ntmps108
  go_wp2_with fail
  go_loopw [5, 6] (fun o i wr => ∃ (k : Nat) (A : Option Addr) (cc : Nat), k ≤ n ∧ i = .int .i64 k ∧ o = .slice A (newsL m (l.take k)).length cc ∧ OwnZ wr W.heap.size (.slice A (newsL m (l.take k)).length cc) (newsL m (l.take k)) ∧ Ok W wr) (fun _ i _ => n - (intOf i).toNat)
  case atStart => exact ⟨0, none, 0, Nat.zero_le _, rfl, rfl, OwnZ.nil _ _, Ok.refl _⟩
  case round =>
    obtain ⟨k, A, cc, hk, rfl, rfl, hown, hok⟩ := hrel
    have HO := Lib.hid hok
    have HOW := Lib.hid hown
    clear hok hown
    by_cases hlt : k < n
    · obtain ⟨b, o, rfl, hc⟩ := ((HO.out.ints HW.out).at rfl k hlt).2
      have HT := Lib.hid (newsL_take m l k (by rw [HN.out]; exact hlt))
      have HLL : Hid ((newsL m (l.take k)).length ≤ k) := Lib.hid (Nat.le_trans (newsL_len _ _) (List.length_take_le _ _))
      generalize l.getD k 0 = y at *
      have hi0 : (0 : Int) ≤ (k : Int) := Int.natCast_nonneg _
      have hi1 : (k : Int) < (n : Int) := by omega
      go_wp2_with fail
      refine (in06_w _ y m _ (HO.out.ints H1.out)).mono ?_
      rintro e w1 ⟨rfl, rfl⟩
      cases hin : inB y m with
      | true =>
        have HT2 : Hid (newsL m (l.take (k + 1)) = newsL m (l.take k)) := Lib.hid (by rw [HT.out, hin]; simp)
        clear hin HT
        go_wp2_with fail
        go_roundw
        case rel => exact ⟨k + 1, A, cc, by omega, by go_num, by rw [HT2.out], by rw [HT2.out]; exact HOW.out, HO.out⟩
        case measure => simp [intOf]; omega
      | false =>
        have HT2 : Hid (newsL m (l.take (k + 1)) = newsL m (l.take k) ++ [y]) := Lib.hid (by rw [HT.out, hin]; simp)
        clear hin HT
        have HNEW := Lib.hid (one_int wr y)
        have HOW2 := Lib.hid (HOW.out.al (.cells #[.int .i64 y] 3))
        have HSZ : Hid (W.heap.size ≤ wr.heap.size) := Lib.hid HO.out.size
        have HO2 : Hid (Ok W (wr.alloc (.cells #[.int .i64 y] 3))) := Lib.hid (HO.out.alloc _)
        generalize hL : (newsL m (l.take k)).length = L at *
        have HL := Lib.hid hL
        clear hL
        go_wp2_with (at_builtin; go_must (refine wpList_appZ rfl (.tmp 20) (.tmp 25) rfl W.heap.size (.slice A L cc) (newsL m (l.take k)) [y] (.slice (some ⟨wr.heap.size, 0, none⟩) 1 1) rfl rfl HOW2.out HNEW.out (by have := HLL.out; rw [HL.out]; simp; omega) (by have := HSZ.out; rw [World.size_alloc]; omega) ?_; intro A' c' w2 hown2 hbel2; have HOWN2 := Lib.hid hown2; have HBEL2 := Lib.hid hbel2; clear hown2 hbel2; rw [HL.out]))
        go_roundw
        case rel => exact ⟨k + 1, A', c', by omega, by go_num, by rw [HT2.out, List.length_append, HL.out]; rfl, by have := HOWN2.out; rw [HL.out] at this; rw [HT2.out, List.length_append, HL.out]; exact this, Below.trans HO2.out HBEL2.out⟩
        case measure => simp [intOf]; omega
    · have hke : k = n := by omega
      subst hke
      have HE : Hid (l.take k = l) := Lib.hid (List.take_of_length_le (by rw [HN.out]; exact Nat.le_refl _))
      rw [HE.out] at HOW ⊢
      go_wp2_with fail
      go_ret
      exact ⟨⟨A, cc, rfl, HOW.out⟩, HO.out⟩

set_option maxRecDepth 100000 in
set_option maxHeartbeats 1000000 in
theorem half06_w (va vb : Value) (xs ys : List Int) (W : World) (ha : InI W va xs) (hb : InI W vb ys) :
    Calls Try.prog 114 #[va, vb] W fun e w' => e = .returned (.bool (mostB xs ys)) ∧ W = w' := by
  obtain ⟨A, ca, rfl, hm⟩ := ha.form
  have HA := Lib.hid ha
  have HB := Lib.hid hb
  clear ha hb
  generalize hn : xs.length = n at *
  have HN := Lib.hid hn
  clear hn
  go_enter Try.func114, Try.ntmps114
  go_wp2_with fail
  go_loopw [5, 6] (fun a i wr => ∃ (k m : Nat), k ≤ n ∧ m ≤ k ∧ i = .int .i64 k ∧ a = .int .i64 m ∧ W = wr ∧ m = cnt (xs.take k) ys) (fun _ i _ => n - (intOf i).toNat)
  case atStart => exact ⟨0, 0, Nat.zero_le _, Nat.zero_le _, rfl, rfl, rfl, rfl⟩
  case round =>
    obtain ⟨k, m, hk, hmk, rfl, rfl, rfl, hcnt⟩ := hrel
    by_cases hlt : k < n
    · obtain ⟨b, o, rfl, hc⟩ := (HA.out.at rfl k hlt).2
      have HC := Lib.hid hcnt
      have HT := Lib.hid (cnt_take xs ys k (by rw [HN.out]; exact hlt))
      clear hcnt
      generalize xs.getD k 0 = y at *
      have hi0 : (0 : Int) ≤ (k : Int) := Int.natCast_nonneg _
      have hi1 : (k : Int) < (n : Int) := by omega
      go_wp2_with fail
      refine (in06_w vb y ys W HB.out).mono ?_
      rintro e w1 ⟨rfl, rfl⟩
      cases hin : inB y ys with
      | true =>
        have HT2 : Hid (cnt (xs.take (k + 1)) ys = m + 1) := Lib.hid (by rw [HT.out, hin, HC.out]; rfl)
        clear hin HT
        go_wp2_with fail
        go_roundw
        case rel => exact ⟨k + 1, m + 1, by omega, by omega, by go_num, by go_num, trivial, HT2.out.symm⟩
        case measure => simp [intOf]; omega
      | false =>
        have HT2 : Hid (cnt (xs.take (k + 1)) ys = m) := Lib.hid (by rw [HT.out, hin, HC.out]; rfl)
        clear hin HT
        go_wp2_with fail
        go_roundw
        case rel => exact ⟨k + 1, m, by omega, by omega, by go_num, rfl, trivial, HT2.out.symm⟩
        case measure => simp [intOf]; omega
    · have hke : k = n := by omega
      subst hke
      have HM : Hid (mostB xs ys = decide ((k : Int) < 2 * (m : Int))) := Lib.hid (by
        rw [mostB, hcnt, List.take_of_length_le (by rw [HN.out]; exact Nat.le_refl _), HN.out]
        exact decide_eq_decide.2 (by omega))
      clear hcnt
      go_wp2_with fail
      go_ret
      exact ⟨by rw [HM.out]; rfl, rfl⟩

def CopyP (W : World) (xs : List Int) (e : Ending) (w' : World) : Prop := ∃ A cc, e = .returned (.slice A xs.length cc) ∧ OwnL w' W.heap.size (.slice A xs.length cc) xs ∧ Ok W w'
set_option maxHeartbeats 1000000 in
theorem copyInts_w (v : Value) (xs : List Int) (W : World) (h : InI W v xs) (hl : xs.length ≤ 1000) :
    Calls Try.prog 107 #[v] W (CopyP W xs) := by
  obtain ⟨A, c, rfl, hm⟩ := h.form
  have HX := Lib.hid h
  have HO := Lib.hid (OwnZ.nil W W.heap.size)
  have HFIN : Hid (∀ A cc e w', e = .returned (.slice A xs.length cc) → OwnZ w' W.heap.size (.slice A xs.length cc) xs → Ok W w' → CopyP W xs e w') := Lib.hid fun A cc e w' he ho hk => ⟨A, cc, he, ⟨ho, hl⟩, hk⟩
  clear h
  generalize hL : xs.length = L at *
  have HL := Lib.hid hL
  clear hL
  go_enter Try.func107, Try.ntmps107
  go_wp2_with (at_builtin; go_must (refine wpList_appZ rfl (.tmp 4) (.tmp 5) rfl W.heap.size (.slice none 0 0) [] xs (.slice A L c) rfl rfl HO.out HX.out (by rw [HL.out]; simp; omega) (Nat.le_refl _) ?_; intro A' c' w2 hown2 hbel2; simp only [List.nil_append, List.length_nil, Nat.zero_add] at hown2 ⊢; have HOWN2 := Lib.hid hown2; have HBEL2 := Lib.hid hbel2; clear hown2 hbel2; rw [HL.out]))
  go_ret
  exact HFIN.out _ _ _ _ rfl (by have := HOWN2.out; rwa [HL.out] at this) HBEL2.out
end Go.Proofs.Ytolfdncmlfnbdaa
