/- Contracts of the readers of rows of numbers: whether a number is in a row, whether two rows are the same, whether a row rises. -/
import Derived.Test.YtolfdncmlfnbdaaB
import Derived.Test.YtolfdncmlfnbdaaQa
namespace Go.Proofs.Ytolfdncmlfnbdaa
open Go.RowKit

def zv (n : Int) : Value := .int .i64 n
/-- The value v is a list of numbers in memory: these. -/
def InI (w : World) (v : Value) (xs : List Int) : Prop :=
  (xs = [] ∧ ∃ A c, v = .slice A 0 c ∧ (A = none → c = 0)) ∨ ∃ b o c, v = .slice (some ⟨b, o, none⟩) xs.length c ∧ xs.length ≤ c ∧ xs.length ≤ 17592186044416 ∧ ∀ i, i < xs.length → w.cell? ⟨b, o + i, none⟩ = some (.int .i64 (xs.getD i 0))
theorem Ok.ints {w w' : World} {v : Value} {xs : List Int} (h : Ok w w') (t : InI w v xs) : InI w' v xs := by
  rcases t with t | ⟨b, o, c, rfl, hn, hm, hc⟩
  · exact .inl t
  · exact .inr ⟨b, o, c, rfl, hn, hm, fun i hi => h.cell (hc i hi)⟩
theorem InI.form {w : World} {v : Value} {xs : List Int} (h : InI w v xs) : ∃ A c, v = .slice A xs.length c ∧ xs.length ≤ 17592186044416 := by
  rcases h with ⟨rfl, A, c, rfl, _⟩ | ⟨b, o, c, rfl, _, hm, _⟩
  · exact ⟨_, _, rfl, by simp⟩
  · exact ⟨_, _, rfl, hm⟩
theorem InI.nil (w : World) : InI w (.slice none 0 0) [] := .inl ⟨rfl, _, _, rfl, fun _ => rfl⟩
theorem InI.at {w : World} {v : Value} {xs : List Int} {A : Option Addr} {n c : Nat} (h : InI w v xs) (hv : v = .slice A n c) (i : Nat) (hi : i < n) : n = xs.length ∧ ∃ b o, A = some ⟨b, o, none⟩ ∧ w.cell? ⟨b, o + i, none⟩ = some (.int .i64 (xs.getD i 0)) := by
  rcases h with ⟨rfl, A', c', rfl, _⟩ | ⟨b, o, c', rfl, _, _, hc⟩
  · simp only [Value.slice.injEq] at hv; omega
  · simp only [Value.slice.injEq] at hv
    obtain ⟨rfl, rfl, rfl⟩ := hv
    exact ⟨rfl, b, o, rfl, hc i hi⟩
theorem ints_new (w : World) (xs : List Int) (cells : Array Value) (t : TypeId) (fz : Nat × Nat) (g n c : Nat) (hg : g = w.heap.size) (hn : n = xs.length) (hcn : n ≤ c) (h : xs.length ≤ 17592186044416) (hc : cells.toList = xs.map zv) :
    InI (w.alloc (.cells cells t fz)) (.slice (some ⟨g, 0, none⟩) n c) xs := by
  subst hg; subst hn
  refine .inr ⟨w.heap.size, 0, c, rfl, hcn, h, fun i hi => ?_⟩
  rw [cell_of_row _ _ _ _ _ _ (heap_alloc_new w _), ← Array.getElem?_toList, hc]
  simp [hi, zv]

theorem take_succ_mem (x : Int) (xs : List Int) (k : Nat) (h : k < xs.length) (h1 : x ∉ xs.take k) (h2 : x ≠ xs.getD k 0) : x ∉ xs.take (k + 1) := by
  rw [List.take_succ_eq_append_getElem h, List.mem_append]
  rintro (e | e)
  · exact h1 e
  · simp [h] at h2
    simp at e
    exact h2 e
theorem getD_mem (xs : List Int) (k : Nat) (h : k < xs.length) : xs.getD k 0 ∈ xs := by simp [h]

set_option maxRecDepth 100000 in
set_option maxHeartbeats 1000000 in
theorem index_q (v : Value) (x : Int) (xs : List Int) (W : World) (h : InI W v xs) :
    Calls Try.prog 162 #[v, .int .i64 x] W fun e w' => (∃ i : Int, e = .returned (.int .i64 i) ∧ decide (0 ≤ i) = inB x xs) ∧ W = w' := by
  obtain ⟨A, c, rfl, hm⟩ := h.form
  have HA := Lib.hid h
  clear h
  generalize hn : xs.length = n at *
  have HN := Lib.hid hn
  clear hn
  go_enter Try.func162, Try.ntmps162
  go_wp2_with fail
  go_loopw [8] (fun i wr => ∃ k : Nat, k ≤ n ∧ i = .int .i64 k ∧ W = wr ∧ x ∉ xs.take k) (fun i _ => n - (intOf i).toNat)
  case atStart => exact ⟨0, Nat.zero_le _, rfl, rfl, by simp⟩
  case round =>
    obtain ⟨k, hk, rfl, rfl, hno⟩ := hrel
    by_cases hlt : k < n
    · obtain ⟨b, o, rfl, hc⟩ := (HA.out.at rfl k hlt).2
      have HM := Lib.hid (getD_mem xs k (by rw [HN.out]; exact hlt))
      have HT := Lib.hid (take_succ_mem x xs k (by rw [HN.out]; exact hlt) hno)
      clear hno
      generalize xs.getD k 0 = y at *
      have hi0 : (0 : Int) ≤ (k : Int) := Int.natCast_nonneg _
      have hi1 : (k : Int) < (n : Int) := by omega
      by_cases hxy : x = y
      · subst hxy
        go_wp2_with fail
        go_ret
        exact ⟨⟨k, rfl, by rw [inB, decide_eq_true HM.out]; exact decide_eq_true (by omega)⟩, rfl⟩
      · have he : (x == y) = false := beq_eq_false_iff_ne.2 hxy
        have HT2 := Lib.hid (HT.out hxy)
        go_wp2_with fail
        go_roundw
        case rel => exact ⟨k + 1, by omega, by go_num, trivial, HT2.out⟩
        case measure => simp [intOf]; omega
    · have hke : k = n := by omega
      subst hke
      have HX : Hid (x ∉ xs) := Lib.hid (by rwa [List.take_of_length_le (by rw [HN.out]; exact Nat.le_refl _)] at hno)
      clear hno
      go_wp2_with fail
      go_ret
      exact ⟨⟨-1, rfl, by rw [inB, decide_eq_false HX.out]; rfl⟩, rfl⟩

set_option maxHeartbeats 400000 in
theorem contains_q (v : Value) (x : Int) (xs : List Int) (W : World) (h : InI W v xs) :
    Calls Try.prog 116 #[v, .int .i64 x] W fun e w' => e = .returned (.bool (inB x xs)) ∧ W = w' := by
  obtain ⟨A, c, rfl, hm⟩ := h.form
  have HA := Lib.hid h
  clear h
  generalize xs.length = n at *
  go_enter Try.func116, Try.ntmps116
  go_wp2_with fail
  refine (index_q _ x xs W HA.out).mono ?_
  rintro e w1 ⟨⟨i, rfl, hi⟩, rfl⟩
  have HI := Lib.hid hi
  clear hi
  go_wp2_with fail
  go_ret
  exact ⟨by rw [← HI.out]; rfl, rfl⟩

theorem rowF_at (xs : List Int) (k : Nat) (h : k < xs.length) (a : Int) : rowF a (xs.drop k) = (!(decide (xs.getD k 0 ≤ a) || decide (5 < xs.getD k 0)) && rowF (xs.getD k 0) (xs.drop (k + 1))) := by
  rw [List.drop_eq_getElem_cons h, rowF]
  simp [h]

set_option maxRecDepth 100000 in
set_option maxHeartbeats 1000000 in
theorem row_q (v : Value) (xs : List Int) (W : World) (h : InI W v xs) :
    Calls Try.prog 102 #[v] W fun e w' => e = .returned (.bool (rowB xs)) ∧ W = w' := by
  obtain ⟨A, c, rfl, hm⟩ := h.form
  have HA := Lib.hid h
  clear h
  generalize hn : xs.length = n at *
  have HN := Lib.hid hn
  clear hn
  go_enter Try.func102, Try.ntmps102
  go_wp2_with fail
  go_loopw [3, 8] (fun l i wr => ∃ (k : Nat) (a : Int), k ≤ n ∧ i = .int .i64 k ∧ l = .int .i64 a ∧ W = wr ∧ rowB xs = rowF a (xs.drop k)) (fun _ i _ => n - (intOf i).toNat)
  case atStart => exact ⟨0, 0, Nat.zero_le _, rfl, rfl, rfl, rfl⟩
  case round =>
    obtain ⟨k, a, hk, rfl, rfl, rfl, hro⟩ := hrel
    by_cases hlt : k < n
    · obtain ⟨b, o, rfl, hc⟩ := (HA.out.at rfl k hlt).2
      rw [rowF_at xs k (by rw [HN.out]; exact hlt)] at hro
      have HR := Lib.hid hro
      clear hro
      generalize xs.getD k 0 = y at *
      have hi0 : (0 : Int) ≤ (k : Int) := Int.natCast_nonneg _
      have hi1 : (k : Int) < (n : Int) := by omega
      by_cases h1 : y ≤ a
      · have hd : decide (y ≤ a) = true := decide_eq_true h1
        go_wp2_with fail
        go_ret
        exact ⟨by rw [HR.out, hd]; rfl, rfl⟩
      · have hd : decide (y ≤ a) = false := decide_eq_false h1
        by_cases h2 : 5 < y
        · have hd2 : decide (5 < y) = true := decide_eq_true h2
          go_wp2_with fail
          go_ret
          exact ⟨by rw [HR.out, hd, hd2]; rfl, rfl⟩
        · have hd2 : decide (5 < y) = false := decide_eq_false h2
          go_wp2_with fail
          go_roundw
          case rel => exact ⟨k + 1, y, by omega, by go_num, rfl, trivial, by rw [HR.out, hd, hd2]; rfl⟩
          case measure => simp [intOf]; omega
    · have hke : k = n := by omega
      subst hke
      have HR : Hid (rowB xs = true) := Lib.hid (by rw [hro, List.drop_of_length_le (by rw [HN.out]; exact Nat.le_refl _)]; rfl)
      clear hro
      go_wp2_with fail
      go_ret
      exact ⟨by rw [HR.out]; rfl, rfl⟩
end Go.Proofs.Ytolfdncmlfnbdaa
