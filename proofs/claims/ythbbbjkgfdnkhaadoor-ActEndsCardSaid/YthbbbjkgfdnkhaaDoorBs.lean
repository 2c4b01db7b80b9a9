/- The law ActEnds: its texts and numbers; walked. -/
import Derived.Test.YthbbbjkgfdnkhaaDoorBq
import Derived.StillTailTactics
namespace Go.Proofs.YthbbbjkgfdnkhaaDoor
open Go.RowKit
def exT : List Str := [⟨#[]⟩, ⟨#[48]⟩, ⟨#[45, 48]⟩, ⟨#[48, 48, 55]⟩, ⟨#[45, 49, 50]⟩, ⟨#[49, 48, 55, 51, 55, 52, 49, 56, 50, 52]⟩, ⟨#[49, 48, 55, 51, 55, 52, 49, 56, 50, 53]⟩, ⟨#[45, 49, 48, 55, 51, 55, 52, 49, 56, 50, 52]⟩, ⟨#[45, 49, 48, 55, 51, 55, 52, 49, 56, 50, 53]⟩, ⟨#[57, 57, 57, 57, 57, 57, 57, 57, 57, 57, 57, 57, 57, 57, 57, 57, 57, 57, 57, 57]⟩, ⟨#[97, 98, 99]⟩, ⟨#[97, 32, 98]⟩, ⟨#[65]⟩, ⟨#[97, 97, 97, 97, 97, 97, 97, 97, 97, 97, 97, 97, 97, 97, 97, 97, 97, 97, 97, 97]⟩, ⟨#[97, 97, 97, 97, 97, 97, 97, 97, 97, 97, 97, 97, 97, 97, 97, 97, 97, 97, 97, 97, 97]⟩, ⟨#[43, 53]⟩, ⟨#[45, 45, 53]⟩, ⟨#[45]⟩]
def exN : List Int := [0, 1, -1, 9, 10, 1073741824, -1073741824, 1073741825, -1073741825, 4611686018427387904, -4611686018427387904]
theorem exT_len : exT.length = 18 := rfl
theorem exN_len : exN.length = 11 := rfl
def txE (j : Nat) : Str := exT.getD j ⟨#[]⟩
def nmE (j : Nat) : Int := exN.getD j 0
theorem u8_small (n : Nat) (h : n < 256) : IntKind.u8.wrap (n : Int) = (n : Int) := by
  simp [IntKind.wrap, IntKind.bits, IntKind.signed]; omega
theorem txE_size (j : Nat) : (txE j).size ≤ 100 := by
  rcases Nat.lt_or_ge j 18 with h | h
  · have : ∀ j : Fin 18, (txE j.1).size ≤ 100 := by decide
    exact this ⟨j, h⟩
  · unfold txE
    rw [List.getD_eq_getElem?_getD, List.getElem?_eq_none (by rw [exT_len]; exact h)]
    decide
theorem nmE_bound (j : Nat) : -4611686018427387904 ≤ nmE j ∧ nmE j ≤ 4611686018427387904 := by
  rcases Nat.lt_or_ge j 11 with h | h
  · have : ∀ j : Fin 11, -4611686018427387904 ≤ nmE j.1 ∧ nmE j.1 ≤ 4611686018427387904 := by decide
    exact this ⟨j, h⟩
  · unfold nmE
    rw [List.getD_eq_getElem?_getD, List.getElem?_eq_none (by rw [exN_len]; exact h)]
    decide
theorem cellT {w : World} {b : Nat} (h : w.heap[b]? = some (.cells (exT.map Value.string).toArray 9)) (j : Nat) (hj : j < 18) : w.cell? ⟨b, j, none⟩ = some (.string (txE j)) := by
  rw [cell_of_heap h]
  simp [txE, List.getD, show j < exT.length by rw [exT_len]; exact hj]
theorem cellN {w : World} {b : Nat} (h : w.heap[b]? = some (.cells (exN.map (Value.int .i64)).toArray 3)) (j : Nat) (hj : j < 11) : w.cell? ⟨b, j, none⟩ = some (.int .i64 (nmE j)) := by
  rw [cell_of_heap h]
  simp [nmE, List.getD, show j < exN.length by rw [exN_len]; exact hj]

theorem two_acts (w : World) (n : Int) (s : Str) (a : Int) (t : Str) (b : Int) : ActsAt (w.alloc (.cells #[.int .u8 n, .string ⟨#[107]⟩, .string s, .int .i64 a, .int .u8 3, .string t, .string ⟨#[]⟩, .int .i64 b] 52)) (some ⟨w.heap.size, 0, none⟩) [⟨n, ⟨#[107]⟩, s, a⟩, ⟨3, t, ⟨#[]⟩, b⟩] := fun j hj => by
  have h := blk_new (w := w) (o := .cells #[.int .u8 n, .string ⟨#[107]⟩, .string s, .int .i64 a, .int .u8 3, .string t, .string ⟨#[]⟩, .int .i64 b] 52) rfl
  match j, hj with
  | 0, _ => refine ⟨_, 0, rfl, ?_, ?_, ?_, ?_⟩ <;> (rw [cell_of_heap h]; rfl)
  | 1, _ => refine ⟨_, 0, rfl, ?_, ?_, ?_, ?_⟩ <;> (rw [cell_of_heap h]; rfl)
theorem two_sz (n : Int) (s : Str) (a : Int) (t : Str) (b : Int) (hs : s.size ≤ 100) (ht : t.size ≤ 100) : Sz [⟨n, ⟨#[107]⟩, s, a⟩, ⟨3, t, ⟨#[]⟩, b⟩] := fun j hj => by
  match j, hj with
  | 0, _ => exact ⟨show (1 : Nat) ≤ _ by decide, Nat.le_trans hs (by decide)⟩
  | 1, _ => exact ⟨Nat.le_trans ht (by decide), show (0 : Nat) ≤ _ by decide⟩
theorem sz_nil : Sz [] := fun _ hj => absurd hj (Nat.not_lt_zero _)
theorem acts_nil (w : World) : ActsAt w none [] := fun _ hj => absurd hj (Nat.not_lt_zero _)
def z7 : List Ac := List.replicate 7 ⟨0, ⟨#[]⟩, ⟨#[]⟩, 0⟩
theorem z7_len : z7.length = 7 := rfl
theorem sz_z7 : Sz z7 := fun j hj => by
  have e : atA z7 j = ⟨0, ⟨#[]⟩, ⟨#[]⟩, 0⟩ := by
    rw [z7_len] at hj
    unfold atA z7
    rw [List.getD_eq_getElem?_getD, List.getElem?_replicate, if_pos hj]
    rfl
  rw [e]
  exact ⟨show (0 : Nat) ≤ _ by decide, show (0 : Nat) ≤ _ by decide⟩
theorem acts_block {w : World} {b : Nat} {l : List Ac} (h : w.heap[b]? = some (.cells (flat4 l).toArray 52)) : ActsAt w (some ⟨b, 0, none⟩) l := fun j hj => by
  obtain ⟨h0, h1, h2, h3⟩ := flat4_at l j hj
  refine ⟨b, 0, rfl, ?_, ?_, ?_, ?_⟩ <;> (rw [cell_of_heap h]; simpa using by assumption)
theorem mk7 (w : World) : (Instr.makeSlice 22 (.int .i64 7) (.int .i64 7)).run Tryd.prog w = .ok (.slice (some ⟨w.heap.size, 0, none⟩) 7 7) (w.alloc (.cells (flat4 z7).toArray 52)) := by kernel_rfl
theorem Sz.take {l : List Ac} (h : Sz l) (k : Nat) : Sz (l.take k) := fun j hj => by
  rw [List.length_take] at hj
  rw [atA_take l k j (by omega)]
  exact h j (by omega)
def Ends1 (wL wr : World) (i : Value) : Prop := ∃ k : Nat, k ≤ 18 ∧ i = .int .i64 k ∧ Ok wL wr
def Ends2 (wL wr : World) (i : Value) : Prop := ∃ k : Nat, k ≤ 11 ∧ i = .int .i64 k ∧ Ok wL wr
def Ends3 (wL wr : World) (i : Value) : Prop := ∃ k : Nat, k ≤ 5 ∧ i = .int .i64 k ∧ Ok wL wr
set_option maxRecDepth 100000 in
set_option maxHeartbeats 4000000 in
theorem ends_w (w : World) (ht : Tb w) : Calls Tryd.prog 5 #[] w (Ret w (.bool true)) := by
  have HAW := Lib.hid (awake_w w ht)
  have HT := Lib.hid ht
  clear ht
  go_enter Tryd.func5, Tryd.ntmps5
  go_wp2_with fail
  (with_reducible refine HAW.out.mono ?_)
  rintro _ w1 ⟨rfl, o1⟩
  have HO1 := Lib.hid o1
  clear o1 HAW
  go_wp2_with fail
  have hb1 : ((w1.alloc (.cells #[.string ⟨#[]⟩, .string ⟨#[48]⟩, .string ⟨#[45, 48]⟩, .string ⟨#[48, 48, 55]⟩, .string ⟨#[45, 49, 50]⟩, .string ⟨#[49, 48, 55, 51, 55, 52, 49, 56, 50, 52]⟩, .string ⟨#[49, 48, 55, 51, 55, 52, 49, 56, 50, 53]⟩, .string ⟨#[45, 49, 48, 55, 51, 55, 52, 49, 56, 50, 52]⟩, .string ⟨#[45, 49, 48, 55, 51, 55, 52, 49, 56, 50, 53]⟩, .string ⟨#[57, 57, 57, 57, 57, 57, 57, 57, 57, 57, 57, 57, 57, 57, 57, 57, 57, 57, 57, 57]⟩, .string ⟨#[97, 98, 99]⟩, .string ⟨#[97, 32, 98]⟩, .string ⟨#[65]⟩, .string ⟨#[97, 97, 97, 97, 97, 97, 97, 97, 97, 97, 97, 97, 97, 97, 97, 97, 97, 97, 97, 97]⟩, .string ⟨#[97, 97, 97, 97, 97, 97, 97, 97, 97, 97, 97, 97, 97, 97, 97, 97, 97, 97, 97, 97, 97]⟩, .string ⟨#[43, 53]⟩, .string ⟨#[45, 45, 53]⟩, .string ⟨#[45]⟩] 9)).alloc (.cells #[.int .i64 0, .int .i64 1, .int .i64 (-1), .int .i64 9, .int .i64 10, .int .i64 1073741824, .int .i64 (-1073741824), .int .i64 1073741825, .int .i64 (-1073741825), .int .i64 4611686018427387904, .int .i64 (-4611686018427387904)] 3)).heap[w1.heap.size]? = some (.cells (exT.map Value.string).toArray 9) := by
    rw [heap_alloc_old _ _ (by simp)]
    exact heap_alloc_new w1 _
  have hb2 : ((w1.alloc (.cells #[.string ⟨#[]⟩, .string ⟨#[48]⟩, .string ⟨#[45, 48]⟩, .string ⟨#[48, 48, 55]⟩, .string ⟨#[45, 49, 50]⟩, .string ⟨#[49, 48, 55, 51, 55, 52, 49, 56, 50, 52]⟩, .string ⟨#[49, 48, 55, 51, 55, 52, 49, 56, 50, 53]⟩, .string ⟨#[45, 49, 48, 55, 51, 55, 52, 49, 56, 50, 52]⟩, .string ⟨#[45, 49, 48, 55, 51, 55, 52, 49, 56, 50, 53]⟩, .string ⟨#[57, 57, 57, 57, 57, 57, 57, 57, 57, 57, 57, 57, 57, 57, 57, 57, 57, 57, 57, 57]⟩, .string ⟨#[97, 98, 99]⟩, .string ⟨#[97, 32, 98]⟩, .string ⟨#[65]⟩, .string ⟨#[97, 97, 97, 97, 97, 97, 97, 97, 97, 97, 97, 97, 97, 97, 97, 97, 97, 97, 97, 97]⟩, .string ⟨#[97, 97, 97, 97, 97, 97, 97, 97, 97, 97, 97, 97, 97, 97, 97, 97, 97, 97, 97, 97, 97]⟩, .string ⟨#[43, 53]⟩, .string ⟨#[45, 45, 53]⟩, .string ⟨#[45]⟩] 9)).alloc (.cells #[.int .i64 0, .int .i64 1, .int .i64 (-1), .int .i64 9, .int .i64 10, .int .i64 1073741824, .int .i64 (-1073741824), .int .i64 1073741825, .int .i64 (-1073741825), .int .i64 4611686018427387904, .int .i64 (-4611686018427387904)] 3)).heap[w1.heap.size + 1]? = some (.cells (exN.map (Value.int .i64)).toArray 3) := by
    have := heap_alloc_new (w1.alloc (.cells #[.string ⟨#[]⟩, .string ⟨#[48]⟩, .string ⟨#[45, 48]⟩, .string ⟨#[48, 48, 55]⟩, .string ⟨#[45, 49, 50]⟩, .string ⟨#[49, 48, 55, 51, 55, 52, 49, 56, 50, 52]⟩, .string ⟨#[49, 48, 55, 51, 55, 52, 49, 56, 50, 53]⟩, .string ⟨#[45, 49, 48, 55, 51, 55, 52, 49, 56, 50, 52]⟩, .string ⟨#[45, 49, 48, 55, 51, 55, 52, 49, 56, 50, 53]⟩, .string ⟨#[57, 57, 57, 57, 57, 57, 57, 57, 57, 57, 57, 57, 57, 57, 57, 57, 57, 57, 57, 57]⟩, .string ⟨#[97, 98, 99]⟩, .string ⟨#[97, 32, 98]⟩, .string ⟨#[65]⟩, .string ⟨#[97, 97, 97, 97, 97, 97, 97, 97, 97, 97, 97, 97, 97, 97, 97, 97, 97, 97, 97, 97]⟩, .string ⟨#[97, 97, 97, 97, 97, 97, 97, 97, 97, 97, 97, 97, 97, 97, 97, 97, 97, 97, 97, 97, 97]⟩, .string ⟨#[43, 53]⟩, .string ⟨#[45, 45, 53]⟩, .string ⟨#[45]⟩] 9)) (.cells #[.int .i64 0, .int .i64 1, .int .i64 (-1), .int .i64 9, .int .i64 10, .int .i64 1073741824, .int .i64 (-1073741824), .int .i64 1073741825, .int .i64 (-1073741825), .int .i64 4611686018427387904, .int .i64 (-4611686018427387904)] 3)
    rw [show (w1.alloc (.cells #[.string ⟨#[]⟩, .string ⟨#[48]⟩, .string ⟨#[45, 48]⟩, .string ⟨#[48, 48, 55]⟩, .string ⟨#[45, 49, 50]⟩, .string ⟨#[49, 48, 55, 51, 55, 52, 49, 56, 50, 52]⟩, .string ⟨#[49, 48, 55, 51, 55, 52, 49, 56, 50, 53]⟩, .string ⟨#[45, 49, 48, 55, 51, 55, 52, 49, 56, 50, 52]⟩, .string ⟨#[45, 49, 48, 55, 51, 55, 52, 49, 56, 50, 53]⟩, .string ⟨#[57, 57, 57, 57, 57, 57, 57, 57, 57, 57, 57, 57, 57, 57, 57, 57, 57, 57, 57, 57]⟩, .string ⟨#[97, 98, 99]⟩, .string ⟨#[97, 32, 98]⟩, .string ⟨#[65]⟩, .string ⟨#[97, 97, 97, 97, 97, 97, 97, 97, 97, 97, 97, 97, 97, 97, 97, 97, 97, 97, 97, 97]⟩, .string ⟨#[97, 97, 97, 97, 97, 97, 97, 97, 97, 97, 97, 97, 97, 97, 97, 97, 97, 97, 97, 97, 97]⟩, .string ⟨#[43, 53]⟩, .string ⟨#[45, 45, 53]⟩, .string ⟨#[45]⟩] 9)).heap.size = w1.heap.size + 1 from by simp] at this
    exact this
  have HOL : Hid (Ok w ((w1.alloc (.cells #[.string ⟨#[]⟩, .string ⟨#[48]⟩, .string ⟨#[45, 48]⟩, .string ⟨#[48, 48, 55]⟩, .string ⟨#[45, 49, 50]⟩, .string ⟨#[49, 48, 55, 51, 55, 52, 49, 56, 50, 52]⟩, .string ⟨#[49, 48, 55, 51, 55, 52, 49, 56, 50, 53]⟩, .string ⟨#[45, 49, 48, 55, 51, 55, 52, 49, 56, 50, 52]⟩, .string ⟨#[45, 49, 48, 55, 51, 55, 52, 49, 56, 50, 53]⟩, .string ⟨#[57, 57, 57, 57, 57, 57, 57, 57, 57, 57, 57, 57, 57, 57, 57, 57, 57, 57, 57, 57]⟩, .string ⟨#[97, 98, 99]⟩, .string ⟨#[97, 32, 98]⟩, .string ⟨#[65]⟩, .string ⟨#[97, 97, 97, 97, 97, 97, 97, 97, 97, 97, 97, 97, 97, 97, 97, 97, 97, 97, 97, 97]⟩, .string ⟨#[97, 97, 97, 97, 97, 97, 97, 97, 97, 97, 97, 97, 97, 97, 97, 97, 97, 97, 97, 97, 97]⟩, .string ⟨#[43, 53]⟩, .string ⟨#[45, 45, 53]⟩, .string ⟨#[45]⟩] 9)).alloc (.cells #[.int .i64 0, .int .i64 1, .int .i64 (-1), .int .i64 9, .int .i64 10, .int .i64 1073741824, .int .i64 (-1073741824), .int .i64 1073741825, .int .i64 (-1073741825), .int .i64 4611686018427387904, .int .i64 (-4611686018427387904)] 3))) := Lib.hid ((HO1.out.alloc _).alloc _)
  generalize (w1.alloc (.cells #[.string ⟨#[]⟩, .string ⟨#[48]⟩, .string ⟨#[45, 48]⟩, .string ⟨#[48, 48, 55]⟩, .string ⟨#[45, 49, 50]⟩, .string ⟨#[49, 48, 55, 51, 55, 52, 49, 56, 50, 52]⟩, .string ⟨#[49, 48, 55, 51, 55, 52, 49, 56, 50, 53]⟩, .string ⟨#[45, 49, 48, 55, 51, 55, 52, 49, 56, 50, 52]⟩, .string ⟨#[45, 49, 48, 55, 51, 55, 52, 49, 56, 50, 53]⟩, .string ⟨#[57, 57, 57, 57, 57, 57, 57, 57, 57, 57, 57, 57, 57, 57, 57, 57, 57, 57, 57, 57]⟩, .string ⟨#[97, 98, 99]⟩, .string ⟨#[97, 32, 98]⟩, .string ⟨#[65]⟩, .string ⟨#[97, 97, 97, 97, 97, 97, 97, 97, 97, 97, 97, 97, 97, 97, 97, 97, 97, 97, 97, 97]⟩, .string ⟨#[97, 97, 97, 97, 97, 97, 97, 97, 97, 97, 97, 97, 97, 97, 97, 97, 97, 97, 97, 97, 97]⟩, .string ⟨#[43, 53]⟩, .string ⟨#[45, 45, 53]⟩, .string ⟨#[45]⟩] 9)).alloc (.cells #[.int .i64 0, .int .i64 1, .int .i64 (-1), .int .i64 9, .int .i64 10, .int .i64 1073741824, .int .i64 (-1073741824), .int .i64 1073741825, .int .i64 (-1073741825), .int .i64 4611686018427387904, .int .i64 (-4611686018427387904)] 3) = wL at *
  have HTX := Lib.hid (fun V (k : Ok wL V) j (hj : j < 18) => Ok.cell k (cellT hb1 j hj))
  have HNX := Lib.hid (fun V (k : Ok wL V) j (hj : j < 11) => Ok.cell k (cellN hb2 j hj))
  clear hb1 hb2 HO1
  generalize w1.heap.size + 1 = nb at *
  generalize w1.heap.size = tb at *
  go_loopw [3] (fun i wr => Ends1 wL wr i) (fun i _ => 18 - (intOf i).toNat)
  case atStart => exact ⟨0, Nat.zero_le _, rfl, Ok.refl _⟩
  case round =>
    obtain ⟨i, hi, rfl, okr⟩ := hrel
    have HOK1 := Lib.hid okr
    clear okr
    have hi0 : (0 : Int) ≤ (i : Int) := Int.natCast_nonneg _
    by_cases hlt : i < 18
    · have d1 : decide ((i : Int) < 18) = true := decide_eq_true (by omega)
      have hi1 : (i : Int) < 18 := by omega
      have HTI := Lib.hid (fun V k => HTX.out V k i hlt)
      have hsz := txE_size i
      obtain ⟨wa, hwa⟩ : ∃ x, x = wr := ⟨_, rfl⟩
      subst hwa
      go_wp2_with fail
      go_loopw [4] (fun k wr => Ends2 wa wr k) (fun i _ => 11 - (intOf i).toNat)
      case atStart => exact ⟨0, Nat.zero_le _, rfl, Ok.refl _⟩
      case round =>
        obtain ⟨k, hk, rfl, okr⟩ := hrel
        have HOK2a := Lib.hid okr
        have HOK2 := Lib.hid (Ok.trans HOK1.out okr)
        clear okr
        have hk0 : (0 : Int) ≤ (k : Int) := Int.natCast_nonneg _
        by_cases hkl : k < 11
        · have d2 : decide ((k : Int) < 11) = true := decide_eq_true (by omega)
          have hk1 : (k : Int) < 11 := by omega
          obtain ⟨wb, hwb⟩ : ∃ x, x = wr := ⟨_, rfl⟩
          subst hwb
          have HNK := Lib.hid (fun V k' => HNX.out V k' k hkl)
          obtain ⟨nk1, nk2⟩ := nmE_bound k
          have c1 := cell_regrown (HTI.out _ HOK2.out)
          have c2 := cell_regrown (HNK.out _ HOK2.out)
          have q4 : ∀ d os, Calls Tryd.prog 4 #[.int .i64 (nmE k), .string (txE i)] (Go.Sort.grow (redrawn wb d) os) fun e w'' => e = .returned (.bool true) ∧ ∃ q : Regrown, w'' = Go.Sort.grow (redrawn wb q.d) q.os := fun d os => Calls.regrown_of (values_w (nmE k) (txE i) ⟨by omega, by omega⟩ (by omega) _ (HT.out.ok (Ok.trans (Ok.trans HOL.out HOK2.out) (below_regrown wb d os))))
          go_wp2_with fail
          refine wp_region_quiet_below (by kernel_rfl) (by kernel_rfl) ?_
          refine HeldU.out ?_
          repeat (
            refine hqU_step (fun K hK => ?_)
            go_simp
            first
              | (refine hK _ ?_; clear hK K)
              | (apply Exists.intro
                 refine ⟨fun _ => ?_, hK _ ?_⟩
                 (with_reducible first
                   | exact q4 _ _)
                 clear hK K))
          refine HeldU.mk (wpQuiet_nil ?_)
          intro _ hw'
          obtain ⟨⟨dq, osq⟩, hw''⟩ := hw'
          subst hw''
          have HOK2b := Lib.hid (Ok.trans HOK2a.out (below_regrown wb dq osq))
          have HOK2d := Lib.hid (Ok.trans HOK2.out (below_regrown wb dq osq))
          clear q4 c1 c2 HOK2 HOK2a
          generalize Go.Sort.grow (redrawn wb dq) osq = wd at *
          go_wp2_with fail
          go_loopw [5] (fun n wr => Ends3 wd wr n) (fun i _ => 5 - (intOf i).toNat)
          case atStart => exact ⟨0, Nat.zero_le _, rfl, Ok.refl _⟩
          case round =>
            obtain ⟨n, hn, rfl, okr⟩ := hrel
            have HOK3d := Lib.hid okr
            have HOK3 := Lib.hid (Ok.trans HOK2d.out okr)
            clear okr
            have hn0 : (0 : Int) ≤ (n : Int) := Int.natCast_nonneg _
            by_cases hnl : n < 5
            · have d3 : decide ((n : Int) < 5) = true := decide_eq_true (by omega)
              have hn1 : (n : Int) < 5 := by omega
              obtain ⟨wc, hwc⟩ : ∃ x, x = wr := ⟨_, rfl⟩
              subst hwc
              obtain ⟨q1, hq1, hr1⟩ : ∃ q : Nat, q < 18 ∧ ((i : Int) + (k : Int)).tmod 18 = (q : Int) := ⟨(i + k) % 18, Nat.mod_lt _ (by decide), by rw [Int.tmod_eq_emod_of_nonneg (by omega)]; omega⟩
              obtain ⟨q2, hq2, hr2⟩ : ∃ q : Nat, q < 11 ∧ ((k : Int) + 3).tmod 11 = (q : Int) := ⟨(k + 3) % 11, Nat.mod_lt _ (by decide), by rw [Int.tmod_eq_emod_of_nonneg (by omega)]; omega⟩
              obtain ⟨q3, hq3, hr3⟩ : ∃ q : Nat, q < 11 ∧ ((k : Int) + (n : Int)).tmod 11 = (q : Int) := ⟨(k + n) % 11, Nat.mod_lt _ (by decide), by rw [Int.tmod_eq_emod_of_nonneg (by omega)]; omega⟩
              have cT0 := HTX.out wc HOK3.out i hlt
              have cT1 := HTX.out wc HOK3.out q1 hq1
              have cN0 := HNX.out wc HOK3.out k hkl
              have cN2 := HNX.out wc HOK3.out q2 hq2
              have b10 : (0 : Int) ≤ (q1 : Int) := Int.natCast_nonneg _
              have b11 : (q1 : Int) < 18 := by omega
              have b20 : (0 : Int) ≤ (q2 : Int) := Int.natCast_nonneg _
              have b21 : (q2 : Int) < 11 := by omega
              have b30 : (0 : Int) ≤ (q3 : Int) := Int.natCast_nonneg _
              have b31 : (q3 : Int) < 11 := by omega
              have w1e : IntKind.i64.wrap ((i : Int) + (k : Int)) = (i : Int) + (k : Int) := IntWalk.i64_in _ (by omega)
              have w2e : IntKind.i64.wrap ((k : Int) + 3) = (k : Int) + 3 := IntWalk.i64_in _ (by omega)
              have w3e : IntKind.i64.wrap ((k : Int) + (n : Int)) = (k : Int) + (n : Int) := IntWalk.i64_in _ (by omega)
              have w4e : IntKind.u8.wrap (n : Int) = (n : Int) := u8_small n (by omega)
              go_wp2_with fail
              go_still_tail 29, (by kernel_rfl)
              change wpList _ _ _ _ _ wc.drew
              have HOKe := Lib.hid (Ok.drew HOK3.out)
              have HOKed := Lib.hid (Ok.drew HOK3d.out)
              generalize wc.drew = we at *
              clear w1e w2e hr1 hr2 b10 b11 b20 b21 cN2 cT1 cT0 cN0 w4e
              go_wp2_with fail
              have HA2 := two_acts we (n : Int) (txE q1) (nmE k) (txE i) (nmE q2)
              have HOKf := Lib.hid (HOKe.out.alloc (.cells #[.int .u8 (n : Int), .string ⟨#[107]⟩, .string (txE q1), .int .i64 (nmE k), .int .u8 3, .string (txE i), .string ⟨#[]⟩, .int .i64 (nmE q2)] 52))
              have HOKfd := Lib.hid (HOKed.out.alloc (.cells #[.int .u8 (n : Int), .string ⟨#[107]⟩, .string (txE q1), .int .i64 (nmE k), .int .u8 3, .string (txE i), .string ⟨#[]⟩, .int .i64 (nmE q2)] 52))
              generalize we.alloc (.cells #[.int .u8 (n : Int), .string ⟨#[107]⟩, .string (txE q1), .int .i64 (nmE k), .int .u8 3, .string (txE i), .string ⟨#[]⟩, .int .i64 (nmE q2)] 52) = wf at *
              generalize we.heap.size = h at *
              obtain ⟨AL, hs, HA1⟩ := slice_low wf (some ⟨h, 0, none⟩) 2 2 _ rfl (Nat.le_refl 2) HA2 1 (by decide)
              have hs1 : ∀ wx, (Instr.slice 22 (.slice (some ⟨h, 0, none⟩) 2 2) none (some (.int .i64 1)) none).run Tryd.prog wx = .ok (.slice AL 1 2) wx := fun wx => hs wx
              have HZ2 := Lib.hid (two_sz (n : Int) (txE q1) (nmE k) (txE i) (nmE q2) (txE_size _) (txE_size _))
              have HZ1 := Lib.hid (HZ2.out.take 1)
              have q3a : ∀ (is : Bool) (a b c e : Int) d os, Calls Tryd.prog 3 #[.slice AL 1 2, .bool is, .string (txE i), .string ⟨#[107]⟩, .agg #[.int .i64 a, .int .i64 b], .agg #[.int .i64 c, .int .i64 e]] (Go.Sort.grow (redrawn wf d) os) fun e w'' => e = .returned (.bool true) ∧ ∃ q : Regrown, w'' = Go.Sort.grow (redrawn wf q.d) q.os := fun is a b c e d os => Calls.regrown_of (tells_w AL 1 2 _ rfl (fun e => by obtain ⟨_, _, e2, _⟩ := HA1 0 (by simp); rw [e] at e2; cases e2) HZ1.out is (txE i) ⟨#[107]⟩ a b c e _ (HT.out.ok (Ok.trans (Ok.trans HOL.out HOKf.out) (below_regrown wf d os))) (HA1.ok (below_regrown wf d os)))
              have q3b : ∀ (is : Bool) (a b c e : Int) d os, Calls Tryd.prog 3 #[.slice (some ⟨h, 0, none⟩) 2 2, .bool is, .string (txE i), .string ⟨#[107]⟩, .agg #[.int .i64 a, .int .i64 b], .agg #[.int .i64 c, .int .i64 e]] (Go.Sort.grow (redrawn wf d) os) fun e w'' => e = .returned (.bool true) ∧ ∃ q : Regrown, w'' = Go.Sort.grow (redrawn wf q.d) q.os := fun is a b c e d os => Calls.regrown_of (tells_w (some ⟨h, 0, none⟩) 2 2 _ rfl (fun e => by cases e) HZ2.out is (txE i) ⟨#[107]⟩ a b c e _ (HT.out.ok (Ok.trans (Ok.trans HOL.out HOKf.out) (below_regrown wf d os))) (HA2.ok (below_regrown wf d os)))
              have c1 := cell_regrown (HTI.out _ HOKf.out)
              have c2 := cell_regrown (HNK.out _ HOKf.out)
              have c3 := cell_regrown (HNX.out wf HOKf.out q3 hq3)
              clear hs HA1 HA2
              go_wp2_with fail
              refine wp_region_quiet_below (by kernel_rfl) (by kernel_rfl) ?_
              refine HeldU.out ?_
              repeat (
                refine hqU_step (fun K hK => ?_)
                go_simp
                first
                  | (refine hK _ ?_; clear hK K)
                  | (apply Exists.intro
                     refine ⟨fun _ => ?_, hK _ ?_⟩
                     (with_reducible first
                       | exact q3a _ _ _ _ _ _ _
                       | exact q3b _ _ _ _ _ _ _)
                     clear hK K))
              refine HeldU.mk (wpQuiet_nil ?_)
              intro _ hw'
              obtain ⟨⟨dq2, osq2⟩, hw''⟩ := hw'
              subst hw''
              have HOKg := Lib.hid (Ok.trans HOKfd.out (below_regrown wf dq2 osq2))
              clear q3a q3b c1 c2 c3 hs1
              generalize Go.Sort.grow (redrawn wf dq2) osq2 = wg at *
              go_wp2_with fail
              refine ⟨⟨n + 1, hnl, by go_num, HOKg.out⟩, by simp [intOf]; omega⟩
            · have d3 : decide ((n : Int) < 5) = false := decide_eq_false (by omega)
              go_wp2_with fail
              refine ⟨⟨k + 1, hkl, by go_num, Ok.trans HOK2b.out HOK3d.out⟩, by simp [intOf]; omega⟩
        · have d2 : decide ((k : Int) < 11) = false := decide_eq_false (by omega)
          go_wp2_with fail
          refine ⟨⟨i + 1, hlt, by go_num, HOK2.out⟩, by simp [intOf]; omega⟩
    · have d1 : decide ((i : Int) < 18) = false := decide_eq_false (by omega)
      go_wp2_with fail
      (with_reducible refine (tells_w none 0 0 [] rfl (fun _ => rfl) sz_nil true ⟨#[53]⟩ ⟨#[]⟩ 0 0 0 0 wr (HT.out.ok (Ok.trans HOL.out HOK1.out)) (acts_nil wr)).mono ?_)
      rintro _ wz ⟨rfl, oz⟩
      have HOZ := Lib.hid (Ok.trans (Ok.trans HOL.out HOK1.out) oz)
      clear oz
      have hmk := mk7 wz
      have HZ7 := Lib.hid (acts_block (heap_alloc_new wz (.cells (flat4 z7).toArray 52)))
      have HOY := Lib.hid (HOZ.out.alloc (.cells (flat4 z7).toArray 52))
      generalize wz.alloc (.cells (flat4 z7).toArray 52) = wy at *
      go_wp2_with fail
      (with_reducible refine (tells_w _ 7 7 z7 z7_len (fun e => by cases e) sz_z7 true ⟨#[53]⟩ ⟨#[]⟩ 0 0 0 0 wy (HT.out.ok HOY.out) HZ7.out).mono ?_)
      rintro _ wx ⟨rfl, ox⟩
      have HOX := Lib.hid (Ok.trans HOY.out ox)
      clear ox
      go_wp2_with fail
      go_ret
      exact ⟨rfl, HOX.out⟩
end Go.Proofs.YthbbbjkgfdnkhaaDoor
