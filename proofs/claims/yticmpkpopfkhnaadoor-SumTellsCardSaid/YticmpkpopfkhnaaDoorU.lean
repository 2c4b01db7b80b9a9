/- Contracts of the helpers that lend lists of bytes. -/
import Derived.Test.YticmpkpopfkhnaaDoorD
import Derived.Test.YticmpkpopfkhnaaDoorG
namespace Go.Proofs.YticmpkpopfkhnaaDoor
open Go.RowKit
set_option maxRecDepth 100000 in
set_option maxHeartbeats 400000 in
theorem mark_v (i : Nat) (w : World) (hi : i < 12) : Calls Tryd.prog 27 #[.int .i64 1, .int .i64 (i : Int)] w fun e w' => e = .returned (.int .i64 ((8000024 + i : Nat) : Int)) ∧ w = w' := by
  go_enter Tryd.func27, Tryd.ntmps27
  go_wp2
  go_ret
  exact ⟨by simp, rfl⟩
/-- The mark of a place behind a lent list. -/
def mbI (i : Nat) : Int := IntKind.u64.wrap (((8000024 + i : Nat) : Int) * 11400714819323198485) / 72057594037927936 % 256
def mb (i : Nat) : B8 := BitVec.ofInt 8 (mbI i)
theorem ub_mb (i : Nat) : mbI i = ub (mb i) := by
  have h0 : 0 ≤ mbI i := by unfold mbI; omega
  have h1 : mbI i < 256 := by unfold mbI; omega
  unfold mb
  generalize mbI i = z at *
  obtain ⟨k, rfl⟩ := Int.eq_ofNat_of_zero_le h0
  rw [BitVec.ofInt_natCast, ub, BitVec.toNat_ofNat]; omega
set_option maxRecDepth 100000 in
set_option maxHeartbeats 400000 in
theorem markByte_v (i : Nat) (w : World) (hi : i < 12) : Calls Tryd.prog 25 #[.int .i64 1, .int .i64 (i : Int)] w fun e w' => e = .returned (.int .u8 (ub (mb i))) ∧ w = w' := by
  have HM : Hid (IntKind.u64.wrap (((8000024 + i : Nat) : Int) * 11400714819323198485) / 72057594037927936 % 256 = ub (mb i)) := Lib.hid (by have := ub_mb i; unfold mbI at this; exact this)
  go_enter Tryd.func25, Tryd.ntmps25
  go_wp2_with fail
  refine (mark_v i w hi).mono ?_
  rintro e w' ⟨rfl, rfl⟩
  have hmb : 8000024 + i < 9000000 := by omega
  generalize 8000024 + i = m at *
  go_wp2_with fail
  go_ret
  have hm := HM.out
  clear HM
  generalize mb i = y at *
  generalize hz : IntKind.u64.wrap ((m : Int) * 11400714819323198485) / 72057594037927936 % 256 = z at *
  subst hm
  exact ⟨rfl, rfl⟩

def marks (k : Nat) : List B8 := (List.range k).map mb
theorem marks_len (k : Nat) : (marks k).length = k := by simp [marks]
theorem marks_snoc (k : Nat) : marks (k + 1) = marks k ++ [mb k] := by simp [marks, List.range_succ]
theorem marks_get (k i : Nat) (h : i < k) : (marks k).getD i 0#8 = mb i := by simp [marks, h]

/-- A lent list: its bytes, and twelve marks behind them, in a row of its own from block base on. -/
def LentPost (W : World) (xs : List B8) (e : Ending) (w' : World) : Prop :=
  ∃ g cap, e = .returned (.slice (some ⟨g, 0, none⟩) xs.length cap) ∧ OwnB w' W.heap.size g cap (xs ++ marks 12) ∧ Ok W w'
set_option maxRecDepth 100000 in
set_option maxHeartbeats 2000000 in
theorem lentBytes_v (W : World) (v : Value) (xs : List B8) (h : BytesIn W v xs) (hx : xs.length ≤ 20000) :
    Calls Tryd.prog 18 #[v] W (LentPost W xs) := by
  obtain ⟨A, c, rfl, _⟩ := h.form
  have HX := Lib.hid h
  clear h
  obtain ⟨i0, hi, hz0, hz1, hz2⟩ := info_parts info5
  have HI := Lib.hid hi
  have HZ0 := Lib.hid hz0
  have HZ1 := Lib.hid hz1
  have HZ2 := Lib.hid hz2
  clear hi hz0 hz1 hz2
  generalize hn : xs.length = n at *
  have HN := Lib.hid hn
  clear hn
  go_enter Tryd.func18, Tryd.ntmps18
  go_wp2_with (first
    | (at_make; go_must (refine wpList_make_own _ rfl _ _ 34 rfl W.heap.size 5 i0 (.int .u8 0) 1 Tryd.underlying34 HI.out HZ0.out HZ1.out .i64 .i64 _ (n + 12) rfl rfl (by first | rfl | simp | (push_cast; omega)) (by rw [HZ2.out]; omega) (by unfold maxLen; omega) (Nat.le_refl _) ?_; intro w0 hown0 hgrow0; have HOW0 : Hid (OwnB w0 W.heap.size W.heap.size (n + 12) []) := Lib.hid ⟨hown0, by simp, by unfold maxLen; omega⟩; have HB0 : Hid (Ok W w0) := Lib.hid ((Below.refl _ _).grown hgrow0 (Nat.le_refl _) (fun k hk => by cases hk)); clear hown0 hgrow0))
    | (at_builtin; go_must (refine wpList_app rfl (.tmp 9) (.tmp 10) rfl W.heap.size W.heap.size (n + 12) [] xs (.slice A n c) rfl rfl HOW0.out (HX.out.below HB0.out) (by rw [HN.out]; simp; omega) HB0.out.size ?_; intro g1 cap1 w1 hown1 hbel1; simp only [List.nil_append, List.length_nil, Nat.zero_add] at hown1 ⊢; rw [HN.out]; have HOW1 := Lib.hid hown1; have HB1 : Hid (Ok W w1) := Lib.hid (Below.trans HB0.out hbel1); clear hown1 hbel1)))
  go_loopw [3, 4] (fun o i wr => ∃ (j g cap : Nat), j ≤ 12 ∧ i = .int .i64 j ∧ o = .slice (some ⟨g, 0, none⟩) (n + j) cap ∧ OwnB wr W.heap.size g cap (xs ++ marks j) ∧ Ok W wr) (fun _ i _ => 12 - (intOf i).toNat)
  case atStart => exact ⟨0, g1, cap1, by omega, rfl, rfl, by simpa [marks] using HOW1.out, HB1.out⟩
  case round =>
    obtain ⟨j, g, cap, hj, rfl, rfl, hown, hok⟩ := hrel
    have HOW := Lib.hid hown
    have HOK := Lib.hid hok
    clear hown hok
    by_cases hlt : j < 12
    · have HMS := Lib.hid (marks_snoc j)
      have HL : Hid ((xs ++ marks j).length = n + j) := Lib.hid (by rw [List.length_append, marks_len, HN.out])
      have hd : decide ((j : Int) < 12) = true := decide_eq_true (by omega)
      go_wp2_with fail
      refine (markByte_v j _ hlt).mono ?_
      rintro e w2 ⟨rfl, rfl⟩
      have HNEW : Hid (BytesIn (wr.alloc (.cells #[.int .u8 (ub (mb j))] 5)) (.slice (some ⟨wr.heap.size, 0, none⟩) 1 1) [mb j]) := Lib.hid (bytes_new wr _ _ 5 _ _ _ 1 rfl rfl (by simp) rfl)
      have HOWA : Hid (OwnB (wr.alloc (.cells #[.int .u8 (ub (mb j))] 5)) W.heap.size g cap (xs ++ marks j)) := Lib.hid (HOW.out.ok ((Ok.refl wr).alloc _))
      generalize mb j = y at *
      go_wp2_with (at_builtin; go_must (refine wpList_app rfl (.tmp 16) (.tmp 19) rfl W.heap.size g cap (xs ++ marks j) [y] (.slice (some ⟨wr.heap.size, 0, none⟩) 1 1) (by rw [HL.out]; rfl) rfl HOWA.out HNEW.out (by rw [HL.out]; simp; omega) (Nat.le_trans HOK.out.size (by simp)) ?_; intro g1 cap1 w1 hown1 hbel1; rw [HL.out]; have HOW1 := Lib.hid hown1; have HB1 : Hid (Ok W w1) := Lib.hid (Below.trans (HOK.out.alloc _) hbel1); clear hown1 hbel1))
      go_roundw
      case rel => exact ⟨j + 1, g1, cap1, by omega, by go_num, rfl, by rw [HMS.out, ← List.append_assoc]; exact HOW1.out, HB1.out⟩
      case measure => simp [intOf]; omega
    · have hje : j = 12 := by omega
      subst hje
      have hcap : n + 12 ≤ cap := by
        have := HOW.out.2.1
        rw [List.length_append, marks_len, HN.out] at this
        exact this
      have hcapm : cap ≤ 9223372036854775807 := HOW.out.2.2
      have hi1 : (n : Int) ≤ (cap : Int) := by omega
      have hn0 : (0 : Int) ≤ (n : Int) := Int.natCast_nonneg _
      go_wp2_with fail
      go_ret
      exact ⟨g, cap, by rw [HN.out]; rfl, HOW.out, HOK.out⟩
end Go.Proofs.YticmpkpopfkhnaaDoor
