/- Texts lent, with marks behind them; whether they are kept; whether two rows of spans are the same. -/
import Derived.Test.YtneipmgkphdfkaaO
import Derived.Laws.BytesString
namespace Go.Proofs.Ytneipmgkphdfkaa
open Go.RowKit

theorem conv8 (w : World) (a0 a1 a2 a3 a4 a5 a6 a7 : Int) : (convert 97 9 (.slice (some ⟨w.heap.size, 0, none⟩) 8 8)).run Try.prog (w.alloc (.cells #[.int .u8 a0, .int .u8 a1, .int .u8 a2, .int .u8 a3, .int .u8 a4, .int .u8 a5, .int .u8 a6, .int .u8 a7] 5)) =
    .ok (.string ([a0, a1, a2, a3, a4, a5, a6, a7].foldl (fun r n => r.push (UInt8.ofNat n.toNat)) ByteArray.empty)) (w.alloc (.cells #[.int .u8 a0, .int .u8 a1, .int .u8 a2, .int .u8 a3, .int .u8 a4, .int .u8 a5, .int .u8 a6, .int .u8 a7] 5)) := by
  rw [run_convert_bytes_string _ 97 9 5 _ _ _ Try.underlying97 Try.underlying5 Try.underlying9]
  refine run_bytesToString _ _ 8 8 [a0, a1, a2, a3, a4, a5, a6, a7] ?_
  simp [loadCells, go_sem]
/-- The mark of a place. -/
def markS (i : Nat) : Str := ⟨#[35, 1, 0, 0, 47, UInt8.ofNat i, 0, 0]⟩

set_option maxRecDepth 100000 in
set_option maxHeartbeats 4000000 in
theorem mark_0 (w : World) : Calls Try.prog 48 #[.int .i64 1, .int .i64 0] w (Ret w (.string ⟨#[35, 1, 0, 0, 47, 0, 0, 0]⟩)) := by
  have h8 := conv8 w
  go_enter Try.func48, Try.ntmps48
  go_wp2
  go_ret
  exact ⟨rfl, Ok.alloc (Ok.refl w) _⟩
set_option maxRecDepth 100000 in
set_option maxHeartbeats 4000000 in
theorem mark_1 (w : World) : Calls Try.prog 48 #[.int .i64 1, .int .i64 1] w (Ret w (.string ⟨#[35, 1, 0, 0, 47, 1, 0, 0]⟩)) := by
  have h8 := conv8 w
  go_enter Try.func48, Try.ntmps48
  go_wp2
  go_ret
  exact ⟨rfl, Ok.alloc (Ok.refl w) _⟩
set_option maxRecDepth 100000 in
set_option maxHeartbeats 4000000 in
theorem mark_2 (w : World) : Calls Try.prog 48 #[.int .i64 1, .int .i64 2] w (Ret w (.string ⟨#[35, 1, 0, 0, 47, 2, 0, 0]⟩)) := by
  have h8 := conv8 w
  go_enter Try.func48, Try.ntmps48
  go_wp2
  go_ret
  exact ⟨rfl, Ok.alloc (Ok.refl w) _⟩
set_option maxRecDepth 100000 in
set_option maxHeartbeats 4000000 in
theorem mark_3 (w : World) : Calls Try.prog 48 #[.int .i64 1, .int .i64 3] w (Ret w (.string ⟨#[35, 1, 0, 0, 47, 3, 0, 0]⟩)) := by
  have h8 := conv8 w
  go_enter Try.func48, Try.ntmps48
  go_wp2
  go_ret
  exact ⟨rfl, Ok.alloc (Ok.refl w) _⟩
set_option maxRecDepth 100000 in
set_option maxHeartbeats 4000000 in
theorem mark_4 (w : World) : Calls Try.prog 48 #[.int .i64 1, .int .i64 4] w (Ret w (.string ⟨#[35, 1, 0, 0, 47, 4, 0, 0]⟩)) := by
  have h8 := conv8 w
  go_enter Try.func48, Try.ntmps48
  go_wp2
  go_ret
  exact ⟨rfl, Ok.alloc (Ok.refl w) _⟩
set_option maxRecDepth 100000 in
set_option maxHeartbeats 4000000 in
theorem mark_5 (w : World) : Calls Try.prog 48 #[.int .i64 1, .int .i64 5] w (Ret w (.string ⟨#[35, 1, 0, 0, 47, 5, 0, 0]⟩)) := by
  have h8 := conv8 w
  go_enter Try.func48, Try.ntmps48
  go_wp2
  go_ret
  exact ⟨rfl, Ok.alloc (Ok.refl w) _⟩
set_option maxRecDepth 100000 in
set_option maxHeartbeats 4000000 in
theorem mark_6 (w : World) : Calls Try.prog 48 #[.int .i64 1, .int .i64 6] w (Ret w (.string ⟨#[35, 1, 0, 0, 47, 6, 0, 0]⟩)) := by
  have h8 := conv8 w
  go_enter Try.func48, Try.ntmps48
  go_wp2
  go_ret
  exact ⟨rfl, Ok.alloc (Ok.refl w) _⟩
set_option maxRecDepth 100000 in
set_option maxHeartbeats 4000000 in
theorem mark_7 (w : World) : Calls Try.prog 48 #[.int .i64 1, .int .i64 7] w (Ret w (.string ⟨#[35, 1, 0, 0, 47, 7, 0, 0]⟩)) := by
  have h8 := conv8 w
  go_enter Try.func48, Try.ntmps48
  go_wp2
  go_ret
  exact ⟨rfl, Ok.alloc (Ok.refl w) _⟩
set_option maxRecDepth 100000 in
set_option maxHeartbeats 4000000 in
theorem mark_8 (w : World) : Calls Try.prog 48 #[.int .i64 1, .int .i64 8] w (Ret w (.string ⟨#[35, 1, 0, 0, 47, 8, 0, 0]⟩)) := by
  have h8 := conv8 w
  go_enter Try.func48, Try.ntmps48
  go_wp2
  go_ret
  exact ⟨rfl, Ok.alloc (Ok.refl w) _⟩
set_option maxRecDepth 100000 in
set_option maxHeartbeats 4000000 in
theorem mark_9 (w : World) : Calls Try.prog 48 #[.int .i64 1, .int .i64 9] w (Ret w (.string ⟨#[35, 1, 0, 0, 47, 9, 0, 0]⟩)) := by
  have h8 := conv8 w
  go_enter Try.func48, Try.ntmps48
  go_wp2
  go_ret
  exact ⟨rfl, Ok.alloc (Ok.refl w) _⟩
set_option maxRecDepth 100000 in
set_option maxHeartbeats 4000000 in
theorem mark_10 (w : World) : Calls Try.prog 48 #[.int .i64 1, .int .i64 10] w (Ret w (.string ⟨#[35, 1, 0, 0, 47, 10, 0, 0]⟩)) := by
  have h8 := conv8 w
  go_enter Try.func48, Try.ntmps48
  go_wp2
  go_ret
  exact ⟨rfl, Ok.alloc (Ok.refl w) _⟩
set_option maxRecDepth 100000 in
set_option maxHeartbeats 4000000 in
theorem mark_11 (w : World) : Calls Try.prog 48 #[.int .i64 1, .int .i64 11] w (Ret w (.string ⟨#[35, 1, 0, 0, 47, 11, 0, 0]⟩)) := by
  have h8 := conv8 w
  go_enter Try.func48, Try.ntmps48
  go_wp2
  go_ret
  exact ⟨rfl, Ok.alloc (Ok.refl w) _⟩
theorem mark_w (i : Nat) (h : i < 12) (w : World) : Calls Try.prog 48 #[.int .i64 1, .int .i64 (i : Int)] w (Ret w (.string (markS i))) := by
  match i, h with
  | 0, _ => exact mark_0 w
  | 1, _ => exact mark_1 w
  | 2, _ => exact mark_2 w
  | 3, _ => exact mark_3 w
  | 4, _ => exact mark_4 w
  | 5, _ => exact mark_5 w
  | 6, _ => exact mark_6 w
  | 7, _ => exact mark_7 w
  | 8, _ => exact mark_8 w
  | 9, _ => exact mark_9 w
  | 10, _ => exact mark_10 w
  | 11, _ => exact mark_11 w

def marksS (m : Nat) : List Str := (List.range m).map markS
theorem marksS_len (m : Nat) : (marksS m).length = m := by simp [marksS]
theorem marksS_succ (m : Nat) : marksS (m + 1) = marksS m ++ [markS m] := by simp [marksS, List.range_succ]
theorem lent_at0 (zs : List Str) (j : Nat) (h : j < zs.length) : at0 (zs ++ marksS 12) j = at0 zs j := by
  rw [at0, at0, List.getElem?_append_left h]
theorem lent_at1 (zs : List Str) (j : Nat) (h : j < 12) : at0 (zs ++ marksS 12) (zs.length + j) = markS j := by
  simp [at0, marksS, h]
/-- What LentTexts leaves: the texts, in a new row, with twelve marks behind them. -/
def LentPost (w : World) (zs : List Str) : Ending → World → Prop := fun e w' => ∃ g cap, e = .returned (.slice (some ⟨g, 0, none⟩) zs.length cap) ∧ zs.length + 12 ≤ cap ∧ w.heap.size ≤ g ∧ Ok w w' ∧ ∀ j, j < zs.length + 12 → w'.cell? ⟨g, j, none⟩ = some (.string (at0 (zs ++ marksS 12) j))
theorem OwnT.form {w : World} {B : Nat} {v : Value} {xs : List Str} (h : OwnT w B v xs) (hp : 0 < xs.length) : ∃ g cap, v = .slice (some ⟨g, 0, none⟩) xs.length cap ∧ xs.length ≤ cap ∧ B ≤ g ∧ ∀ j, j < xs.length → w.cell? ⟨g, j, none⟩ = some (.string (at0 xs j)) := by
  have h0 := h
  rcases h.2 with ⟨rfl, h5⟩ | ⟨g, cap, cur, rfl, hB, hg, h1, h2, h3, h4⟩
  · omega
  · refine ⟨g, cap, rfl, ?_, hB, fun j hj => ?_⟩
    · omega
    · rw [World.ownsRow.cellAt h0 j (by omega)]
      simp [at0, hj]

theorem one_new (w : World) (t : Str) : StrsN (w.heap.size + 1) (w.alloc (.cells #[.string t] 9)) (.slice (some ⟨w.heap.size, 0, none⟩) 1 1) [t] := by
  refine .inr ⟨w.heap.size, 0, 1, rfl, Nat.lt_succ_self _, by simp, fun j hj => ?_⟩
  obtain rfl : j = 0 := by simpa using hj
  rw [show at0 [t] 0 = t from rfl]
  go_cell
theorem OwnT.alloc {w : World} {B : Nat} {v : Value} {xs : List Str} (h : OwnT w B v xs) (o : Obj) : OwnT (w.alloc o) B v xs := World.ownsRow.alloc h o
theorem OwnT.ok {w w' : World} {B : Nat} {v : Value} {xs : List Str} (h : OwnT w B v xs) (k : Ok w w') : OwnT w' B v xs := by
  refine World.ownsRow.kept (row := none) h ⟨k.os, k.tape, k.output, k.size, fun i hi _ => k.block i hi⟩ ?_
  cases Value.ownBlock v with
  | none => exact .inl rfl
  | some b => exact .inr (fun e => by cases e)

set_option maxRecDepth 100000 in
set_option maxHeartbeats 8000000 in
theorem lent_w (v : Value) (zs : List Str) (w : World) (hz : zs.length ≤ 60) (h : StrsN w.heap.size w v zs) : Calls Try.prog 23 #[v] w (LentPost w zs) := by
  obtain ⟨A, c, rfl⟩ := h.form
  have H := Lib.hid h
  clear h
  obtain ⟨i0, hi, hz0, hz1, hz2⟩ := info_parts info9
  have HI := Lib.hid hi
  have HZ0 := Lib.hid hz0
  have HZ1 := Lib.hid hz1
  have HZ2 := Lib.hid hz2
  clear hi hz0 hz1 hz2
  obtain ⟨n, hn⟩ : ∃ n, zs.length = n := ⟨_, rfl⟩
  rw [hn] at H
  have HN := Lib.hid hn
  have hn60 : n ≤ 60 := by omega
  clear hn hz
  rw [HN.out]
  go_enter Try.func23, Try.ntmps23
  go_wp2_with (first
    | (at_make; go_must (refine wpList_make_own _ rfl _ _ 24 rfl w.heap.size 9 i0 (.string ⟨#[]⟩) 1 Try.underlying24 HI.out HZ0.out HZ1.out .i64 .i64 _ (n + 12) rfl rfl (by first | rfl | simp | (push_cast; omega)) (by rw [HZ2.out]; omega) (by unfold maxLen; omega) (Nat.le_refl _) ?_; intro w0 hown0 hgrow0; have HOW0 : Hid (OwnT w0 w.heap.size (.slice (some ⟨w.heap.size, 0, none⟩) 0 (n + 12)) []) := Lib.hid hown0; have HB0 : Hid (Ok w w0) := Lib.hid ((Below.refl _ _).grown hgrow0 (Nat.le_refl _) (fun k hk => by cases hk)); clear hown0 hgrow0))
    | (at_builtin; go_must (refine wpList_appT rfl (.tmp 9) (.tmp 10) rfl w.heap.size _ [] zs _ w.heap.size rfl rfl HOW0.out (H.out.below HB0.out) (by simp) HB0.out.size ?_; intro A1 n1 c1 w1 hown1 hbel1; have HOW1 : Hid (OwnT w1 w.heap.size (.slice A1 n1 c1) zs) := Lib.hid hown1; have HB1 : Hid (Ok w w1) := Lib.hid (Below.trans HB0.out hbel1); clear hown1 hbel1)))
  go_loopw [3, 4] (fun o i wr => ∃ (j : Nat) (A2 : Option Addr) (n2 c2 : Nat), j ≤ 12 ∧ i = .int .i64 j ∧ o = .slice A2 n2 c2 ∧ OwnT wr w.heap.size (.slice A2 n2 c2) (zs ++ marksS j) ∧ Ok w wr) (fun _ i _ => 12 - (intOf i).toNat)
  case atStart => exact ⟨0, A1, n1, c1, by omega, rfl, rfl, by simpa [marksS] using HOW1.out, HB1.out⟩
  case round =>
    obtain ⟨j, A2, n2, c2, hj, rfl, rfl, hown, hok⟩ := hrel
    have HOW := Lib.hid hown
    have HOK := Lib.hid hok
    clear hown hok HOW1 HB1 HOW0 HB0
    by_cases hlt : j < 12
    · have HMS := Lib.hid (marksS_succ j)
      have HL : Hid ((zs ++ marksS j).length ≤ 100) := Lib.hid (by rw [List.length_append, marksS_len, HN.out]; omega)
      have hd : decide ((j : Int) < 12) = true := decide_eq_true (by omega)
      go_wp2_with fail
      refine (mark_w j hlt _).mono ?_
      rintro e w2 ⟨rfl, o2⟩
      generalize markS j = y at *
      have HNEW := Lib.hid (one_new w2 y)
      have HOWA : Hid (OwnT (w2.alloc (.cells #[.string y] 9)) w.heap.size (.slice A2 n2 c2) (zs ++ marksS j)) := Lib.hid ((HOW.out.ok o2).alloc _)
      have HOK2 := Lib.hid (Ok.call HOK.out o2)
      clear o2
      go_wp2_with (at_builtin; go_must (refine wpList_appT rfl (.tmp 16) (.tmp 19) rfl w.heap.size _ (zs ++ marksS j) [y] _ (w2.heap.size + 1) rfl rfl HOWA.out HNEW.out HL.out (Nat.le_trans HOK2.out.size (by simp)) ?_; intro A3 n3 c3 w3 hown3 hbel3; have HOW3 := Lib.hid hown3; have HB3 : Hid (Ok w w3) := Lib.hid (Below.trans (Ok.alloc HOK2.out _) hbel3); clear hown3 hbel3))
      go_roundw
      case rel => exact ⟨j + 1, A3, n3, c3, by omega, by go_num, rfl, by rw [HMS.out, ← List.append_assoc]; exact HOW3.out, HB3.out⟩
      case measure => simp [intOf]; omega
    · have hje : j = 12 := by omega
      subst hje
      have hl : (zs ++ marksS 12).length = n + 12 := by rw [List.length_append, marksS_len, HN.out]
      obtain ⟨g, cap, he, hcap, hg, hcl⟩ := HOW.out.form (by rw [hl]; omega)
      rw [hl] at hcap hcl
      have HCL := Lib.hid hcl
      have HG := Lib.hid hg
      simp only [Value.slice.injEq] at he
      obtain ⟨rfl, rfl, rfl⟩ := he
      have hi1 : (n : Int) ≤ (c2 : Int) := by omega
      have hn0 : (0 : Int) ≤ (n : Int) := Int.natCast_nonneg _
      clear hl hcl hg
      go_wp2_with fail
      go_ret
      exact ⟨g, c2, by rw [HN.out]; rfl, by rw [HN.out]; exact hcap, HG.out, HOK.out, by rw [HN.out]; exact HCL.out⟩
end Go.Proofs.Ytneipmgkphdfkaa
