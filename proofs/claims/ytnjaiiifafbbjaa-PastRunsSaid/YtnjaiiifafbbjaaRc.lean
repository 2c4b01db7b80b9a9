/- Names lent, with marks behind them; whether they are kept. -/
import Derived.Test.YtnjaiiifafbbjaaRb
namespace Go.Proofs.Ytnjaiiifafbbjaa
open Go.RowKit

def markN (i : Nat) : Nm := ⟨0, 8000024 + (i : Int)⟩
set_option maxHeartbeats 1000000 in
theorem markName_w (i : Nat) (h : i < 12) (w : World) : Calls Try.prog 101 #[.int .i64 1, .int .i64 (i : Int)] w (Ret w (nmV (markN i))) := by
  have h0 : (0 : Int) ≤ (i : Int) := Int.natCast_nonneg _
  have h1 : (i : Int) < 12 := by omega
  unfold markN nmV
  simp only
  have hm : ∀ w', Calls Try.prog 127 #[.int .i64 1, .int .i64 (i : Int)] w' fun e w'' => e = .returned (.int .i64 (8000024 + (i : Int))) ∧ w' = w'' := fun w' => by
    go_enter Try.func127, Try.ntmps127
    go_wp2
    go_ret
    exact ⟨by go_num, rfl⟩
  generalize (8000024 + (i : Int)) = y at *
  go_enter Try.func101, Try.ntmps101
  go_wp2_with fail
  refine (hm _).mono ?_
  rintro _ w1 ⟨rfl, rfl⟩
  go_wp2_with fail
  refine bodyPost_ret (by simp [results, Try.results101, go_sem]; try rfl) rfl ?_
  exact ⟨rfl, Ok.alloc (Ok.refl _) _⟩

def marksN (m : Nat) : List Nm := (List.range m).map markN
theorem marksN_len (m : Nat) : (marksN m).length = m := by simp [marksN]
theorem marksN_succ (m : Nat) : marksN (m + 1) = marksN m ++ [markN m] := by simp [marksN, List.range_succ]
theorem lentN_at0 (zs : List Nm) (j : Nat) (h : j < zs.length) : atN (zs ++ marksN 12) j = atN zs j := by
  rw [atN, atN, List.getElem?_append_left h]
theorem lentN_at1 (zs : List Nm) (j : Nat) (h : j < 12) : atN (zs ++ marksN 12) (zs.length + j) = markN j := by
  simp [atN, marksN, h]
/-- What LentNames leaves: the names, in a new row, with twelve marks behind them. -/
def LentNP (w : World) (zs : List Nm) : Ending → World → Prop := fun e w' => ∃ g cap, e = .returned (.slice (some ⟨g, 0, none⟩) zs.length cap) ∧ zs.length + 12 ≤ cap ∧ w.heap.size ≤ g ∧ Ok w w' ∧ NamesAt w' (some ⟨g, 0, none⟩) (zs ++ marksN 12)
theorem OwnNm.form {w : World} {B : Nat} {A : Option Addr} {n c : Nat} {xs : List Nm} (h : OwnNm w B A n c xs) (hp : 0 < xs.length) : ∃ g, A = some ⟨g, 0, none⟩ ∧ xs.length ≤ c ∧ B ≤ g := by
  obtain ⟨h1, rfl⟩ := h
  rcases h1.2 with ⟨e, h5⟩ | ⟨g, cap, cur, e, r1, r2, r3, r4, r5⟩
  · omega
  · simp only [Value.slice.injEq] at e
    obtain ⟨rfl, -, rfl⟩ := e
    exact ⟨g, rfl, by omega, r1⟩
theorem one_name (w : World) (t : Nm) : NamesAt (w.alloc (.cells #[.int .i64 t.c, .int .i64 t.n] 115)) (some ⟨w.heap.size, 0, none⟩) [t] := fun j hj => by
  obtain rfl : j = 0 := by simpa using hj
  refine ⟨w.heap.size, 0, rfl, ?_, ?_⟩
  · rw [show atN [t] 0 = t from rfl]; go_cell
  · rw [show atN [t] 0 = t from rfl]; go_cell
theorem NamesAt.nth {w : World} {b off : Nat} {xs : List Nm} (h : NamesAt w (some ⟨b, off, none⟩) xs) (j : Nat) (hj : j < xs.length) : w.cell? ⟨b, off + j * 2, none⟩ = some (.int .i64 (atN xs j).c) ∧ w.cell? ⟨b, off + j * 2 + 1, none⟩ = some (.int .i64 (atN xs j).n) := by
  obtain ⟨b', off', e, c0, c1⟩ := h j hj
  simp only [Option.some.injEq, Addr.mk.injEq, and_true] at e
  obtain ⟨rfl, rfl⟩ := e
  exact ⟨c0, c1⟩

set_option maxRecDepth 100000 in
set_option maxHeartbeats 8000000 in
theorem lentN_w (A : Option Addr) (n c : Nat) (zs : List Nm) (hn : zs.length = n) (hn6 : n ≤ 10000) (w : World) (hI : NamesAt w A zs) (hA0 : A = none → c = 0) : Calls Try.prog 45 #[.slice A n c] w (LentNP w zs) := by
  have H := Lib.hid hI
  have HA0 := Lib.hid hA0
  have HN := Lib.hid hn
  clear hI hn hA0
  obtain ⟨i0, hi, hz0, hz1, hz2⟩ := info_parts info115
  have HI := Lib.hid hi
  have HZ0 := Lib.hid hz0
  have HZ1 := Lib.hid hz1
  have HZ2 := Lib.hid hz2
  clear hi hz0 hz1 hz2
  go_enter Try.func45, Try.ntmps45
  go_wp2_with (first
    | (at_make; go_must (refine wpList_make_own _ rfl _ _ 89 rfl w.heap.size 115 i0 (.agg #[.int .i64 0, .int .i64 0]) 2 Try.underlying89 HI.out HZ0.out HZ1.out .i64 .i64 _ (n + 12) rfl rfl (by first | rfl | simp | (push_cast; omega)) (by rw [HZ2.out]; omega) (by unfold maxLen; omega) (Nat.le_refl _) ?_; intro w0 hown0 hgrow0; have HOW0 : Hid (OwnNm w0 w.heap.size (some ⟨w.heap.size, 0, none⟩) 0 (n + 12) []) := Lib.hid ⟨hown0, rfl⟩; have HB0 : Hid (Ok w w0) := Lib.hid ((Below.refl _ _).grown hgrow0 (Nat.le_refl _) (fun k hk => by cases hk)); clear hown0 hgrow0))
    | (at_builtin; go_must (refine wpList_appN rfl (.tmp 9) (.tmp 10) rfl w.heap.size _ _ _ [] rfl HOW0.out A n c zs rfl HN.out HA0.out (H.out.ok HB0.out) (by simp; omega) HB0.out.size ?_; intro A1 c1 w1 hown1 hbel1; simp only [List.nil_append, Nat.zero_add] at hown1 ⊢; have HOW1 := Lib.hid hown1; have HB1 : Hid (Ok w w1) := Lib.hid (Below.trans HB0.out hbel1); clear hown1 hbel1)))
  go_loopw [3, 4] (fun o i wr => ∃ (j : Nat) (A2 : Option Addr) (n2 c2 : Nat), j ≤ 12 ∧ i = .int .i64 j ∧ o = .slice A2 n2 c2 ∧ OwnNm wr w.heap.size A2 n2 c2 (zs ++ marksN j) ∧ Ok w wr) (fun _ i _ => 12 - (intOf i).toNat)
  case atStart => exact ⟨0, A1, _, c1, by omega, rfl, rfl, by simpa [marksN] using HOW1.out, HB1.out⟩
  case round =>
    obtain ⟨j, A2, n2, c2, hj, rfl, rfl, hown, hok⟩ := hrel
    have HOW := Lib.hid hown
    have HOK := Lib.hid hok
    clear hown hok HOW1 HB1 HOW0 HB0
    by_cases hlt : j < 12
    · have HMS := Lib.hid (marksN_succ j)
      have HL : Hid ((zs ++ marksN j).length + 1 ≤ 100000) := Lib.hid (by rw [List.length_append, marksN_len, HN.out]; omega)
      have hd : decide ((j : Int) < 12) = true := decide_eq_true (by omega)
      have hmk := fun w' => markName_w j hlt w'
      unfold nmV at hmk
      obtain ⟨⟨yc, yn⟩, hy⟩ : ∃ y, markN j = y := ⟨_, rfl⟩
      rw [hy] at hmk HMS
      simp only at hmk
      clear hy
      go_wp2_with fail
      refine (hmk _).mono ?_
      rintro e w2 ⟨rfl, o2⟩
      have HNEW := Lib.hid (one_name w2 ⟨yc, yn⟩)
      have HOWA : Hid (OwnNm (w2.alloc (.cells #[.int .i64 yc, .int .i64 yn] 115)) w.heap.size A2 n2 c2 (zs ++ marksN j)) := Lib.hid ((HOW.out.ok o2).alloc _)
      have HOK2 := Lib.hid (Ok.call HOK.out o2)
      clear o2
      go_wp2_with (at_builtin; go_must (refine wpList_appN rfl (.tmp 16) (.tmp 19) rfl w.heap.size _ _ _ (zs ++ marksN j) rfl HOWA.out (some ⟨w2.heap.size, 0, none⟩) 1 1 [⟨yc, yn⟩] rfl rfl (fun e => by cases e) HNEW.out HL.out (Nat.le_trans HOK2.out.size (by simp)) ?_; intro A3 c3 w3 hown3 hbel3; have HOW3 := Lib.hid hown3; have HB3 : Hid (Ok w w3) := Lib.hid (Below.trans (Ok.alloc HOK2.out _) hbel3); clear hown3 hbel3))
      go_roundw
      case rel => exact ⟨j + 1, A3, _, c3, by omega, by go_num, rfl, by rw [HMS.out, ← List.append_assoc]; exact HOW3.out, HB3.out⟩
      case measure => simp [intOf]; omega
    · have hje : j = 12 := by omega
      subst hje
      have hl : (zs ++ marksN 12).length = n + 12 := by rw [List.length_append, marksN_len, HN.out]
      obtain ⟨g, rfl, hcap, hg⟩ := HOW.out.form (by rw [hl]; omega)
      obtain ⟨hat, -⟩ := HOW.out.at
      have hn2 : n2 = n + 12 := by rw [HOW.out.2, hl]
      subst hn2
      rw [hl] at hcap
      have HCL := Lib.hid hat
      have HG := Lib.hid hg
      have hi1 : (n : Int) ≤ (c2 : Int) := by omega
      have hn0 : (0 : Int) ≤ (n : Int) := by omega
      have HFIN : Hid (∀ e, e = .returned (.slice (some ⟨g, 0, none⟩) n c2) → LentNP w zs e wr) := Lib.hid fun e he => ⟨g, c2, by rw [HN.out]; exact he, by rw [HN.out]; exact hcap, HG.out, HOK.out, HCL.out⟩
      clear hl hat hg hcap HOW
      go_wp2_with fail
      go_ret
      exact HFIN.out _ rfl

set_option maxRecDepth 100000 in
set_option maxHeartbeats 8000000 in
theorem keptN_w (g cap : Nat) (A : Option Addr) (n c : Nat) (zs : List Nm) (hn : zs.length = n) (hn6 : n ≤ 10000) (w : World) (hcap : n + 12 ≤ cap)
    (hG : NamesAt w (some ⟨g, 0, none⟩) (zs ++ marksN 12)) (hI : NamesAt w A zs) :
    Calls Try.prog 51 #[.slice (some ⟨g, 0, none⟩) n cap, .slice A n c] w (Ret w (.bool true)) := by
  have HG := Lib.hid hG
  have HI := Lib.hid hI
  have HN := Lib.hid hn
  have HL : Hid ((zs ++ marksN 12).length = n + 12) := Lib.hid (by rw [List.length_append, marksN_len, hn])
  clear hG hI hn
  have s1 : wrap64 ((n : Int) + 12) = (n : Int) + 12 := by simp only [wrap64]; omega
  have s3 : (0 : Int) ≤ (n : Int) + 12 := by omega
  have s4 : (n : Int) + 12 ≤ (cap : Int) := by omega
  have s5 : ((n : Int) + 12).toNat = n + 12 := by omega
  go_enter Try.func51, Try.ntmps51
  go_wp2_with fail
  go_loopw [6] (fun i wr => ∃ k : Nat, k ≤ n + 12 ∧ i = .int .i64 k ∧ Ok w wr) (fun i _ => n + 12 - (intOf i).toNat)
  case atStart => exact ⟨0, Nat.zero_le _, rfl, Ok.refl _⟩
  case round =>
    obtain ⟨k, hk, rfl, okr⟩ := hrel
    have HOKR := Lib.hid okr
    clear okr
    by_cases hlt : k < n + 12
    · have d1 : decide ((k : Int) < (n : Int) + 12) = true := decide_eq_true (by omega)
      obtain ⟨C0, C1⟩ := (HG.out.ok HOKR.out).nth k (by rw [HL.out]; exact hlt)
      rw [Nat.zero_add] at C0 C1
      have hi0 : (0 : Int) ≤ (k : Int) := Int.natCast_nonneg _
      have hi1 : (k : Int) < (n : Int) + 12 := by omega
      by_cases h2 : k < n
      · have d2 : decide ((k : Int) < (n : Int)) = true := decide_eq_true (by omega)
        have d3 : decide (n ≤ k) = false := decide_eq_false (by omega)
        obtain ⟨b, off, rfl, D0, D1⟩ := HI.out.ok HOKR.out k (by rw [HN.out]; exact h2)
        rw [lentN_at0 zs k (by rw [HN.out]; exact h2)] at C0 C1
        generalize (atN zs k).c = tc at C0 D0
        generalize (atN zs k).n = tn at C1 D1
        have hi2 : (k : Int) < (n : Int) := by omega
        have kC0 := cell_regrown C0
        have kC1 := cell_regrown C1
        have kD0 := cell_regrown D0
        have kD1 := cell_regrown D1
        go_wp2_with fail
        refine wp_region_quiet_below (by kernel_rfl) (by kernel_rfl) ?_
        refine HeldU.out ?_
        repeat (
          refine hqU_step (fun K hK => ?_)
          go_simp
          (refine hK _ ?_; clear hK K))
        refine HeldU.mk (wpQuiet_nil ?_)
        intro _ hw'
        obtain ⟨⟨dq, osq⟩, hw''⟩ := hw'
        subst hw''
        go_wp2
        refine ⟨⟨k + 1, hlt, rfl, Ok.call HOKR.out (below_regrown wr dq osq)⟩, ?_⟩
        show n + 12 - ((k : Int) + 1).toNat < n + 12 - (k : Int).toNat
        omega
      · obtain ⟨j, hj⟩ : ∃ j, k = n + j := ⟨k - n, by omega⟩
        have hj12 : j < 12 := by omega
        have d2 : decide ((k : Int) < (n : Int)) = false := decide_eq_false (by omega)
        have d3 : decide (n ≤ k) = true := decide_eq_true (by omega)
        have s2 : wrap64 ((k : Int) - (n : Int)) = (j : Int) := by simp only [wrap64]; omega
        have s6 : IntKind.i64.wrap ((k : Int) - (n : Int)) = (j : Int) := by simp only [IntKind.wrap_i64]; omega
        have e0 : atN (zs ++ marksN 12) k = markN j := by rw [hj, ← HN.out]; exact lentN_at1 zs j hj12
        rw [e0] at C0 C1
        have hm := fun w' => markName_w j hj12 w'
        unfold nmV at hm
        obtain ⟨⟨yc, yn⟩, hy⟩ : ∃ y, markN j = y := ⟨_, rfl⟩
        rw [hy] at hm C0 C1
        simp only at hm C0 C1
        clear e0 hj hy
        have kC0 := cell_regrown C0
        have kC1 := cell_regrown C1
        have q1 : ∀ d os, Calls Try.prog 101 #[.int .i64 1, .int .i64 (j : Int)] (Go.Sort.grow (redrawn wr d) os) fun e w'' => e = .returned (.agg #[.int .i64 yc, .int .i64 yn]) ∧ ∃ p : Regrown, w'' = Go.Sort.grow (redrawn wr p.d) p.os := fun d os => Calls.regrown_of (hm _)
        go_wp2_with fail
        refine wp_region_quiet_below (by kernel_rfl) (by kernel_rfl) ?_
        refine HeldU.out ?_
        repeat (
          refine hqU_step (fun K hK => ?_)
          go_simp
          first
            | (refine hK _ ?_; clear hK K)
            | (apply Exists.intro
               refine ⟨fun _ => ?_, hK _ ?_⟩
               (with_reducible exact q1 _ _)
               clear hK K))
        refine HeldU.mk (wpQuiet_nil ?_)
        intro _ hw'
        obtain ⟨⟨dq, osq⟩, hw''⟩ := hw'
        subst hw''
        go_wp2
        refine ⟨⟨k + 1, hlt, rfl, Ok.call HOKR.out (below_regrown wr dq osq)⟩, ?_⟩
        show n + 12 - ((k : Int) + 1).toNat < n + 12 - (k : Int).toNat
        omega
    · have d1 : decide ((k : Int) < (n : Int) + 12) = false := decide_eq_false (by omega)
      go_wp2
      go_ret
      exact ⟨rfl, HOKR.out⟩
end Go.Proofs.Ytnjaiiifafbbjaa
