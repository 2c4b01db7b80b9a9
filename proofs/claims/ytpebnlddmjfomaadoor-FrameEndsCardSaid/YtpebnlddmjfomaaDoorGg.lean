/- Bytes lent, with marks behind them; whether they are kept. -/
import Derived.Test.YtpebnlddmjfomaaDoorGd
import Derived.Test.YtpebnlddmjfomaaDoorFl
namespace Go.Proofs.YtpebnlddmjfomaaDoor
open Go.RowKit

def mks (n : Nat) : List B8 := (List.range n).map (mB 1)
theorem mks_len (m : Nat) : (mks m).length = m := by simp [mks]
theorem mks_succ (m : Nat) : mks (m + 1) = mks m ++ [mB 1 m] := by simp [mks, List.range_succ]
def LentBP (w : World) (n : Nat) (zs : List B8) : Ending → World → Prop := fun e w' => ∃ g cap, e = .returned (.slice (some ⟨g, 0, none⟩) n cap) ∧ n + 12 ≤ cap ∧ w.heap.size ≤ g ∧ Ok w w' ∧ OwnN w' w.heap.size (.slice (some ⟨g, 0, none⟩) (n + 12) cap) (zs ++ mks 12)
theorem OwnN.len' {w : World} {B : Nat} {A : Option Addr} {n c : Nat} {xs : List B8} (h : OwnN w B (.slice A n c) xs) : xs.length = n := by
  rcases own_form h with ⟨e, h0⟩ | ⟨g, cap, e⟩
  · simp only [Value.slice.injEq] at e; omega
  · simp only [Value.slice.injEq] at e; exact e.2.1.symm
theorem OwnN.capd {w : World} {B : Nat} {A : Option Addr} {n c : Nat} {xs : List B8} (h : OwnN w B (.slice A n c) xs) (hp : 0 < n) : ∃ g, A = some ⟨g, 0, none⟩ ∧ n ≤ c ∧ B ≤ g := by
  have hl := h.len'
  rcases h.2 with ⟨e, h5⟩ | ⟨g, cap, cur, e, r1, r2, r3, r4, r5⟩
  · omega
  · simp only [Value.slice.injEq] at e
    obtain ⟨rfl, -, rfl⟩ := e
    exact ⟨g, rfl, by omega, r1⟩
set_option maxRecDepth 100000 in
set_option maxHeartbeats 4000000 in
theorem lentB_w (A : Option Addr) (n c : Nat) (zs : List B8) (hn : zs.length = n) (hn6 : n ≤ 1000000) (w : World) (hI : BytesIn w (.slice A n c) zs) : Calls Tryd.prog 9 #[.slice A n c] w (LentBP w n zs) := by
  have H := Lib.hid hI
  have HN := Lib.hid hn
  clear hI hn
  obtain ⟨i0, hi, hz0, hz1, hz2⟩ := info_parts info5
  have HI := Lib.hid hi
  have HZ0 := Lib.hid hz0
  have HZ1 := Lib.hid hz1
  have HZ2 := Lib.hid hz2
  clear hi hz0 hz1 hz2
  go_enter Tryd.func9, Tryd.ntmps9
  go_wp2_with (first
    | (at_make; go_must (refine wpList_make_own _ rfl _ _ 23 rfl w.heap.size 5 i0 (.int .u8 0) 1 Tryd.underlying23 HI.out HZ0.out HZ1.out .i64 .i64 _ (n + 12) rfl rfl (by first | rfl | simp | (push_cast; omega)) (by rw [HZ2.out]; omega) (by unfold maxLen; omega) (Nat.le_refl _) ?_; intro w0 hown0 hgrow0; have HOW0 : Hid (OwnN w0 w.heap.size (.slice (some ⟨w.heap.size, 0, none⟩) 0 (n + 12)) []) := Lib.hid hown0; have HB0 : Hid (Ok w w0) := Lib.hid ((Below.refl _ _).grown hgrow0 (Nat.le_refl _) (fun k hk => by cases hk)); clear hown0 hgrow0))
    | (at_builtin; go_must (refine wpList_appG rfl (.tmp 9) (.tmp 10) rfl w.heap.size (.slice (some ⟨w.heap.size, 0, none⟩) 0 (n + 12)) [] zs (.slice A n c) rfl rfl HOW0.out (HB0.out.bytes H.out) (by rw [HN.out]; simp; omega) HB0.out.size ?_; intro A1 N1 c1 w1 hown1 hbel1 hgr1; simp only [List.nil_append] at hown1; have HOW1 := Lib.hid hown1; have HB1 : Hid (Ok w w1) := Lib.hid (Below.trans HB0.out hbel1); clear hown1 hbel1 hgr1)))
  go_loopw [3, 4] (fun o i wr => ∃ (j : Nat) (A2 : Option Addr) (n2 c2 : Nat), j ≤ 12 ∧ i = .int .i64 j ∧ o = .slice A2 n2 c2 ∧ OwnN wr w.heap.size (.slice A2 n2 c2) (zs ++ mks j) ∧ Ok w wr) (fun _ i _ => 12 - (intOf i).toNat)
  case atStart => exact ⟨0, A1, N1, c1, by omega, rfl, rfl, by simpa [mks] using HOW1.out, HB1.out⟩
  case round =>
    obtain ⟨j, A2, n2, c2, hj, rfl, rfl, hown, hok⟩ := hrel
    have HOW := Lib.hid hown
    have HOK := Lib.hid hok
    clear hown hok HOW1 HB1 HOW0 HB0
    by_cases hlt : j < 12
    · have HMS := Lib.hid (mks_succ j)
      have HL : Hid ((zs ++ mks j).length = n + j) := Lib.hid (by rw [List.length_append, mks_len, HN.out])
      have hd : decide ((j : Int) < 12) = true := decide_eq_true (by omega)
      have hmk : ∀ w', Calls Tryd.prog 23 #[.int .i64 1, .int .i64 (j : Int)] w' fun e w'' => e = .returned (.int .u8 (ub (mB 1 j))) ∧ w' = w'' := fun w' => markByte_w 1 j (by decide) (by omega) w'
      generalize mB 1 j = mb at *
      go_wp2_with fail
      refine (hmk _).mono ?_
      rintro e w2 ⟨rfl, rfl⟩
      have HOA : Hid (Ok wr (wr.alloc (.cells #[.int .u8 (ub mb)] 5))) := Lib.hid ((Ok.refl wr).alloc _)
      have HOWA : Hid (OwnN (wr.alloc (.cells #[.int .u8 (ub mb)] 5)) w.heap.size (.slice A2 n2 c2) (zs ++ mks j)) := Lib.hid (HOW.out.ok HOA.out)
      have HOK2 := Lib.hid (Ok.trans HOK.out HOA.out)
      have HNB : Hid (BytesIn (wr.alloc (.cells #[.int .u8 (ub mb)] 5)) (.slice (some ⟨wr.heap.size, 0, none⟩) 1 1) [mb]) := Lib.hid (bytes_new wr [mb] _ 5 (0, 0) _ 1 1 rfl rfl (Nat.le_refl _) (by simp) rfl)
      go_wp2_with (at_builtin; go_must (refine wpList_appG rfl (.tmp 16) (.tmp 19) rfl w.heap.size (.slice A2 n2 c2) (zs ++ mks j) [mb] (.slice (some ⟨wr.heap.size, 0, none⟩) 1 1) rfl rfl HOWA.out HNB.out (by rw [HL.out]; simp; omega) HOK2.out.size ?_; intro A3 N3 c3 w3 hown3 hbel3 hgr3; have HOW3 := Lib.hid hown3; have HB3 : Hid (Ok w w3) := Lib.hid (Below.trans HOK2.out hbel3); clear hown3 hbel3 hgr3))
      go_roundw
      case rel => exact ⟨j + 1, A3, N3, c3, by omega, by go_num, rfl, by rw [HMS.out, ← List.append_assoc]; exact HOW3.out, HB3.out⟩
      case measure => simp [intOf]; omega
    · have hje : j = 12 := by omega
      subst hje
      have hl : (zs ++ mks 12).length = n + 12 := by rw [List.length_append, mks_len, HN.out]
      have hn2 : n2 = n + 12 := by rw [← HOW.out.len', hl]
      subst hn2
      obtain ⟨g, rfl, hcap, hg⟩ := HOW.out.capd (by omega)
      have hi1 : (n : Int) ≤ (c2 : Int) := by omega
      have hn0 : (0 : Int) ≤ (n : Int) := by omega
      have HFIN : Hid (∀ e, e = .returned (.slice (some ⟨g, 0, none⟩) n c2) → LentBP w n zs e wr) := Lib.hid fun e he => ⟨g, c2, he, hcap, hg, HOK.out, HOW.out⟩
      clear hl hg hcap HOW
      go_wp2_with fail
      go_ret
      exact HFIN.out _ rfl
theorem mks_at0 (zs : List B8) (j : Nat) (h : j < zs.length) : (zs ++ mks 12).getD j 0#8 = zs.getD j 0#8 := by
  simp only [List.getD, List.getElem?_append_left h]
theorem mks_at1 (zs : List B8) (j : Nat) (h : j < 12) : (zs ++ mks 12).getD (zs.length + j) 0#8 = mB 1 j := by
  simp [mks, h]
set_option maxRecDepth 100000 in
set_option maxHeartbeats 4000000 in
theorem keptB_w (g cap : Nat) (A : Option Addr) (n c B : Nat) (zs : List B8) (hn : zs.length = n) (hn6 : n ≤ 1000000) (w : World) (hcap : n + 12 ≤ cap)
    (hG : OwnN w B (.slice (some ⟨g, 0, none⟩) (n + 12) cap) (zs ++ mks 12)) (hI : BytesIn w (.slice A n c) zs) :
    Calls Tryd.prog 17 #[.slice (some ⟨g, 0, none⟩) n cap, .slice A n c] w (Ret w (.bool true)) := by
  have HG := Lib.hid hG
  have HI := Lib.hid hI
  have HN := Lib.hid hn
  have HL : Hid ((zs ++ mks 12).length = n + 12) := Lib.hid (by rw [List.length_append, mks_len, hn])
  clear hG hI hn
  have s1 : wrap64 ((n : Int) + 12) = (n : Int) + 12 := by simp only [wrap64]; omega
  have s3 : (0 : Int) ≤ (n : Int) + 12 := by omega
  have s4 : (n : Int) + 12 ≤ (cap : Int) := by omega
  have s5 : ((n : Int) + 12).toNat = n + 12 := by omega
  go_enter Tryd.func17, Tryd.ntmps17
  go_wp2_with fail
  go_loopw [6] (fun i wr => ∃ k : Nat, k ≤ n + 12 ∧ i = .int .i64 k ∧ Ok w wr) (fun i _ => n + 12 - (intOf i).toNat)
  case atStart => exact ⟨0, Nat.zero_le _, rfl, Ok.refl _⟩
  case round =>
    obtain ⟨k, hk, rfl, okr⟩ := hrel
    have HOKR := Lib.hid okr
    clear okr
    by_cases hlt : k < n + 12
    · have d1 : decide ((k : Int) < (n : Int) + 12) = true := decide_eq_true (by omega)
      have C0 := ((HG.out.ok HOKR.out).cell k (by rw [HL.out]; exact hlt)).1
      have hi0 : (0 : Int) ≤ (k : Int) := Int.natCast_nonneg _
      have hi1 : (k : Int) < (n : Int) + 12 := by omega
      have hek : IntKind.i64.wrap ((k : Int) + 1) = (k : Int) + 1 := IntWalk.i64_in _ (by omega)
      have HLT : Hid (n + 12 - ((k : Int) + 1).toNat < n + 12 - (k : Int).toNat) := Lib.hid (by omega)
      by_cases h2 : k < n
      · have d2 : decide ((k : Int) < (n : Int)) = true := decide_eq_true (by omega)
        have d3 : decide (n ≤ k) = false := decide_eq_false (by omega)
        obtain ⟨-, b, off, rfl, D0⟩ := same_cells (HOKR.out.bytes HI.out) rfl k h2
        rw [mks_at0 zs k (by rw [HN.out]; exact h2)] at C0
        generalize zs.getD k 0#8 = y at C0 D0
        have hi2 : (k : Int) < (n : Int) := by omega
        have kC0 := cell_regrown C0
        have kD0 := cell_regrown D0
        go_wp2_with fail
        refine wp_region_quiet_below (by kernel_rfl) (by kernel_rfl) ?_
        refine HeldF.out ?_
        repeat (
          refine hqF_step (fun K hK => ?_)
          go_simp
          (refine hK _ ?_; clear hK K))
        refine HeldF.mk (wpQuiet_nil ?_)
        intro _ hw'
        obtain ⟨⟨dq, osq⟩, hw''⟩ := hw'
        subst hw''
        have HO2 := Lib.hid (Ok.trans HOKR.out (below_regrown wr dq osq))
        clear kC0 kD0 C0 D0
        generalize Go.Sort.grow (redrawn wr dq) osq = w2 at *
        go_wp2_with fail
        exact ⟨⟨k + 1, hlt, rfl, HO2.out⟩, HLT.out⟩
      · obtain ⟨j, hj⟩ : ∃ j, k = n + j := ⟨k - n, by omega⟩
        have hj12 : j < 12 := by omega
        have d2 : decide ((k : Int) < (n : Int)) = false := decide_eq_false (by omega)
        have d3 : decide (n ≤ k) = true := decide_eq_true (by omega)
        have s2 : wrap64 ((k : Int) - (n : Int)) = (j : Int) := by simp only [wrap64]; omega
        have s6 : IntKind.i64.wrap ((k : Int) - (n : Int)) = (j : Int) := by simp only [IntKind.wrap_i64]; omega
        have e0 : (zs ++ mks 12).getD k 0#8 = mB 1 j := by rw [hj, ← HN.out]; exact mks_at1 zs j hj12
        rw [e0] at C0
        have q1 : ∀ d os, Calls Tryd.prog 23 #[.int .i64 1, .int .i64 (j : Int)] (Go.Sort.grow (redrawn wr d) os) fun e w'' => e = .returned (.int .u8 (ub (mB 1 j))) ∧ ∃ q : Regrown, w'' = Go.Sort.grow (redrawn wr q.d) q.os := fun d os => mark_q 1 j (by decide) (by omega) wr d os
        generalize mB 1 j = mb at *
        clear e0 hj
        have kC0 := cell_regrown C0
        go_wp2_with fail
        refine wp_region_quiet_below (by kernel_rfl) (by kernel_rfl) ?_
        refine HeldF.out ?_
        repeat (
          refine hqF_step (fun K hK => ?_)
          go_simp
          first
            | (refine hK _ ?_; clear hK K)
            | (apply Exists.intro
               refine ⟨fun _ => ?_, hK _ ?_⟩
               (with_reducible exact q1 _ _)
               clear hK K))
        refine HeldF.mk (wpQuiet_nil ?_)
        intro _ hw'
        obtain ⟨⟨dq, osq⟩, hw''⟩ := hw'
        subst hw''
        have HO2 := Lib.hid (Ok.trans HOKR.out (below_regrown wr dq osq))
        clear kC0 C0 q1
        generalize Go.Sort.grow (redrawn wr dq) osq = w2 at *
        go_wp2_with fail
        exact ⟨⟨k + 1, hlt, rfl, HO2.out⟩, HLT.out⟩
    · have d1 : decide ((k : Int) < (n : Int) + 12) = false := decide_eq_false (by omega)
      go_wp2
      go_ret
      exact ⟨rfl, HOKR.out⟩
end Go.Proofs.YtpebnlddmjfomaaDoor
