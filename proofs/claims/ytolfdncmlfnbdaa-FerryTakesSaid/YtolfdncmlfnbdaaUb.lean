/- Rows of numbers lent, with marks behind them; whether they are kept; rows that are written over. -/
import Derived.Test.YtolfdncmlfnbdaaQd
import Derived.Laws.OwnMore
import Derived.Lib.QuietBelow
import Derived.Handy
namespace Go.Proofs.Ytolfdncmlfnbdaa
open Go.RowKit

structure HeldU (p : Prop) : Prop where
  out : p
theorem hqU_step {P : Program} {ops : Array Oper} {C : World → Prop} {Q : Act → Prop} {a : Act} {o : Oper} {rest : List Oper}
    (h : ∀ K : Act → Prop, (∀ a, HeldU (wpQuiet P ops C Q rest a) → K a) → if Region.wanted o (yielded ops a.tmps) then o.quiet P a C K else K (a.put o.dst undef)) : HeldU (wpQuiet P ops C Q (o :: rest) a) :=
  ⟨h (fun a => wpQuiet P ops C Q rest a) (fun _ h => h.out)⟩

def markI (i : Nat) : Int := 8000024 + (i : Int)
theorem mark_w (k i : Nat) (hk : k ≤ 2) (hi : i < 200000) (w : World) : Calls Try.prog 101 #[.int .i64 (k : Int), .int .i64 (i : Int)] w fun e w'' => e = .returned (.int .i64 (1000003 * ((k : Int) + 7) + (i : Int))) ∧ w = w'' := by
  have h0 : (0 : Int) ≤ (k : Int) := Int.natCast_nonneg _
  have h1 : (k : Int) ≤ 2 := by omega
  have h2 : (0 : Int) ≤ (i : Int) := Int.natCast_nonneg _
  have h3 : (i : Int) < 200000 := by omega
  go_enter Try.func101, Try.ntmps101
  go_wp2
  go_ret
  exact ⟨by go_num, rfl⟩
theorem mark1_w (i : Nat) (hi : i < 12) (w : World) : Calls Try.prog 101 #[.int .i64 1, .int .i64 (i : Int)] w fun e w'' => e = .returned (.int .i64 (markI i)) ∧ w = w'' :=
  (mark_w 1 i (by omega) (by omega) w).mono fun _ _ h => ⟨h.1, h.2⟩
def marksZ (m : Nat) : List Int := (List.range m).map markI
theorem marksZ_len (m : Nat) : (marksZ m).length = m := by simp [marksZ]
theorem marksZ_succ (m : Nat) : marksZ (m + 1) = marksZ m ++ [markI m] := by simp [marksZ, List.range_succ]
theorem lentZ_at0 (zs : List Int) (j : Nat) (h : j < zs.length) : (zs ++ marksZ 12).getD j 0 = zs.getD j 0 := by
  simp [List.getD, List.getElem?_append_left h]
theorem lentZ_at1 (zs : List Int) (j : Nat) (h : j < 12) : (zs ++ marksZ 12).getD (zs.length + j) 0 = markI j := by
  simp [List.getD, marksZ, h]
/-- A row of numbers that was lent: in a row of its own, with twelve marks behind it. -/
def LentZ (w : World) (B : Nat) (v : Value) (zs : List Int) : Prop := ∃ g cap, v = .slice (some ⟨g, 0, none⟩) zs.length cap ∧ zs.length + 12 ≤ cap ∧ zs.length ≤ 17592186044416 ∧ B ≤ g ∧ ∀ j, j < zs.length + 12 → w.cell? ⟨g, j, none⟩ = some (.int .i64 ((zs ++ marksZ 12).getD j 0))
theorem LentZ.ok {w w' : World} {B : Nat} {v : Value} {zs : List Int} (h : LentZ w B v zs) (k : Ok w w') : LentZ w' B v zs := by
  obtain ⟨g, cap, rfl, h1, h2, h3, h4⟩ := h
  exact ⟨g, cap, rfl, h1, h2, h3, fun j hj => k.cell (h4 j hj)⟩
theorem LentZ.mono {w : World} {B B' : Nat} {v : Value} {zs : List Int} (h : LentZ w B v zs) (k : B' ≤ B) : LentZ w B' v zs := by
  obtain ⟨g, cap, rfl, h1, h2, h3, h4⟩ := h
  exact ⟨g, cap, rfl, h1, h2, by omega, h4⟩
theorem LentZ.set {w : World} {B : Nat} {v : Value} {zs : List Int} (h : LentZ w B v zs) (p o : Nat) (x : Value) (hp : p < B) : LentZ (w.setCell ⟨p, o, none⟩ x) B v zs := by
  obtain ⟨g, cap, rfl, h1, h2, h3, h4⟩ := h
  exact ⟨g, cap, rfl, h1, h2, h3, fun j hj => by rw [World.cell?_setCell_other _ _ _ _ (fun e => by simp only [Addr.mk.injEq] at e; omega)]; exact h4 j hj⟩
theorem LentZ.form {w : World} {B : Nat} {v : Value} {zs : List Int} (h : LentZ w B v zs) : ∃ A c, v = .slice A zs.length c := by
  obtain ⟨g, cap, rfl, _⟩ := h
  exact ⟨_, _, rfl⟩
theorem LentZ.ints {w : World} {B : Nat} {v : Value} {zs : List Int} (h : LentZ w B v zs) : InI w v zs := by
  obtain ⟨g, cap, rfl, h1, h2, _, h3⟩ := h
  refine .inr ⟨g, 0, cap, rfl, by omega, h2, fun i hi => ?_⟩
  rw [Nat.zero_add, h3 i (by omega), lentZ_at0 zs i hi]
theorem one_int (w : World) (y : Int) : InI (w.alloc (.cells #[.int .i64 y] 3)) (.slice (some ⟨w.heap.size, 0, none⟩) 1 1) [y] := ints_new w [y] _ 3 _ _ _ 1 rfl rfl (by decide) (by simp) rfl
theorem OwnZ.own {w : World} {B : Nat} {v : Value} {xs : List Int} (h : OwnZ w B v xs) (hp : 0 < xs.length) : ∃ g cap, v = .slice (some ⟨g, 0, none⟩) xs.length cap ∧ xs.length ≤ cap ∧ B ≤ g ∧ ∀ j, j < xs.length → w.cell? ⟨g, j, none⟩ = some (.int .i64 (xs.getD j 0)) := by
  have h0 := h
  rcases h.2 with ⟨rfl, h5⟩ | ⟨g, cap, cur, rfl, hB, hg, h1, h2, h3, h4⟩
  · omega
  · refine ⟨g, cap, rfl, by omega, hB, fun j hj => ?_⟩
    rw [World.ownsRow.cellAt h0 j (by omega)]
    simp [hj, zv]
theorem OwnZ.al {w : World} {B : Nat} {v : Value} {xs : List Int} (h : OwnZ w B v xs) (o : Obj) : OwnZ (w.alloc o) B v xs := World.ownsRow.alloc h o

def LentP (W : World) (zs : List Int) (e : Ending) (w' : World) : Prop := ∃ v, e = .returned v ∧ LentZ w' W.heap.size v zs ∧ Ok W w'
set_option maxRecDepth 100000 in
set_option maxHeartbeats 8000000 in
theorem lentInts_w (v : Value) (zs : List Int) (w : World) (h : InI w v zs) (hl : zs.length ≤ 1000) : Calls Try.prog 41 #[v] w (LentP w zs) := by
  have H := Lib.hid h
  obtain ⟨A, c, rfl, _⟩ := h.form
  generalize hn : zs.length = n at *
  have HN := Lib.hid hn
  clear h hn
  obtain ⟨i0, hi, hz0, hz1, hz2⟩ := info_parts info3z
  have HI := Lib.hid hi
  have HZ0 := Lib.hid hz0
  have HZ1 := Lib.hid hz1
  have HZ2 := Lib.hid hz2
  clear hi hz0 hz1 hz2
  go_enter Try.func41, Try.ntmps41
  go_wp2_with (first
    | (at_make; go_must (refine wpList_make_own _ rfl _ _ 22 rfl w.heap.size 3 i0 (.int .i64 0) 1 Try.underlying22 HI.out HZ0.out HZ1.out .i64 .i64 _ (n + 12) rfl rfl (by first | rfl | simp | (push_cast; omega)) (by rw [HZ2.out]; omega) (by unfold maxLen; omega) (Nat.le_refl _) ?_; intro w0 hown0 hgrow0; have HOW0 : Hid (OwnZ w0 w.heap.size (.slice (some ⟨w.heap.size, 0, none⟩) 0 (n + 12)) []) := Lib.hid hown0; have HB0 : Hid (Ok w w0) := Lib.hid ((Below.refl _ _).grown hgrow0 (Nat.le_refl _) (fun k hk => by cases hk)); clear hown0 hgrow0))
    | (at_builtin; go_must (refine wpList_appZ rfl (.tmp 9) (.tmp 10) rfl w.heap.size _ [] zs (.slice A n c) rfl rfl HOW0.out (HB0.out.ints H.out) (by rw [HN.out]; simp; omega) HB0.out.size ?_; intro A1 c1 w1 hown1 hbel1; simp only [List.nil_append, List.length_nil, Nat.zero_add] at hown1 ⊢; have HOW1 := Lib.hid hown1; have HB1 : Hid (Ok w w1) := Lib.hid (Below.trans HB0.out hbel1); clear hown1 hbel1)))
  go_loopw [3, 4] (fun o i wr => ∃ (j : Nat) (v2 : Value), j ≤ 12 ∧ i = .int .i64 j ∧ o = v2 ∧ OwnZ wr w.heap.size v2 (zs ++ marksZ j) ∧ Ok w wr) (fun _ i _ => 12 - (intOf i).toNat)
  case atStart => exact ⟨0, _, by omega, rfl, rfl, by have := HOW1.out; simpa [marksZ] using this, HB1.out⟩
  case round =>
    obtain ⟨j, v2, hj, rfl, rfl, hown, hok⟩ := hrel
    have HOW := Lib.hid hown
    have HOK := Lib.hid hok
    have HL0 : Hid ((zs ++ marksZ j).length = n + j) := Lib.hid (by rw [List.length_append, marksZ_len, HN.out])
    obtain ⟨A2, c2, hv2⟩ := hown.form
    rw [HL0.out] at hv2
    clear hok HOW1 HB1 HOW0 HB0
    by_cases hlt : j < 12
    · subst hv2
      clear hown
      have HMS := Lib.hid (marksZ_succ j)
      have hd : decide ((j : Int) < 12) = true := decide_eq_true (by omega)
      have hmk := fun w' => mark1_w j hlt w'
      generalize markI j = y at *
      go_wp2_with fail
      refine (hmk _).mono ?_
      rintro e w2 ⟨rfl, rfl⟩
      have HNEW := Lib.hid (one_int wr y)
      have HOWA : Hid (OwnZ (wr.alloc (.cells #[.int .i64 y] 3)) w.heap.size (.slice A2 (n + j) c2) (zs ++ marksZ j)) := Lib.hid (HOW.out.al _)
      go_wp2_with (at_builtin; go_must (refine wpList_appZ rfl (.tmp 16) (.tmp 19) rfl w.heap.size _ (zs ++ marksZ j) [y] (.slice (some ⟨wr.heap.size, 0, none⟩) 1 1) rfl rfl HOWA.out HNEW.out (by rw [HL0.out]; simp; omega) (Nat.le_trans HOK.out.size (by simp)) ?_; intro A3 c3 w3 hown3 hbel3; have HOW3 := Lib.hid hown3; have HB3 : Hid (Ok w w3) := Lib.hid (Below.trans (Ok.alloc HOK.out _) hbel3); clear hown3 hbel3))
      go_roundw
      case rel => exact ⟨j + 1, _, by omega, by go_num, rfl, by rw [HMS.out, ← List.append_assoc]; have := HOW3.out; simp only [List.length_append, List.length_cons, List.length_nil, Nat.zero_add] at this; exact this, HB3.out⟩
      case measure => simp [intOf]; omega
    · have hje : j = 12 := by omega
      subst hje
      obtain ⟨g, cap, hv, hcap, hg, hc⟩ := HOW.out.own (by rw [HL0.out]; omega)
      rw [HL0.out] at hv hcap hc
      subst hv
      clear hown hv2
      have HCL := Lib.hid hc
      have HG := Lib.hid hg
      have hi1 : (n : Int) ≤ (cap : Int) := by omega
      have hn0 : (0 : Int) ≤ (n : Int) := by omega
      have HFIN : Hid (∀ e, e = .returned (.slice (some ⟨g, 0, none⟩) n cap) → LentP w zs e wr) := Lib.hid fun e he => ⟨_, he, ⟨g, cap, by rw [HN.out], by rw [HN.out]; exact hcap, by rw [HN.out]; omega, HG.out, fun j hj => HCL.out j (by rw [HN.out] at hj; exact hj)⟩, HOK.out⟩
      clear hc hg hcap HOW
      go_wp2_with fail
      go_ret
      exact HFIN.out _ rfl

set_option maxRecDepth 100000 in
set_option maxHeartbeats 8000000 in
theorem keptInts_w (v v2 : Value) (zs : List Int) (w : World) (B : Nat) (h : LentZ w B v zs) (h2 : InI w v2 zs) : Calls Try.prog 60 #[v, v2] w fun e w' => e = .returned (.bool true) ∧ Ok w w' := by
  obtain ⟨g, cap, rfl, hcap, hmx, _, hG⟩ := h
  obtain ⟨A, c, rfl, _⟩ := h2.form
  have HG := Lib.hid hG
  have HI := Lib.hid h2
  generalize hn : zs.length = n at *
  have HN := Lib.hid hn
  clear hG h2 hn
  have s1 : wrap64 ((n : Int) + 12) = (n : Int) + 12 := by simp only [wrap64]; omega
  have s3 : (0 : Int) ≤ (n : Int) + 12 := by omega
  have s4 : (n : Int) + 12 ≤ (cap : Int) := by omega
  have s5 : ((n : Int) + 12).toNat = n + 12 := by omega
  go_enter Try.func60, Try.ntmps60
  go_wp2_with fail
  go_loopw [6] (fun i wr => ∃ k : Nat, k ≤ n + 12 ∧ i = .int .i64 k ∧ Ok w wr) (fun i _ => n + 12 - (intOf i).toNat)
  case atStart => exact ⟨0, Nat.zero_le _, rfl, Ok.refl _⟩
  case round =>
    obtain ⟨k, hk, rfl, okr⟩ := hrel
    have HOKR := Lib.hid okr
    clear okr
    by_cases hlt : k < n + 12
    · have d1 : decide ((k : Int) < (n : Int) + 12) = true := decide_eq_true (by omega)
      have C0 := HOKR.out.cell (HG.out k hlt)
      have hi0 : (0 : Int) ≤ (k : Int) := Int.natCast_nonneg _
      have hi1 : (k : Int) < (n : Int) + 12 := by omega
      by_cases h2 : k < n
      · have d2 : decide ((k : Int) < (n : Int)) = true := decide_eq_true (by omega)
        have d3 : decide (n ≤ k) = false := decide_eq_false (by omega)
        obtain ⟨b, off, rfl, D0⟩ := ((HOKR.out.ints HI.out).at rfl k h2).2
        rw [lentZ_at0 zs k (by rw [HN.out]; exact h2)] at C0
        generalize zs.getD k 0 = tc at C0 D0
        have hi2 : (k : Int) < (n : Int) := by omega
        have kC0 := cell_regrown C0
        have kD0 := cell_regrown D0
        go_wp2_with fail
        refine wp_region_quiet_below (by kernel_rfl) (by kernel_rfl) ?_
        refine HeldU.out ?_
        repeat (
          refine hqU_step (fun K hK => ?_)
          go_simp
          (refine hK _ ?_; clear hK K))
        refine HeldU.mk (wpQuiet_nil ?_)
        intro _ hw'
        obtain ⟨⟨dq, osq⟩, hw''⟩ := hw'
        subst hw''
        go_wp2
        refine ⟨⟨k + 1, hlt, rfl, Ok.call HOKR.out (below_regrown wr dq osq)⟩, ?_⟩
        show n + 12 - ((k : Int) + 1).toNat < n + 12 - (k : Int).toNat
        omega
      · obtain ⟨j, hj⟩ : ∃ j, k = n + j := ⟨k - n, by omega⟩
        have hj12 : j < 12 := by omega
        have d2 : decide ((k : Int) < (n : Int)) = false := decide_eq_false (by omega)
        have d3 : decide (n ≤ k) = true := decide_eq_true (by omega)
        have s2 : wrap64 ((k : Int) - (n : Int)) = (j : Int) := by simp only [wrap64]; omega
        have s6 : IntKind.i64.wrap ((k : Int) - (n : Int)) = (j : Int) := by simp only [IntKind.wrap_i64]; omega
        have e0 : (zs ++ marksZ 12).getD k 0 = markI j := by rw [hj, ← HN.out]; exact lentZ_at1 zs j hj12
        rw [e0] at C0
        have hm := fun w' => mark1_w j hj12 w'
        generalize markI j = y at *
        clear e0 hj
        have kC0 := cell_regrown C0
        have q1 : ∀ d os, Calls Try.prog 101 #[.int .i64 1, .int .i64 (j : Int)] (Go.Sort.grow (redrawn wr d) os) fun e w'' => e = .returned (.int .i64 y) ∧ ∃ p : Regrown, w'' = Go.Sort.grow (redrawn wr p.d) p.os := fun d os => Calls.regrown_of ((hm _).mono fun _ _ h => ⟨h.1, by rw [h.2]; exact Ok.refl _⟩)
        go_wp2_with fail
        refine wp_region_quiet_below (by kernel_rfl) (by kernel_rfl) ?_
        refine HeldU.out ?_
        repeat (
          refine hqU_step (fun K hK => ?_)
          go_simp
          first
            | (refine hK _ ?_; clear hK K)
            | (apply Exists.intro
               refine ⟨fun _ => ?_, hK _ ?_⟩
               (with_reducible exact q1 _ _)
               clear hK K))
        refine HeldU.mk (wpQuiet_nil ?_)
        intro _ hw'
        obtain ⟨⟨dq, osq⟩, hw''⟩ := hw'
        subst hw''
        go_wp2
        refine ⟨⟨k + 1, hlt, rfl, Ok.call HOKR.out (below_regrown wr dq osq)⟩, ?_⟩
        show n + 12 - ((k : Int) + 1).toNat < n + 12 - (k : Int).toNat
        omega
    · have d1 : decide ((k : Int) < (n : Int) + 12) = false := decide_eq_false (by omega)
      go_wp2
      go_ret
      exact ⟨rfl, HOKR.out⟩

end Go.Proofs.Ytolfdncmlfnbdaa
