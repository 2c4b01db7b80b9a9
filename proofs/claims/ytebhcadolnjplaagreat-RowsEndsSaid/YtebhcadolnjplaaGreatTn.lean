/- Rows: lent rows are kept; which rows the document calls right. -/
import Derived.Test.YtebhcadolnjplaaGreatTl
namespace Go.Proofs.YtebhcadolnjplaaGreat
open Go.RowKit
theorem lentA_at0 (zs : List Rw) (j : Nat) (h : j < zs.length) : rwA (zs ++ marksA 12) j = rwA zs j := by
  simp only [rwA, List.getD, List.getElem?_append_left h]
theorem lentA_at1 (zs : List Rw) (j : Nat) (h : j < 12) : rwA (zs ++ marksA 12) (zs.length + j) = markA 1 j := by
  simp [rwA, marksA, h]
theorem rows_nth {w : World} {b off : Nat} {xs : List Rw} (h : RowsIn w (some ⟨b, off, none⟩) xs) (j : Nat) (hj : j < xs.length) : w.cell? ⟨b, off + j * 2, none⟩ = some (.string (rwA xs j).key) ∧ w.cell? ⟨b, off + j * 2 + 1, none⟩ = some (.string (rwA xs j).val) := by
  obtain ⟨b', off', e, c0, c1⟩ := h j hj
  simp only [Option.some.injEq, Addr.mk.injEq, and_true] at e
  obtain ⟨rfl, rfl⟩ := e
  exact ⟨c0, c1⟩
set_option maxRecDepth 100000 in
set_option maxHeartbeats 4000000 in
theorem kept_f (g cap : Nat) (A : Option Addr) (n c : Nat) (zs : List Rw) (hn : zs.length = n) (hn6 : n ≤ 10000) (w : World) (hcap : n + 12 ≤ cap)
    (hG : RowsIn w (some ⟨g, 0, none⟩) (zs ++ marksA 12)) (hI : RowsIn w A zs) :
    Calls Tryz.prog 30 #[.slice (some ⟨g, 0, none⟩) n cap, .slice A n c] w (Ret w (.bool true)) := by
  have HG := Lib.hid hG
  have HI := Lib.hid hI
  have HN := Lib.hid hn
  have HL : Hid ((zs ++ marksA 12).length = n + 12) := Lib.hid (by rw [List.length_append, marksA_len, hn])
  clear hG hI hn
  have s1 : wrap64 ((n : Int) + 12) = (n : Int) + 12 := by simp only [wrap64]; omega
  have s3 : (0 : Int) ≤ (n : Int) + 12 := by omega
  have s4 : (n : Int) + 12 ≤ (cap : Int) := by omega
  have s5 : ((n : Int) + 12).toNat = n + 12 := by omega
  go_enter Tryz.func30, Tryz.ntmps30
  go_wp2_with fail
  go_loopw [6] (fun i wr => ∃ k : Nat, k ≤ n + 12 ∧ i = .int .i64 k ∧ Ok w wr) (fun i _ => n + 12 - (intOf i).toNat)
  case atStart => exact ⟨0, Nat.zero_le _, rfl, Ok.refl _⟩
  case round =>
    obtain ⟨k, hk, rfl, okr⟩ := hrel
    have HOKR := Lib.hid okr
    clear okr
    by_cases hlt : k < n + 12
    · have d1 : decide ((k : Int) < (n : Int) + 12) = true := decide_eq_true (by omega)
      obtain ⟨C0, C1⟩ := rows_nth (HG.out.ok HOKR.out) k (by rw [HL.out]; exact hlt)
      rw [Nat.zero_add] at C0 C1
      have hi0 : (0 : Int) ≤ (k : Int) := Int.natCast_nonneg _
      have hi1 : (k : Int) < (n : Int) + 12 := by omega
      have heq := eq105
      by_cases h2 : k < n
      · have d2 : decide ((k : Int) < (n : Int)) = true := decide_eq_true (by omega)
        have d3 : decide (n ≤ k) = false := decide_eq_false (by omega)
        obtain ⟨b, off, rfl, D0, D1⟩ := HI.out.ok HOKR.out k (by rw [HN.out]; exact h2)
        rw [lentA_at0 zs k (by rw [HN.out]; exact h2)] at C0 C1
        generalize (rwA zs k).key = th at C0 D0
        generalize (rwA zs k).val = tg at C1 D1
        have hi2 : (k : Int) < (n : Int) := by omega
        have kC0 := cell_regrown C0
        have kC1 := cell_regrown C1
        have kD0 := cell_regrown D0
        have kD1 := cell_regrown D1
        go_wp2_with fail
        refine wp_region_quiet_below (by kernel_rfl) (by kernel_rfl) ?_
        refine HeldU.out ?_
        repeat (
          refine hqU_step (fun K hK => ?_)
          go_simp
          (refine hK _ ?_; clear hK K))
        refine HeldU.mk (wpQuiet_nil ?_)
        intro _ hw'
        obtain ⟨⟨dq, osq⟩, hw''⟩ := hw'
        subst hw''
        go_wp2
        refine ⟨⟨k + 1, hlt, rfl, Ok.trans HOKR.out (below_regrown wr dq osq)⟩, ?_⟩
        show n + 12 - ((k : Int) + 1).toNat < n + 12 - (k : Int).toNat
        omega
      · obtain ⟨j, hj⟩ : ∃ j, k = n + j := ⟨k - n, by omega⟩
        have hj12 : j < 12 := by omega
        have d2 : decide ((k : Int) < (n : Int)) = false := decide_eq_false (by omega)
        have d3 : decide (n ≤ k) = true := decide_eq_true (by omega)
        have s2 : wrap64 ((k : Int) - (n : Int)) = (j : Int) := by simp only [wrap64]; omega
        have s6 : IntKind.i64.wrap ((k : Int) - (n : Int)) = (j : Int) := by simp only [IntKind.wrap_i64]; omega
        have e0 : rwA (zs ++ marksA 12) k = markA 1 j := by rw [hj, ← HN.out]; exact lentA_at1 zs j hj12
        rw [e0] at C0 C1
        have hm : ∀ w', Calls Tryz.prog 53 #[.int .i64 1, .int .i64 (j : Int)] w' (Ret w' (.agg #[.string (markA 1 j).key, .string (markA 1 j).val])) := fun w' => markA_w 1 j (by decide) (by omega) w'
        obtain ⟨⟨yh, yg⟩, hy⟩ : ∃ y, markA 1 j = y := ⟨_, rfl⟩
        rw [hy] at hm C0 C1
        simp only at hm C0 C1
        clear e0 hj hy
        have kC0 := cell_regrown C0
        have kC1 := cell_regrown C1
        have q1 : ∀ d os, Calls Tryz.prog 53 #[.int .i64 1, .int .i64 (j : Int)] (Go.Sort.grow (redrawn wr d) os) fun e w'' => e = .returned (.agg #[.string yh, .string yg]) ∧ ∃ p : Regrown, w'' = Go.Sort.grow (redrawn wr p.d) p.os := fun d os => Calls.regrown_of (hm _)
        go_wp2_with fail
        refine wp_region_quiet_below (by kernel_rfl) (by kernel_rfl) ?_
        refine HeldU.out ?_
        repeat (
          refine hqU_step (fun K hK => ?_)
          go_simp
          first
            | (refine hK _ ?_; clear hK K)
            | (apply Exists.intro
               refine ⟨fun _ => ?_, hK _ ?_⟩
               (with_reducible exact q1 _ _)
               clear hK K))
        refine HeldU.mk (wpQuiet_nil ?_)
        intro _ hw'
        obtain ⟨⟨dq, osq⟩, hw''⟩ := hw'
        subst hw''
        go_wp2
        refine ⟨⟨k + 1, hlt, rfl, Ok.trans HOKR.out (below_regrown wr dq osq)⟩, ?_⟩
        show n + 12 - ((k : Int) + 1).toNat < n + 12 - (k : Int).toNat
        omega
    · have d1 : decide ((k : Int) < (n : Int) + 12) = false := decide_eq_false (by omega)
      go_wp2
      go_ret
      exact ⟨rfl, HOKR.out⟩
set_option maxRecDepth 100000 in
theorem rright_f (k v : Str) (w : World) : Calls Tryz.prog 48 #[.agg #[.string k, .string v]] w (Ret w (.bool (rowB ⟨k, v⟩))) := by
  have HQ := Lib.hid (two_new w (.string k) (.string v) 48)
  have HO := Lib.hid ((Ok.refl w).alloc (.cells #[.string k, .string v] 48))
  obtain ⟨z, hz⟩ : ∃ z, w.heap.size = z := ⟨_, rfl⟩
  rw [hz] at HQ
  go_enter Tryz.func48, Tryz.ntmps48
  go_upto_region 1 with fail
  clear hz
  generalize w.alloc (.cells #[.string k, .string v] 48) = w0 at *
  have c0 := HQ.out.1
  have hk := rkey_w k w0
  cases hb : keyB k with
  | true =>
    have HB := Lib.hid hb
    rw [hb] at hk
    clear hb
    go_wp2_with fail
    refine hk.mono ?_
    clear hk c0
    rintro _ w1 ⟨rfl, o1⟩
    have c1 := o1.cell HQ.out.2
    have HO1 := Lib.hid (HO.out.trans o1)
    by_cases hv : v.size ≤ 20
    · have d1 : decide ((v.size : Int) ≤ 20) = true := decide_eq_true (by omega)
      have HE : Hid (rowB ⟨k, v⟩ = true) := Lib.hid (by unfold rowB; rw [HB.out, decide_eq_true hv]; rfl)
      go_wp2_with fail
      go_ret
      exact ⟨by rw [HE.out]; rfl, HO1.out⟩
    · have d1 : decide ((v.size : Int) ≤ 20) = false := decide_eq_false (by omega)
      have HE : Hid (rowB ⟨k, v⟩ = false) := Lib.hid (by unfold rowB; rw [HB.out, decide_eq_false hv]; rfl)
      go_wp2_with fail
      go_ret
      exact ⟨by rw [HE.out]; rfl, HO1.out⟩
  | false =>
    have HE : Hid (rowB ⟨k, v⟩ = false) := Lib.hid (by unfold rowB; rw [hb]; rfl)
    rw [hb] at hk
    clear hb
    go_wp2_with fail
    refine hk.mono ?_
    clear hk c0
    rintro _ w1 ⟨rfl, o1⟩
    have HO1 := Lib.hid (HO.out.trans o1)
    clear o1
    go_wp2_with fail
    go_ret
    exact ⟨by rw [HE.out]; rfl, HO1.out⟩
end Go.Proofs.YtebhcadolnjplaaGreat
