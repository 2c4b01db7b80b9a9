/- Whether lent acts are kept; acts written over. -/
import Derived.Test.YthbbbjkgfdnkhaaDoorBd
import Derived.Test.YthbbbjkgfdnkhaaDoorBa
import Derived.Lib.QuietBelow
import Derived.Outline
namespace Go.Proofs.YthbbbjkgfdnkhaaDoor
open Go.RowKit
theorem lentA_at0 (zs : List Ac) (j : Nat) (h : j < zs.length) : atA (zs ++ marksA 12) j = atA zs j := by
  simp only [atA, List.getD, List.getElem?_append_left h]
theorem lentA_at1 (zs : List Ac) (j : Nat) (h : j < 12) : atA (zs ++ marksA 12) (zs.length + j) = markA 1 j := by
  simp [atA, marksA, h]
theorem acts_nth {w : World} {b off : Nat} {xs : List Ac} (h : ActsAt w (some ⟨b, off, none⟩) xs) (j : Nat) (hj : j < xs.length) : w.cell? ⟨b, off + j * 4, none⟩ = some (.int .u8 (atA xs j).kind) ∧ w.cell? ⟨b, off + j * 4 + 1, none⟩ = some (.string (atA xs j).key) ∧ w.cell? ⟨b, off + j * 4 + 2, none⟩ = some (.string (atA xs j).value) ∧ w.cell? ⟨b, off + j * 4 + 3, none⟩ = some (.int .i64 (atA xs j).num) := by
  obtain ⟨b', off', e, c0, c1, c2, c3⟩ := h j hj
  simp only [Option.some.injEq, Addr.mk.injEq, and_true] at e
  obtain ⟨rfl, rfl⟩ := e
  exact ⟨c0, c1, c2, c3⟩
structure HeldK (p : Prop) : Prop where
  out : p
theorem hqK_step {P : Program} {ops : Array Oper} {C : World → Prop} {Q : Act → Prop} {a : Act} {o : Oper} {rest : List Oper}
    (h : ∀ K : Act → Prop, (∀ a, HeldK (wpQuiet P ops C Q rest a) → K a) → if Region.wanted o (yielded ops a.tmps) then o.quiet P a C K else K (a.put o.dst undef)) : HeldK (wpQuiet P ops C Q (o :: rest) a) :=
  ⟨h (fun a => wpQuiet P ops C Q rest a) (fun _ h => h.out)⟩
set_option maxRecDepth 100000 in
set_option maxHeartbeats 4000000 in
theorem kept_w (g cap : Nat) (A : Option Addr) (n c : Nat) (zs : List Ac) (hn : zs.length = n) (hn6 : n ≤ 10000) (w : World) (hcap : n + 12 ≤ cap)
    (hG : ActsAt w (some ⟨g, 0, none⟩) (zs ++ marksA 12)) (hI : ActsAt w A zs) :
    Calls Tryd.prog 29 #[.slice (some ⟨g, 0, none⟩) n cap, .slice A n c] w (Ret w (.bool true)) := by
  have HG := Lib.hid hG
  have HI := Lib.hid hI
  have HN := Lib.hid hn
  have HL : Hid ((zs ++ marksA 12).length = n + 12) := Lib.hid (by rw [List.length_append, marksA_len, hn])
  clear hG hI hn
  have s1 : wrap64 ((n : Int) + 12) = (n : Int) + 12 := by simp only [wrap64]; omega
  have s3 : (0 : Int) ≤ (n : Int) + 12 := by omega
  have s4 : (n : Int) + 12 ≤ (cap : Int) := by omega
  have s5 : ((n : Int) + 12).toNat = n + 12 := by omega
  go_enter Tryd.func29, Tryd.ntmps29
  go_wp2_with fail
  go_loopw [6] (fun i wr => ∃ k : Nat, k ≤ n + 12 ∧ i = .int .i64 k ∧ Ok w wr) (fun i _ => n + 12 - (intOf i).toNat)
  case atStart => exact ⟨0, Nat.zero_le _, rfl, Ok.refl _⟩
  case round =>
    obtain ⟨k, hk, rfl, okr⟩ := hrel
    have HOKR := Lib.hid okr
    clear okr
    by_cases hlt : k < n + 12
    · have d1 : decide ((k : Int) < (n : Int) + 12) = true := decide_eq_true (by omega)
      obtain ⟨C0, C1, C2, C3⟩ := acts_nth (HG.out.ok HOKR.out) k (by rw [HL.out]; exact hlt)
      rw [Nat.zero_add] at C0 C1 C2 C3
      have hi0 : (0 : Int) ≤ (k : Int) := Int.natCast_nonneg _
      have hi1 : (k : Int) < (n : Int) + 12 := by omega
      have heq := eq52
      by_cases h2 : k < n
      · have d2 : decide ((k : Int) < (n : Int)) = true := decide_eq_true (by omega)
        have d3 : decide (n ≤ k) = false := decide_eq_false (by omega)
        obtain ⟨b, off, rfl, D0, D1, D2, D3⟩ := HI.out.ok HOKR.out k (by rw [HN.out]; exact h2)
        rw [lentA_at0 zs k (by rw [HN.out]; exact h2)] at C0 C1 C2 C3
        generalize (atA zs k).kind = tl at C0 D0
        generalize (atA zs k).key = th at C1 D1
        generalize (atA zs k).value = tg at C2 D2
        generalize (atA zs k).num = te at C3 D3
        have hi2 : (k : Int) < (n : Int) := by omega
        have kC0 := cell_regrown C0
        have kC1 := cell_regrown C1
        have kC2 := cell_regrown C2
        have kC3 := cell_regrown C3
        have kD0 := cell_regrown D0
        have kD1 := cell_regrown D1
        have kD2 := cell_regrown D2
        have kD3 := cell_regrown D3
        go_wp2_with fail
        refine wp_region_quiet_below (by kernel_rfl) (by kernel_rfl) ?_
        refine HeldK.out ?_
        repeat (
          refine hqK_step (fun K hK => ?_)
          go_simp
          (refine hK _ ?_; clear hK K))
        refine HeldK.mk (wpQuiet_nil ?_)
        intro _ hw'
        obtain ⟨⟨dq, osq⟩, hw''⟩ := hw'
        subst hw''
        go_wp2
        refine ⟨⟨k + 1, hlt, rfl, Ok.trans HOKR.out (below_regrown wr dq osq)⟩, ?_⟩
        show n + 12 - ((k : Int) + 1).toNat < n + 12 - (k : Int).toNat
        omega
      · obtain ⟨j, hj⟩ : ∃ j, k = n + j := ⟨k - n, by omega⟩
        have hj12 : j < 12 := by omega
        have d2 : decide ((k : Int) < (n : Int)) = false := decide_eq_false (by omega)
        have d3 : decide (n ≤ k) = true := decide_eq_true (by omega)
        have s2 : wrap64 ((k : Int) - (n : Int)) = (j : Int) := by simp only [wrap64]; omega
        have s6 : IntKind.i64.wrap ((k : Int) - (n : Int)) = (j : Int) := by simp only [IntKind.wrap_i64]; omega
        have e0 : atA (zs ++ marksA 12) k = markA 1 j := by rw [hj, ← HN.out]; exact lentA_at1 zs j hj12
        rw [e0] at C0 C1 C2 C3
        have hm : ∀ w', Calls Tryd.prog 33 #[.int .i64 1, .int .i64 (j : Int)] w' (Ret w' (acV (markA 1 j))) := fun w' => markA_w 1 j (by decide) (by omega) w'
        unfold acV at hm
        obtain ⟨⟨yl, yh, yg, ye⟩, hy⟩ : ∃ y, markA 1 j = y := ⟨_, rfl⟩
        rw [hy] at hm C0 C1 C2 C3
        simp only at hm C0 C1 C2 C3
        clear e0 hj hy
        have kC0 := cell_regrown C0
        have kC1 := cell_regrown C1
        have kC2 := cell_regrown C2
        have kC3 := cell_regrown C3
        have q1 : ∀ d os, Calls Tryd.prog 33 #[.int .i64 1, .int .i64 (j : Int)] (Go.Sort.grow (redrawn wr d) os) fun e w'' => e = .returned (.agg #[.int .u8 yl, .string yh, .string yg, .int .i64 ye]) ∧ ∃ p : Regrown, w'' = Go.Sort.grow (redrawn wr p.d) p.os := fun d os => Calls.regrown_of (hm _)
        go_wp2_with fail
        refine wp_region_quiet_below (by kernel_rfl) (by kernel_rfl) ?_
        refine HeldK.out ?_
        repeat (
          refine hqK_step (fun K hK => ?_)
          go_simp
          first
            | (refine hK _ ?_; clear hK K)
            | (apply Exists.intro
               refine ⟨fun _ => ?_, hK _ ?_⟩
               (with_reducible exact q1 _ _)
               clear hK K))
        refine HeldK.mk (wpQuiet_nil ?_)
        intro _ hw'
        obtain ⟨⟨dq, osq⟩, hw''⟩ := hw'
        subst hw''
        go_wp2
        refine ⟨⟨k + 1, hlt, rfl, Ok.trans HOKR.out (below_regrown wr dq osq)⟩, ?_⟩
        show n + 12 - ((k : Int) + 1).toNat < n + 12 - (k : Int).toNat
        omega
    · have d1 : decide ((k : Int) < (n : Int) + 12) = false := decide_eq_false (by omega)
      go_wp2
      go_ret
      exact ⟨rfl, HOKR.out⟩
end Go.Proofs.YthbbbjkgfdnkhaaDoor
