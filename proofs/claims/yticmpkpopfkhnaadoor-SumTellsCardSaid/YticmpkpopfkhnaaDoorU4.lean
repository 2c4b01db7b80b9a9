/- Contracts of the look at lent lists of lists, and of the document's own sum of parts. -/
import Derived.Test.YticmpkpopfkhnaaDoorU3
namespace Go.Proofs.YticmpkpopfkhnaaDoor
open Go.RowKit

theorem OwnB.first {w : World} {base g cap : Nat} {xs : List B8} (h : OwnB w base g cap (xs ++ marks 12)) (hx : xs.length ≤ 140737488351232) : BytesIn w (.slice (some ⟨g, 0, none⟩) xs.length cap) xs := by
  refine .inr ⟨g, 0, cap, rfl, hx, fun i hi => ?_⟩
  have := h.at' i (by rw [List.length_append]; omega)
  rw [getD_left xs _ i hi] at this
  rw [Nat.zero_add]; exact this
theorem LentRows.at {w : World} {base k n c : Nat} {ll : List (List B8)} {A : Option Addr} (h : LentRows w base ll k A n c) (j : Nat) (hj : j < k) :
    ∃ g g' cap', A = some ⟨g, 0, none⟩ ∧ w.cell? ⟨g, j, none⟩ = some (.slice (some ⟨g', 0, none⟩) (ll.getD j []).length cap') ∧ OwnB w base g' cap' (ll.getD j [] ++ marks 12) := by
  obtain ⟨vals, h1, rfl, h3⟩ := h
  obtain ⟨g', cap', h4, h5⟩ := h3 j hj
  rcases h1.2 with ⟨_, h6⟩ | ⟨g, cap, cur, h6, _⟩
  · omega
  · simp only [Value.slice.injEq] at h6
    obtain ⟨rfl, _, rfl⟩ := h6
    exact ⟨g, g', cap', rfl, by rw [h1.cellAt j (by omega)]; exact h4, h5⟩
theorem LentRows.rows {w : World} {base c : Nat} {ll : List (List B8)} {A : Option Addr} (h : LentRows w base ll ll.length A ll.length c) (hl : ll.length ≤ 20000) (hx : ∀ k, k < ll.length → (ll.getD k []).length ≤ 20000) : RowsIn w (.slice A ll.length c) ll := by
  by_cases h0 : ll.length = 0
  · refine .inl ⟨List.length_eq_zero_iff.1 h0, A, c, by rw [h0]⟩
  · obtain ⟨g, _, _, rfl, _⟩ := h.at 0 (by omega)
    refine .inr ⟨g, 0, c, rfl, by omega, fun r hr => ?_⟩
    obtain ⟨g2, g', cap', h1, h2, h3⟩ := h.at r hr
    simp only [Option.some.injEq, Addr.mk.injEq, and_true] at h1
    subst h1
    exact ⟨_, by rw [Nat.zero_add]; exact h2, h3.first (by have := hx r hr; omega)⟩
theorem LentRows.ok {w w' : World} {base k n c : Nat} {ll : List (List B8)} {A : Option Addr} (h : LentRows w base ll k A n c) (o : Ok w w') : LentRows w' base ll k A n c := by
  obtain ⟨vals, h1, h2, h3⟩ := h
  exact ⟨vals, h1.kept (row := none) ⟨o.os, o.tape, o.output, o.size, fun i hi _ => o.block i hi⟩ (by cases hA : Value.ownBlock (.slice A n c) <;> simp), h2, h3.ok o⟩

theorem S2 {W X : World} {a b : Addr} {v u : Value} (h : Ok W X) (ha : X.cell? a = some v) (hb : X.cell? b = some u) : X.cell? a = some v ∧ X.cell? b = some u ∧ OkS W X := ⟨ha, hb, h⟩
set_option maxRecDepth 100000 in
set_option maxHeartbeats 4000000 in
theorem keptRows_v (W : World) (base c : Nat) (v : Value) (ll : List (List B8)) (A : Option Addr) (hlr : LentRows W base ll ll.length A ll.length c) (hr : RowsIn W v ll) (hl : ll.length ≤ 20000) (hx : ∀ k, k < ll.length → (ll.getD k []).length ≤ 20000) :
    Calls Tryd.prog 14 #[.slice A ll.length c, v] W fun e w' => e = .returned (.bool true) ∧ Ok W w' := by
  rcases hr with ⟨rfl, A0, c0, rfl⟩ | ⟨b, o, c2, rfl, _, hc⟩
  · simp only [List.length_nil]
    go_enter Tryd.func14, Tryd.ntmps14
    go_wp2_with fail
    refine wp_loop_rounds 1 ?_
    rw [rounds_succ]
    go_wp2_with fail
    go_ret
    exact ⟨rfl, Ok.refl _⟩
  · have HC := Lib.hid hc
    have HXL := Lib.hid hx
    have HLR := Lib.hid hlr
    clear hc hx hlr
    generalize hn : ll.length = n at *
    have HN := Lib.hid hn
    clear hn
    have hne : ((n : Int) != n) = false := by simp
    go_enter Tryd.func14, Tryd.ntmps14
    go_wp2_with fail
    go_loopw [5] (fun i wr => ∃ k : Nat, k ≤ n ∧ i = .int .i64 k ∧ Ok W wr) (fun i _ => n - (intOf i).toNat)
    case atStart => exact ⟨0, Nat.zero_le _, rfl, Ok.refl _⟩
    case round =>
      obtain ⟨k, hk, rfl, hok⟩ := hrel
      have HOK := Lib.hid hok
      clear hok
      by_cases hlt : k < n
      · obtain ⟨x, hx, hbx⟩ := HC.out k hlt
        have hx := HOK.out.cell hx
        obtain ⟨Ax, cx, rfl, _⟩ := hbx.form
        have HB := Lib.hid (HOK.out.bytes hbx)
        have HLX := Lib.hid (HXL.out k hlt)
        clear hbx
        obtain ⟨g, g', cap', rfl, hcg, hog⟩ := (HLR.out.ok HOK.out).at k hlt
        have HOG := Lib.hid hog
        clear hog
        have hi0 : (0 : Int) ≤ (k : Int) := Int.natCast_nonneg _
        have hi1 : (k : Int) < (n : Int) := by omega
        have hok : Ok W wr := HOK.out
        generalize ll.getD k [] = xs at *
        generalize hLx : xs.length = L at *
        have HLL := Lib.hid hLx
        clear hLx
        have HKB : Hid (∀ w, Ok wr w → Calls Tryd.prog 23 #[.slice (some ⟨g', 0, none⟩) L cap', .slice Ax L cx] w fun e w' => e = .returned (.bool true) ∧ Ok w w') := Lib.hid fun w hw => by
          have := keptBytes_v w base g' cap' _ xs (hw.bytes HB.out) (HOG.out.ok hw) (by rw [HLL.out]; exact HLX.out)
          rwa [HLL.out] at this
        go_wp2_with fail
        go_region_held3 (fun w' => w'.cell? ⟨g, k, none⟩ = some (.slice (some ⟨g', 0, none⟩) L cap') ∧ w'.cell? ⟨b, o + k, none⟩ = some (.slice Ax L cx) ∧ OkS W w')
          (first | assumption | exact S2 (Ok.drew hok) (C.drew hcg) (C.drew hx) | exact S2 (Ok.trans (Ok.drew hok) (by assumption)) (C.call (by assumption) (C.drew hcg)) (C.call (by assumption) (C.drew hx)))
          ((go_at_call 23; (with_reducible refine (HKB.out _ ?_).mono ?_); (exact Ok.drew (Ok.refl wr)); rintro e wc ⟨rfl, hbc⟩))
        all_goals go_wp2_with fail
        all_goals exact ⟨⟨k + 1, by omega, by go_num, Ok.trans (Ok.drew HOK.out) (by assumption)⟩, by simp [intOf]; omega⟩
      · have hke : k = n := by omega
        subst hke
        go_wp2_with fail
        go_ret
        exact ⟨rfl, HOK.out⟩
end Go.Proofs.YticmpkpopfkhnaaDoor
