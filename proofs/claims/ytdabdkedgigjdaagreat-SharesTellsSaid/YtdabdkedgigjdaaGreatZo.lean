/- The document's own Of; rows of numbers that are the same. -/
import Derived.Test.YtdabdkedgigjdaaGreatSx
import Derived.Test.YtdabdkedgigjdaaGreatSr
namespace Go.Proofs.YtdabdkedgigjdaaGreat
open Go.RowKit

set_option maxRecDepth 100000 in
set_option maxHeartbeats 8000000 in
theorem rof_w (kk : Str) (ep : Int) (A : Option Addr) (n c : Nat) (xs : List Sh) (hn : xs.length = n) (hn6 : n ≤ 1000) (w : World) (hI : SharesAt w A xs) :
    Calls Tryz.prog 24 #[.agg #[.int .i64 ep, .slice A n c], .string kk] w (Ret w (shareV (firstM ep xs (fun x => hasB x.sp kk)))) := by
  have HRR := Lib.hid (fun w' h => rsharesRight_w ep A n c xs hn hn6 w' h)
  have HWI := Lib.hid (fun s => rhas_w s kk)
  have HN := Lib.hid hn
  have HI := Lib.hid hI
  clear hI
  have hnone : sharesB ep xs = false → shareV (firstM ep xs (fun x => hasB x.sp kk)) = shareV none := fun h => by simp [firstM, h]
  have hlost : (∀ j, j < n → hasB (at2 xs j).sp kk = false) → shareV (firstM ep xs (fun x => hasB x.sp kk)) = shareV none := fun h => by
    unfold firstM
    split
    · rw [List.find?_eq_none.2]
      intro x hx
      obtain ⟨j, hj, rfl⟩ := List.getElem_of_mem hx
      have := h j (by omega)
      rw [at2_get xs j hj] at this
      simp [this]
    · rfl
  have hfound : ∀ k, k < n → sharesB ep xs = true → (∀ j, j < k → hasB (at2 xs j).sp kk = false) → hasB (at2 xs k).sp kk = true → shareV (firstM ep xs (fun x => hasB x.sp kk)) = shareV (some (at2 xs k)) := fun k hk hs hb hw => by
    unfold firstM
    rw [if_pos hs]
    congr 1
    rw [List.find?_eq_some_iff_getElem]
    refine ⟨hw, k, by omega, by rw [at2_get xs k (by omega)], fun j hj => ?_⟩
    have := hb j hj
    rw [at2_get xs j (by omega)] at this
    simp [this]
  obtain ⟨R, hR⟩ : ∃ R, shareV (firstM ep xs (fun x => hasB x.sp kk)) = R := ⟨_, rfl⟩
  rw [hR] at hnone hlost hfound ⊢
  have HNONE := Lib.hid hnone
  have HLOST := Lib.hid hlost
  have HFOUND := Lib.hid hfound
  clear hR hnone hlost hfound hn
  generalize sharesB ep xs = sr at HRR HNONE HFOUND
  unfold spV at HWI
  go_enter Tryz.func24, Tryz.ntmps24
  go_wp2_with fail
  generalize hW : (w.alloc (.cells #[.int .i64 ep, .slice A n c] 24)).alloc (.cells #[.string ⟨#[]⟩, .string ⟨#[]⟩, .int .i64 0, .int .i64 0] 35) = W
  have oW : Ok w W := by subst hW; exact Ok.alloc (Ok.alloc (Ok.refl w) _) _
  have E0 : W.cell? ⟨w.heap.size, 0, none⟩ = some (.int .i64 ep) := by subst hW; go_cell
  have E1 : W.cell? ⟨w.heap.size, 1, none⟩ = some (.slice A n c) := by subst hW; go_cell
  have R0 : W.cell? ⟨w.heap.size + 1, 0, none⟩ = some (.string ⟨#[]⟩) := by subst hW; go_cell
  have F0 : W.frozen? ⟨w.heap.size + 1, 0, none⟩ = false := by subst hW; go_cell
  have R1 : W.cell? ⟨w.heap.size + 1, 1, none⟩ = some (.string ⟨#[]⟩) := by subst hW; go_cell
  have F1 : W.frozen? ⟨w.heap.size + 1, 1, none⟩ = false := by subst hW; go_cell
  have R2 : W.cell? ⟨w.heap.size + 1, 2, none⟩ = some (.int .i64 0) := by subst hW; go_cell
  have F2 : W.frozen? ⟨w.heap.size + 1, 2, none⟩ = false := by subst hW; go_cell
  have R3 : W.cell? ⟨w.heap.size + 1, 3, none⟩ = some (.int .i64 0) := by subst hW; go_cell
  have F3 : W.frozen? ⟨w.heap.size + 1, 3, none⟩ = false := by subst hW; go_cell
  clear hW
  have HIW := Lib.hid (HI.out.ok oW)
  go_loopw [6] (fun l wr => ∃ k : Nat, k ≤ n ∧ l = .int .i64 k ∧ (∀ j, j < k → hasB (at2 xs j).sp kk = false) ∧ Ok W wr) (fun l _ => n - (intOf l).toNat)
  case atStart => exact ⟨0, Nat.zero_le _, rfl, fun j hj => absurd hj (Nat.not_lt_zero _), Ok.refl _⟩
  case round =>
    obtain ⟨k, hk, rfl, hall, okr⟩ := hrel
    have HALL := Lib.hid hall
    have HOKR := Lib.hid okr
    have F0 := (Below.frozen okr (World.block_lt_of_cell? _ _ R0)).trans F0
    have F1 := (Below.frozen okr (World.block_lt_of_cell? _ _ R1)).trans F1
    have F2 := (Below.frozen okr (World.block_lt_of_cell? _ _ R2)).trans F2
    have F3 := (Below.frozen okr (World.block_lt_of_cell? _ _ R3)).trans F3
    have R0 := Ok.cell okr R0
    have R1 := Ok.cell okr R1
    have R2 := Ok.cell okr R2
    have R3 := Ok.cell okr R3
    have E0 := Ok.cell okr E0
    have E1 := Ok.cell okr E1
    clear hall okr
    by_cases hlt : k < n
    · have d4 : decide ((k : Int) < (n : Int)) = true := decide_eq_true (by omega)
      go_wp2_with fail
      refine (HRR.out _ (HIW.out.ok HOKR.out)).mono ?_
      rintro _ w1 ⟨rfl, o1⟩
      have F0 := (Below.frozen o1 (World.block_lt_of_cell? _ _ R0)).trans F0
      have F1 := (Below.frozen o1 (World.block_lt_of_cell? _ _ R1)).trans F1
      have F2 := (Below.frozen o1 (World.block_lt_of_cell? _ _ R2)).trans F2
      have F3 := (Below.frozen o1 (World.block_lt_of_cell? _ _ R3)).trans F3
      have R0 := Ok.cell o1 R0
      have R1 := Ok.cell o1 R1
      have R2 := Ok.cell o1 R2
      have R3 := Ok.cell o1 R3
      have E0 := Ok.cell o1 E0
      have E1 := Ok.cell o1 E1
      have HOK1 := Lib.hid (Ok.call HOKR.out o1)
      clear o1
      cases sr with
      | false =>
        have e := Lib.hid (HNONE.out rfl)
        go_wp2
        have st := store4 w1 (w.heap.size + 1) _ _ _ _ (.string ⟨#[]⟩) (.string ⟨#[]⟩) (.int .i64 0) (.int .i64 0) R0 R1 R2 R3
        (try simp only [Exit.inBlock, Exit.then])
        refine bodyPost_ret (by simp [results, Tryz.results24, go_sem, st.1, st.2.1, st.2.2.1, st.2.2.2]; try rfl) rfl ?_
        exact ⟨by rw [e.out]; try rfl, Ok.set4 (Ok.call oW HOK1.out) (by omega) _ _ _ _⟩
      | true =>
        obtain ⟨b, off, rfl, C0, C1, C2, C3⟩ := HIW.out.ok HOK1.out k (by rw [HN.out]; exact hlt)
        have HFO := Lib.hid (HFOUND.out k hlt rfl HALL.out)
        have HAN : Hid (hasB (at2 xs k).sp kk = false → ∀ j, j < k + 1 → hasB (at2 xs j).sp kk = false) := Lib.hid fun h j hj => by
          by_cases hjk : j = k
          · rw [hjk]; exact h
          · exact HALL.out j (by omega)
        generalize at2 xs k = x at C0 C1 C2 C3 HFO HAN
        obtain ⟨⟨xl, xh⟩, xg, xe⟩ := x
        simp only at C0 C1 C2 C3 HFO HAN
        have hi0 : (0 : Int) ≤ (k : Int) := Int.natCast_nonneg _
        have hi1 : (k : Int) < (n : Int) := by omega
        have hwi := HWI.out ⟨xl, xh⟩
        simp only at hwi
        go_wp2_with fail
        have kE1 := cell_regrown E1
        have kC0 := cell_regrown C0
        have kC1 := cell_regrown C1
        cases h5 : hasB ⟨xl, xh⟩ kk with
        | false =>
          rw [h5] at hwi
          have HAN2 := Lib.hid (HAN.out h5)
          refine (hwi w1).mono ?_
          rintro _ w2 ⟨rfl, oq⟩
          go_wp2
          refine ⟨⟨k + 1, hlt, rfl, HAN2.out, Ok.call HOK1.out oq⟩, ?_⟩
          show n - ((k : Int) + 1).toNat < n - (k : Int).toNat
          omega
        | true =>
          rw [h5] at hwi
          have e := Lib.hid (HFO.out h5)
          refine (hwi w1).mono ?_
          rintro _ w2 ⟨rfl, oq⟩
          have F0 := (Below.frozen oq (World.block_lt_of_cell? _ _ R0)).trans F0
          have F1 := (Below.frozen oq (World.block_lt_of_cell? _ _ R1)).trans F1
          have F2 := (Below.frozen oq (World.block_lt_of_cell? _ _ R2)).trans F2
          have F3 := (Below.frozen oq (World.block_lt_of_cell? _ _ R3)).trans F3
          have R0 := Ok.cell oq R0
          have R1 := Ok.cell oq R1
          have R2 := Ok.cell oq R2
          have R3 := Ok.cell oq R3
          have E1 := Ok.cell oq E1
          have C0 := Ok.cell oq C0
          have C1 := Ok.cell oq C1
          have C2 := Ok.cell oq C2
          have C3 := Ok.cell oq C3
          have HOK2 := Lib.hid (Ok.call (Ok.call oW HOK1.out) oq)
          go_wp2
          have st := store4 w2 (w.heap.size + 1) _ _ _ _ (.string xl) (.string xh) (.int .i64 xg) (.int .i64 xe) R0 R1 R2 R3
          (try simp only [Exit.inBlock, Exit.then])
          refine bodyPost_ret (by simp [results, Tryz.results24, go_sem, st.1, st.2.1, st.2.2.1, st.2.2.2]; try rfl) rfl ?_
          exact ⟨by rw [e.out]; try rfl, Ok.set4 HOK2.out (by omega) _ _ _ _⟩
    · have d4 : decide ((k : Int) < (n : Int)) = false := decide_eq_false (by omega)
      have e := Lib.hid (HLOST.out fun j hj => HALL.out j (by omega))
      go_wp2
      have st := store4 wr (w.heap.size + 1) _ _ _ _ (.string ⟨#[]⟩) (.string ⟨#[]⟩) (.int .i64 0) (.int .i64 0) R0 R1 R2 R3
      (try simp only [Exit.inBlock, Exit.then])
      refine bodyPost_ret (by simp [results, Tryz.results24, go_sem, st.1, st.2.1, st.2.2.1, st.2.2.2]; try rfl) rfl ?_
      exact ⟨by rw [e.out]; try rfl, Ok.set4 (Ok.call oW HOKR.out) (by omega) _ _ _ _⟩
end Go.Proofs.YtdabdkedgigjdaaGreat
