/- Acts written over. -/
import Derived.Test.YthbbbjkgfdnkhaaDoorBd
import Derived.Outline
namespace Go.Proofs.YthbbbjkgfdnkhaaDoor
open Go.RowKit
theorem cell_stays {w : World} {p q : Addr} {x y : Value} (h : w.cell? q = some y) : ∃ z, (w.setCell p x).cell? q = some z := by
  by_cases e : q = p
  · subst e; exact ⟨_, World.cell?_setCell_same _ _ _ h⟩
  · exact ⟨_, (World.cell?_setCell_other _ _ _ _ (fun h' => e (by rw [h']))).trans h⟩
/-- A block of cells that may be written: as many, none frozen. -/
def RowB (w : World) (g c : Nat) : Prop := (∀ j, j < c → ∃ x, w.cell? ⟨g, j, none⟩ = some x) ∧ ∀ j, j < c → w.frozen? ⟨g, j, none⟩ = false
theorem RowB.set {w : World} {g c : Nat} (h : RowB w g c) (p : Addr) (x : Value) : RowB (w.setCell p x) g c :=
  ⟨fun j hj => by obtain ⟨y, hy⟩ := h.1 j hj; exact cell_stays hy, fun j hj => by rw [World.frozen?_setCell]; exact h.2 j hj⟩
theorem RowB.ok {w w' : World} {g c : Nat} (h : RowB w g c) (k : Ok w w') : RowB w' g c :=
  ⟨fun j hj => by obtain ⟨y, hy⟩ := h.1 j hj; exact ⟨y, Ok.cell k hy⟩, fun j hj => by
    obtain ⟨y, hy⟩ := h.1 j hj
    rw [Below.frozen k (p := ⟨g, j, none⟩) (World.block_lt_of_cell? _ _ hy)]; exact h.2 j hj⟩
/-- A row of shares that may be written over, from block B on. -/
def RowV (w : World) (B : Nat) (A : Option Addr) (n c : Nat) : Prop := (A = none ∧ n = 0 ∧ c = 0) ∨ ∃ g, A = some ⟨g, 0, none⟩ ∧ B ≤ g ∧ n ≤ c ∧ n ≤ 180 ∧ c ≤ 9223372036854775807 ∧ RowB w g (c * 4)
theorem RowV.ok {w w' : World} {B : Nat} {A : Option Addr} {n c : Nat} (h : RowV w B A n c) (k : Ok w w') : RowV w' B A n c := by
  rcases h with h | ⟨g, h1, h2, h3, h4, h5, h6⟩
  · exact .inl h
  · exact .inr ⟨g, h1, h2, h3, h4, h5, h6.ok k⟩
theorem OwnA.row {w : World} {B : Nat} {A : Option Addr} {n c : Nat} {xs : List Ac} (h : OwnA w B A n c xs) (hl : n ≤ 180) : RowV w B A n c := by
  obtain ⟨h1, rfl⟩ := h
  rcases h1.2 with ⟨e, h5⟩ | ⟨g, cap, cur, e, hB, hg, h1, h2, h3, h4⟩
  · simp only [Value.slice.injEq] at e
    exact .inl ⟨e.1, h5, e.2.2⟩
  · simp only [Value.slice.injEq] at e
    obtain ⟨rfl, -, rfl⟩ := e
    refine .inr ⟨g, rfl, hB, h1, by omega, by unfold maxLen at h2; omega, fun j hj => ?_, fun j _ => ?_⟩
    · rw [cell_of_row _ _ _ _ _ _ hg]; exact ⟨cur[j]'(by omega), by simp⟩
    · rw [World.frozen?, hg]; simp
def OverP (B : Nat) (w : World) (e : Ending) (w' : World) : Prop := e = .returned (.tuple #[]) ∧ Below B w w'

set_option maxRecDepth 100000 in
set_option maxHeartbeats 4000000 in
theorem over_w (A : Option Addr) (n c : Nat) (B : Nat) (w : World) (h : RowV w B A n c) : Calls Tryd.prog 26 #[.slice A n c] w (OverP B w) := by
  rcases h with ⟨rfl, rfl, rfl⟩ | ⟨g, rfl, hB, hnc, hn, hcm, hR⟩
  · go_enter Tryd.func26, Tryd.ntmps26
    go_wp2_with fail
    go_loopw [3] (fun i wr => i = .int .i64 0 ∧ wr = w) (fun _ _ => 0)
    case atStart => exact ⟨rfl, rfl⟩
    case round =>
      obtain ⟨rfl, rfl⟩ := hrel
      go_wp2_with fail
      go_end0
      exact ⟨rfl, Below.refl _ _⟩
  · have HR := Lib.hid hR
    clear hR
    have s1 : wrap64 ((n : Int) + 12) = (n : Int) + 12 := by simp only [wrap64]; omega
    obtain ⟨k, hk, hkc, hkm⟩ : ∃ k : Nat, min (c : Int) ((n : Int) + 12) = (k : Int) ∧ k ≤ c ∧ k ≤ 192 := ⟨min c (n + 12), by omega, by omega, by omega⟩
    have HK := Lib.hid hk
    by_cases hcn : (n : Int) + 12 < (c : Int)
    · obtain rfl : k = n + 12 := by omega
      clear hk
      have hk : (n : Int) + 12 = ((n + 12 : Nat) : Int) := by omega
      rw [hk] at hcn s1
      generalize n + 12 = k at *
      have d1 : decide ((k : Int) < (c : Int)) = true := decide_eq_true hcn
      have d2 : decide (k < c) = true := decide_eq_true (by omega)
      have hk0 : (0 : Int) ≤ (k : Int) := Int.natCast_nonneg _
      have hki : (k : Int) ≤ (c : Int) := by omega
      go_enter Tryd.func26, Tryd.ntmps26
      go_wp2_with fail
      go_loopw [3] (fun i wr => ∃ j : Nat, j ≤ k ∧ i = .int .i64 j ∧ Below B w wr ∧ RowB wr g (c * 4)) (fun i _ => k - (intOf i).toNat)
      case atStart => exact ⟨0, Nat.zero_le _, rfl, Below.refl _ _, HR.out⟩
      case round =>
        obtain ⟨j, hj, rfl, hbel, hst⟩ := hrel
        have HBL := Lib.hid hbel
        have HST := Lib.hid hst
        clear hbel hst
        by_cases hlt : j < k
        · obtain ⟨hcs, hfs⟩ := HST.out
          obtain ⟨x0, hx0⟩ := hcs (j * 4) (by omega)
          obtain ⟨x1, hx1⟩ := hcs (j * 4 + 1) (by omega)
          obtain ⟨x2, hx2⟩ := hcs (j * 4 + 2) (by omega)
          obtain ⟨x3, hx3⟩ := hcs (j * 4 + 3) (by omega)
          have hf0 := hfs (j * 4) (by omega)
          have hf1 := hfs (j * 4 + 1) (by omega)
          have hf2 := hfs (j * 4 + 2) (by omega)
          have hf3 := hfs (j * 4 + 3) (by omega)
          have hblk : g < wr.heap.size := World.block_lt_of_cell? _ _ hx0
          clear hcs hfs
          have hj0 : (0 : Int) ≤ (j : Int) := Int.natCast_nonneg _
          have hj1 : (j : Int) < (k : Int) := by omega
          have hjc : (j : Int) < (c : Int) := by omega
          have hmk : ∀ w', Calls Tryd.prog 33 #[.int .i64 2, .int .i64 (j : Int)] w' (Ret w' (acV (markA 2 j))) := fun w' => markA_w 2 j (by decide) (by omega) w'
          unfold acV at hmk
          obtain ⟨⟨yl, yh, yg, ye⟩, hy⟩ : ∃ y, markA 2 j = y := ⟨_, rfl⟩
          rw [hy] at hmk
          simp only at hmk
          clear hy
          have HMK := Lib.hid hmk
          have HFIN : Hid (∀ w2, Ok wr w2 → ∀ y0 y1 y2 y3, Below B w ((((w2.setCell ⟨g, j * 4, none⟩ y0).setCell ⟨g, j * 4 + 1, none⟩ y1).setCell ⟨g, j * 4 + 2, none⟩ y2).setCell ⟨g, j * 4 + 3, none⟩ y3) ∧ RowB ((((w2.setCell ⟨g, j * 4, none⟩ y0).setCell ⟨g, j * 4 + 1, none⟩ y1).setCell ⟨g, j * 4 + 2, none⟩ y2).setCell ⟨g, j * 4 + 3, none⟩ y3) g (c * 4)) := Lib.hid fun w2 k2 y0 y1 y2 y3 =>
            ⟨Below.setCell (Below.setCell (Below.setCell (Below.setCell (Below.trans HBL.out (k2.mono (by omega))) hB _) hB _) hB _) hB _, ((((HST.out.ok k2).set _ _).set _ _).set _ _).set _ _⟩
          clear hmk
          go_wp2_with fail
          (with_reducible refine (HMK.out _).mono ?_)
          rintro e w2 ⟨rfl, o2⟩
          replace hx0 := Ok.cell o2 hx0
          replace hx1 := Ok.cell o2 hx1
          replace hx2 := Ok.cell o2 hx2
          replace hx3 := Ok.cell o2 hx3
          replace hf0 := (Below.frozen o2 (p := ⟨g, j * 4, none⟩) hblk).trans hf0
          replace hf1 := (Below.frozen o2 (p := ⟨g, j * 4 + 1, none⟩) hblk).trans hf1
          replace hf2 := (Below.frozen o2 (p := ⟨g, j * 4 + 2, none⟩) hblk).trans hf2
          replace hf3 := (Below.frozen o2 (p := ⟨g, j * 4 + 3, none⟩) hblk).trans hf3
          have HF2 := Lib.hid (fun y0 y1 y2 y3 => HFIN.out w2 o2 y0 y1 y2 y3)
          clear o2 HFIN
          go_wp2_with fail
          go_roundw
          case rel => exact ⟨j + 1, by omega, by go_num, (HF2.out _ _ _ _).1, (HF2.out _ _ _ _).2⟩
          case measure => simp [intOf]; omega
        · have hje : j = k := by omega
          subst hje
          go_wp2_with fail
          go_end0
          exact ⟨rfl, HBL.out⟩
    · obtain rfl : k = c := by omega
      clear hk
      have d1 : decide ((n : Int) + 12 < (k : Int)) = false := decide_eq_false hcn
      have hc0 : (0 : Int) ≤ (k : Int) := Int.natCast_nonneg _
      go_enter Tryd.func26, Tryd.ntmps26
      go_wp2_with fail
      go_loopw [3] (fun i wr => ∃ j : Nat, j ≤ k ∧ i = .int .i64 j ∧ Below B w wr ∧ RowB wr g (k * 4)) (fun i _ => k - (intOf i).toNat)
      case atStart => exact ⟨0, Nat.zero_le _, rfl, Below.refl _ _, HR.out⟩
      case round =>
        obtain ⟨j, hj, rfl, hbel, hst⟩ := hrel
        have HBL := Lib.hid hbel
        have HST := Lib.hid hst
        clear hbel hst
        by_cases hlt : j < k
        · obtain ⟨hcs, hfs⟩ := HST.out
          obtain ⟨x0, hx0⟩ := hcs (j * 4) (by omega)
          obtain ⟨x1, hx1⟩ := hcs (j * 4 + 1) (by omega)
          obtain ⟨x2, hx2⟩ := hcs (j * 4 + 2) (by omega)
          obtain ⟨x3, hx3⟩ := hcs (j * 4 + 3) (by omega)
          have hf0 := hfs (j * 4) (by omega)
          have hf1 := hfs (j * 4 + 1) (by omega)
          have hf2 := hfs (j * 4 + 2) (by omega)
          have hf3 := hfs (j * 4 + 3) (by omega)
          have hblk : g < wr.heap.size := World.block_lt_of_cell? _ _ hx0
          clear hcs hfs
          have hj0 : (0 : Int) ≤ (j : Int) := Int.natCast_nonneg _
          have hj1 : (j : Int) < (k : Int) := by omega
          have hmk : ∀ w', Calls Tryd.prog 33 #[.int .i64 2, .int .i64 (j : Int)] w' (Ret w' (acV (markA 2 j))) := fun w' => markA_w 2 j (by decide) (by omega) w'
          unfold acV at hmk
          obtain ⟨⟨yl, yh, yg, ye⟩, hy⟩ : ∃ y, markA 2 j = y := ⟨_, rfl⟩
          rw [hy] at hmk
          simp only at hmk
          clear hy
          have HMK := Lib.hid hmk
          have HFIN : Hid (∀ w2, Ok wr w2 → ∀ y0 y1 y2 y3, Below B w ((((w2.setCell ⟨g, j * 4, none⟩ y0).setCell ⟨g, j * 4 + 1, none⟩ y1).setCell ⟨g, j * 4 + 2, none⟩ y2).setCell ⟨g, j * 4 + 3, none⟩ y3) ∧ RowB ((((w2.setCell ⟨g, j * 4, none⟩ y0).setCell ⟨g, j * 4 + 1, none⟩ y1).setCell ⟨g, j * 4 + 2, none⟩ y2).setCell ⟨g, j * 4 + 3, none⟩ y3) g (k * 4)) := Lib.hid fun w2 k2 y0 y1 y2 y3 =>
            ⟨Below.setCell (Below.setCell (Below.setCell (Below.setCell (Below.trans HBL.out (k2.mono (by omega))) hB _) hB _) hB _) hB _, ((((HST.out.ok k2).set _ _).set _ _).set _ _).set _ _⟩
          clear hmk
          go_wp2_with fail
          (with_reducible refine (HMK.out _).mono ?_)
          rintro e w2 ⟨rfl, o2⟩
          replace hx0 := Ok.cell o2 hx0
          replace hx1 := Ok.cell o2 hx1
          replace hx2 := Ok.cell o2 hx2
          replace hx3 := Ok.cell o2 hx3
          replace hf0 := (Below.frozen o2 (p := ⟨g, j * 4, none⟩) hblk).trans hf0
          replace hf1 := (Below.frozen o2 (p := ⟨g, j * 4 + 1, none⟩) hblk).trans hf1
          replace hf2 := (Below.frozen o2 (p := ⟨g, j * 4 + 2, none⟩) hblk).trans hf2
          replace hf3 := (Below.frozen o2 (p := ⟨g, j * 4 + 3, none⟩) hblk).trans hf3
          have HF2 := Lib.hid (fun y0 y1 y2 y3 => HFIN.out w2 o2 y0 y1 y2 y3)
          clear o2 HFIN
          go_wp2_with fail
          go_roundw
          case rel => exact ⟨j + 1, by omega, by go_num, (HF2.out _ _ _ _).1, (HF2.out _ _ _ _).2⟩
          case measure => simp [intOf]; omega
        · have hje : j = k := by omega
          subst hje
          go_wp2_with fail
          go_end0
          exact ⟨rfl, HBL.out⟩

end Go.Proofs.YthbbbjkgfdnkhaaDoor
