/- Shares written over; the values that hold them lent, kept, written over. -/
import Derived.Test.YtdabdkedgigjdaaGreatZm
import Derived.Test.YtdabdkedgigjdaaGreatYf
import Derived.Outline
namespace Go.Proofs.YtdabdkedgigjdaaGreat
open Go.RowKit

theorem SharesAt.set {w : World} {A : Option Addr} {xs : List Sh} (h : SharesAt w A xs) {p : Nat} (hp : ∀ b off, A = some ⟨b, off, none⟩ → b ≠ p) (o : Nat) (v : Value) : SharesAt (w.setCell ⟨p, o, none⟩ v) A xs := fun j hj => by
  obtain ⟨b, off, e, c0, c1, c2, c3⟩ := h j hj
  have hb := hp b off e
  have key : ∀ q, (w.setCell ⟨p, o, none⟩ v).cell? ⟨b, q, none⟩ = w.cell? ⟨b, q, none⟩ := fun q => World.cell?_setCell_other _ _ _ _ (fun h => by cases h; exact hb rfl)
  exact ⟨b, off, e, (key _).trans c0, (key _).trans c1, (key _).trans c2, (key _).trans c3⟩
theorem SharesAt.put2 {w : World} {A : Option Addr} {xs : List Sh} (h : SharesAt w A xs) {p : Nat} (hp : ∀ b off, A = some ⟨b, off, none⟩ → b ≠ p) (a b : Value) : SharesAt (YtdabdkedgigjdaaGreat.put2 w p a b) A xs := (h.set hp 0 a).set hp 1 b
theorem cell_stays {w : World} {p q : Addr} {x y : Value} (h : w.cell? q = some y) : ∃ z, (w.setCell p x).cell? q = some z := by
  by_cases e : q = p
  · subst e; exact ⟨_, World.cell?_setCell_same _ _ _ h⟩
  · exact ⟨_, (World.cell?_setCell_other _ _ _ _ (fun h' => e (by rw [h']))).trans h⟩
/-- A block of cells that may be written: as many, none frozen. -/
def RowB (w : World) (g c : Nat) : Prop := (∀ j, j < c → ∃ x, w.cell? ⟨g, j, none⟩ = some x) ∧ ∀ j, j < c → w.frozen? ⟨g, j, none⟩ = false
theorem RowB.set {w : World} {g c : Nat} (h : RowB w g c) (p : Addr) (x : Value) : RowB (w.setCell p x) g c :=
  ⟨fun j hj => by obtain ⟨y, hy⟩ := h.1 j hj; exact cell_stays hy, fun j hj => by rw [World.frozen?_setCell]; exact h.2 j hj⟩
theorem RowB.ok {w w' : World} {g c : Nat} (h : RowB w g c) (k : Ok w w') : RowB w' g c :=
  ⟨fun j hj => by obtain ⟨y, hy⟩ := h.1 j hj; exact ⟨y, Ok.cell k hy⟩, fun j hj => by
    obtain ⟨y, hy⟩ := h.1 j hj
    rw [Below.frozen k (p := ⟨g, j, none⟩) (World.block_lt_of_cell? _ _ hy)]; exact h.2 j hj⟩
/-- A row of shares that may be written over, from block B on. -/
def RowV (w : World) (B : Nat) (A : Option Addr) (n c : Nat) : Prop := (A = none ∧ n = 0 ∧ c = 0) ∨ ∃ g, A = some ⟨g, 0, none⟩ ∧ B ≤ g ∧ n ≤ c ∧ n ≤ 90000 ∧ c ≤ 9223372036854775807 ∧ RowB w g (c * 4)
theorem RowV.ok {w w' : World} {B : Nat} {A : Option Addr} {n c : Nat} (h : RowV w B A n c) (k : Ok w w') : RowV w' B A n c := by
  rcases h with h | ⟨g, h1, h2, h3, h4, h5, h6⟩
  · exact .inl h
  · exact .inr ⟨g, h1, h2, h3, h4, h5, h6.ok k⟩
theorem OwnSh.row {w : World} {B : Nat} {A : Option Addr} {n c : Nat} {xs : List Sh} (h : OwnSh w B A n c xs) (hl : n ≤ 90000) : RowV w B A n c := by
  obtain ⟨h1, rfl⟩ := h
  rcases h1.2 with ⟨e, h5⟩ | ⟨g, cap, cur, e, hB, hg, h1, h2, h3, h4⟩
  · simp only [Value.slice.injEq] at e
    exact .inl ⟨e.1, h5, e.2.2⟩
  · simp only [Value.slice.injEq] at e
    obtain ⟨rfl, -, rfl⟩ := e
    refine .inr ⟨g, rfl, hB, h1, by omega, by unfold maxLen at h2; omega, fun j hj => ?_, fun j _ => ?_⟩
    · rw [cell_of_row _ _ _ _ _ _ hg]; exact ⟨cur[j]'(by omega), by simp⟩
    · rw [World.frozen?, hg]; simp
def OverP (B : Nat) (w : World) (e : Ending) (w' : World) : Prop := e = .returned (.tuple #[]) ∧ Below B w w'

set_option maxRecDepth 100000 in
set_option maxHeartbeats 4000000 in
theorem overRows_w (A : Option Addr) (n c : Nat) (B : Nat) (w : World) (h : RowV w B A n c) : Calls Tryz.prog 74 #[.slice A n c] w (OverP B w) := by
  rcases h with ⟨rfl, rfl, rfl⟩ | ⟨g, rfl, hB, hnc, hn, hcm, hR⟩
  · go_enter Tryz.func74, Tryz.ntmps74
    go_wp2_with fail
    go_loopw [3] (fun i wr => i = .int .i64 0 ∧ wr = w) (fun _ _ => 0)
    case atStart => exact ⟨rfl, rfl⟩
    case round =>
      obtain ⟨rfl, rfl⟩ := hrel
      go_wp2_with fail
      go_end0
      exact ⟨rfl, Below.refl _ _⟩
  · have HR := Lib.hid hR
    clear hR
    have s1 : wrap64 ((n : Int) + 12) = (n : Int) + 12 := by simp only [wrap64]; omega
    obtain ⟨k, hk, hkc, hkm⟩ : ∃ k : Nat, min (c : Int) ((n : Int) + 12) = (k : Int) ∧ k ≤ c ∧ k ≤ 90012 := ⟨min c (n + 12), by omega, by omega, by omega⟩
    have HK := Lib.hid hk
    by_cases hcn : (n : Int) + 12 < (c : Int)
    · obtain rfl : k = n + 12 := by omega
      clear hk
      have hk : (n : Int) + 12 = ((n + 12 : Nat) : Int) := by omega
      rw [hk] at hcn s1
      generalize n + 12 = k at *
      have d1 : decide ((k : Int) < (c : Int)) = true := decide_eq_true hcn
      have d2 : decide (k < c) = true := decide_eq_true (by omega)
      have hk0 : (0 : Int) ≤ (k : Int) := Int.natCast_nonneg _
      have hki : (k : Int) ≤ (c : Int) := by omega
      go_enter Tryz.func74, Tryz.ntmps74
      go_wp2_with fail
      go_loopw [3] (fun i wr => ∃ j : Nat, j ≤ k ∧ i = .int .i64 j ∧ Below B w wr ∧ RowB wr g (c * 4)) (fun i _ => k - (intOf i).toNat)
      case atStart => exact ⟨0, Nat.zero_le _, rfl, Below.refl _ _, HR.out⟩
      case round =>
        obtain ⟨j, hj, rfl, hbel, hst⟩ := hrel
        have HBL := Lib.hid hbel
        have HST := Lib.hid hst
        clear hbel hst
        by_cases hlt : j < k
        · obtain ⟨hcs, hfs⟩ := HST.out
          obtain ⟨x0, hx0⟩ := hcs (j * 4) (by omega)
          obtain ⟨x1, hx1⟩ := hcs (j * 4 + 1) (by omega)
          obtain ⟨x2, hx2⟩ := hcs (j * 4 + 2) (by omega)
          obtain ⟨x3, hx3⟩ := hcs (j * 4 + 3) (by omega)
          have hf0 := hfs (j * 4) (by omega)
          have hf1 := hfs (j * 4 + 1) (by omega)
          have hf2 := hfs (j * 4 + 2) (by omega)
          have hf3 := hfs (j * 4 + 3) (by omega)
          have hblk : g < wr.heap.size := World.block_lt_of_cell? _ _ hx0
          clear hcs hfs
          have hj0 : (0 : Int) ≤ (j : Int) := Int.natCast_nonneg _
          have hj1 : (j : Int) < (k : Int) := by omega
          have hjc : (j : Int) < (c : Int) := by omega
          have hmk := fun w' => markSh2_w j (by omega) w'
          unfold shV at hmk
          obtain ⟨⟨⟨yl, yh⟩, yg, ye⟩, hy⟩ : ∃ y, markSh2 j = y := ⟨_, rfl⟩
          rw [hy] at hmk
          simp only at hmk
          clear hy
          have HMK := Lib.hid hmk
          have HFIN : Hid (∀ w2, Ok wr w2 → ∀ y0 y1 y2 y3, Below B w ((((w2.setCell ⟨g, j * 4, none⟩ y0).setCell ⟨g, j * 4 + 1, none⟩ y1).setCell ⟨g, j * 4 + 2, none⟩ y2).setCell ⟨g, j * 4 + 3, none⟩ y3) ∧ RowB ((((w2.setCell ⟨g, j * 4, none⟩ y0).setCell ⟨g, j * 4 + 1, none⟩ y1).setCell ⟨g, j * 4 + 2, none⟩ y2).setCell ⟨g, j * 4 + 3, none⟩ y3) g (c * 4)) := Lib.hid fun w2 k2 y0 y1 y2 y3 =>
            ⟨Below.setCell (Below.setCell (Below.setCell (Below.setCell (Below.trans HBL.out (k2.mono (by omega))) hB _) hB _) hB _) hB _, ((((HST.out.ok k2).set _ _).set _ _).set _ _).set _ _⟩
          clear hmk
          go_wp2_with fail
          (with_reducible refine (HMK.out _).mono ?_)
          rintro e w2 ⟨rfl, o2⟩
          replace hx0 := Ok.cell o2 hx0
          replace hx1 := Ok.cell o2 hx1
          replace hx2 := Ok.cell o2 hx2
          replace hx3 := Ok.cell o2 hx3
          replace hf0 := (Below.frozen o2 (p := ⟨g, j * 4, none⟩) hblk).trans hf0
          replace hf1 := (Below.frozen o2 (p := ⟨g, j * 4 + 1, none⟩) hblk).trans hf1
          replace hf2 := (Below.frozen o2 (p := ⟨g, j * 4 + 2, none⟩) hblk).trans hf2
          replace hf3 := (Below.frozen o2 (p := ⟨g, j * 4 + 3, none⟩) hblk).trans hf3
          have HF2 := Lib.hid (fun y0 y1 y2 y3 => HFIN.out w2 o2 y0 y1 y2 y3)
          clear o2 HFIN
          go_wp2_with fail
          go_roundw
          case rel => exact ⟨j + 1, by omega, by go_num, (HF2.out _ _ _ _).1, (HF2.out _ _ _ _).2⟩
          case measure => simp [intOf]; omega
        · have hje : j = k := by omega
          subst hje
          go_wp2_with fail
          go_end0
          exact ⟨rfl, HBL.out⟩
    · obtain rfl : k = c := by omega
      clear hk
      have d1 : decide ((n : Int) + 12 < (k : Int)) = false := decide_eq_false hcn
      have hc0 : (0 : Int) ≤ (k : Int) := Int.natCast_nonneg _
      go_enter Tryz.func74, Tryz.ntmps74
      go_wp2_with fail
      go_loopw [3] (fun i wr => ∃ j : Nat, j ≤ k ∧ i = .int .i64 j ∧ Below B w wr ∧ RowB wr g (k * 4)) (fun i _ => k - (intOf i).toNat)
      case atStart => exact ⟨0, Nat.zero_le _, rfl, Below.refl _ _, HR.out⟩
      case round =>
        obtain ⟨j, hj, rfl, hbel, hst⟩ := hrel
        have HBL := Lib.hid hbel
        have HST := Lib.hid hst
        clear hbel hst
        by_cases hlt : j < k
        · obtain ⟨hcs, hfs⟩ := HST.out
          obtain ⟨x0, hx0⟩ := hcs (j * 4) (by omega)
          obtain ⟨x1, hx1⟩ := hcs (j * 4 + 1) (by omega)
          obtain ⟨x2, hx2⟩ := hcs (j * 4 + 2) (by omega)
          obtain ⟨x3, hx3⟩ := hcs (j * 4 + 3) (by omega)
          have hf0 := hfs (j * 4) (by omega)
          have hf1 := hfs (j * 4 + 1) (by omega)
          have hf2 := hfs (j * 4 + 2) (by omega)
          have hf3 := hfs (j * 4 + 3) (by omega)
          have hblk : g < wr.heap.size := World.block_lt_of_cell? _ _ hx0
          clear hcs hfs
          have hj0 : (0 : Int) ≤ (j : Int) := Int.natCast_nonneg _
          have hj1 : (j : Int) < (k : Int) := by omega
          have hmk := fun w' => markSh2_w j (by omega) w'
          unfold shV at hmk
          obtain ⟨⟨⟨yl, yh⟩, yg, ye⟩, hy⟩ : ∃ y, markSh2 j = y := ⟨_, rfl⟩
          rw [hy] at hmk
          simp only at hmk
          clear hy
          have HMK := Lib.hid hmk
          have HFIN : Hid (∀ w2, Ok wr w2 → ∀ y0 y1 y2 y3, Below B w ((((w2.setCell ⟨g, j * 4, none⟩ y0).setCell ⟨g, j * 4 + 1, none⟩ y1).setCell ⟨g, j * 4 + 2, none⟩ y2).setCell ⟨g, j * 4 + 3, none⟩ y3) ∧ RowB ((((w2.setCell ⟨g, j * 4, none⟩ y0).setCell ⟨g, j * 4 + 1, none⟩ y1).setCell ⟨g, j * 4 + 2, none⟩ y2).setCell ⟨g, j * 4 + 3, none⟩ y3) g (k * 4)) := Lib.hid fun w2 k2 y0 y1 y2 y3 =>
            ⟨Below.setCell (Below.setCell (Below.setCell (Below.setCell (Below.trans HBL.out (k2.mono (by omega))) hB _) hB _) hB _) hB _, ((((HST.out.ok k2).set _ _).set _ _).set _ _).set _ _⟩
          clear hmk
          go_wp2_with fail
          (with_reducible refine (HMK.out _).mono ?_)
          rintro e w2 ⟨rfl, o2⟩
          replace hx0 := Ok.cell o2 hx0
          replace hx1 := Ok.cell o2 hx1
          replace hx2 := Ok.cell o2 hx2
          replace hx3 := Ok.cell o2 hx3
          replace hf0 := (Below.frozen o2 (p := ⟨g, j * 4, none⟩) hblk).trans hf0
          replace hf1 := (Below.frozen o2 (p := ⟨g, j * 4 + 1, none⟩) hblk).trans hf1
          replace hf2 := (Below.frozen o2 (p := ⟨g, j * 4 + 2, none⟩) hblk).trans hf2
          replace hf3 := (Below.frozen o2 (p := ⟨g, j * 4 + 3, none⟩) hblk).trans hf3
          have HF2 := Lib.hid (fun y0 y1 y2 y3 => HFIN.out w2 o2 y0 y1 y2 y3)
          clear o2 HFIN
          go_wp2_with fail
          go_roundw
          case rel => exact ⟨j + 1, by omega, by go_num, (HF2.out _ _ _ _).1, (HF2.out _ _ _ _).2⟩
          case measure => simp [intOf]; omega
        · have hje : j = k := by omega
          subst hje
          go_wp2_with fail
          go_end0
          exact ⟨rfl, HBL.out⟩

/-- What LentShares leaves. -/
def LentP (w : World) (ep : Int) (zs : List Sh) : Ending → World → Prop := fun e w' => ∃ g cap, e = .returned (.agg #[.int .i64 ep, .slice (some ⟨g, 0, none⟩) zs.length cap]) ∧ zs.length + 12 ≤ cap ∧ w.heap.size ≤ g ∧ g < w'.heap.size ∧ Ok w w' ∧ SharesAt w' (some ⟨g, 0, none⟩) (zs ++ marksSh 12)
set_option maxRecDepth 100000 in
set_option maxHeartbeats 2000000 in
theorem lentShares_w (ep : Int) (A : Option Addr) (n c : Nat) (zs : List Sh) (hn : zs.length = n) (hn6 : n ≤ 10000) (w : World) (hI : SharesAt w A zs) (hA0 : A = none → c = 0) :
    Calls Tryz.prog 10 #[.agg #[.int .i64 ep, .slice A n c]] w (LentP w ep zs) := by
  have HR := Lib.hid (fun w' (k : Ok w w') => lentRows_w A n c zs hn hn6 w' (hI.ok k) hA0)
  have HN := Lib.hid hn
  clear hI hA0 hn
  obtain ⟨p, hp⟩ : ∃ p, w.heap.size = p := ⟨_, rfl⟩
  go_enter Tryz.func10, Tryz.ntmps10
  go_wp2_with fail
  generalize hW : (w.alloc (.cells #[.int .i64 ep, .slice A n c] 24)).alloc (.cells #[.int .i64 0, .slice none 0 0] 24) = W
  have S0 : W.cell? ⟨p, 0, none⟩ = some (.int .i64 ep) := by subst hW; subst hp; go_cell
  have S1 : W.cell? ⟨p, 1, none⟩ = some (.slice A n c) := by subst hW; subst hp; go_cell
  have T0 : W.cell? ⟨p + 1, 0, none⟩ = some (.int .i64 0) := by subst hW; subst hp; go_cell
  have T1 : W.cell? ⟨p + 1, 1, none⟩ = some (.slice none 0 0) := by subst hW; subst hp; go_cell
  have f1 : W.frozen? ⟨p, 1, none⟩ = false := by subst hW; subst hp; go_cell
  have t0 : W.frozen? ⟨p + 1, 0, none⟩ = false := by subst hW; subst hp; go_cell
  have t1 : W.frozen? ⟨p + 1, 1, none⟩ = false := by subst hW; subst hp; go_cell
  have okW : Ok w W := by subst hW; exact Ok.alloc (Ok.alloc (Ok.refl w) _) _
  have hpz : p + 1 < W.heap.size := by subst hW; subst hp; simp
  clear hW
  (with_reducible refine (HR.out W okW).mono ?_)
  rintro _ w1 ⟨g, cap, rfl, hcap, hg, hg1, o1, hat⟩
  replace S0 := Ok.cell o1 S0
  replace S1 := Ok.cell o1 S1
  replace T0 := Ok.cell o1 T0
  replace T1 := Ok.cell o1 T1
  replace f1 := (Below.frozen o1 (p := ⟨p, 1, none⟩) (by show p < _; omega)).trans f1
  replace t0 := (Below.frozen o1 (p := ⟨p + 1, 0, none⟩) hpz).trans t0
  replace t1 := (Below.frozen o1 (p := ⟨p + 1, 1, none⟩) hpz).trans t1
  have n1 : p ≠ p + 1 := by omega
  have n2 : p + 1 ≠ p := by omega
  have hgp : g ≠ p := by omega
  have hgq : g ≠ p + 1 := by omega
  have T' := two_put2 (p := p + 1) (a := .int .i64 ep) (b := .slice (some ⟨g, 0, none⟩) zs.length cap) (other (p := p) (i := 1) (v := .slice (some ⟨g, 0, none⟩) zs.length cap) n2 T0) (other (p := p) (i := 1) (v := .slice (some ⟨g, 0, none⟩) zs.length cap) n2 T1)
  have okF : Ok w (put2 (w1.setCell ⟨p, 1, none⟩ (.slice (some ⟨g, 0, none⟩) zs.length cap)) (p + 1) (.int .i64 ep) (.slice (some ⟨g, 0, none⟩) zs.length cap)) := Ok.put2 (Ok.set (Ok.call okW o1) (by show _ ≤ p; omega) _) (by omega)
  have hatF : SharesAt (put2 (w1.setCell ⟨p, 1, none⟩ (.slice (some ⟨g, 0, none⟩) zs.length cap)) (p + 1) (.int .i64 ep) (.slice (some ⟨g, 0, none⟩) zs.length cap)) (some ⟨g, 0, none⟩) (zs ++ marksSh 12) := by
    have k1 : ∀ q, q ≠ g → ∀ (b off : Nat), (some ⟨g, 0, none⟩ : Option Addr) = some ⟨b, off, none⟩ → b ≠ q := fun q hq b off e => by
      simp only [Option.some.injEq, Addr.mk.injEq] at e; omega
    exact (hat.set (k1 p (fun e => hgp e.symm)) 1 _).put2 (k1 (p + 1) (fun e => hgq e.symm)) _ _
  have hsz : g < (put2 (w1.setCell ⟨p, 1, none⟩ (.slice (some ⟨g, 0, none⟩) zs.length cap)) (p + 1) (.int .i64 ep) (.slice (some ⟨g, 0, none⟩) zs.length cap)).heap.size := by
    unfold put2; simp; exact hg1
  have HFIN : Hid (∀ e, e = .returned (.agg #[.int .i64 ep, .slice (some ⟨g, 0, none⟩) zs.length cap]) → LentP w ep zs e (put2 (w1.setCell ⟨p, 1, none⟩ (.slice (some ⟨g, 0, none⟩) zs.length cap)) (p + 1) (.int .i64 ep) (.slice (some ⟨g, 0, none⟩) zs.length cap))) := Lib.hid fun e he => ⟨g, cap, he, hcap, by have := okW.size; omega, hsz, okF, hatF⟩
  have HT := Lib.hid T'
  clear T' hcap hg hg1 o1 hat okF hatF hsz okW
  go_wp2_with fail
  (try simp only [Exit.inBlock, Exit.then])
  change bodyPost Tryz.prog _ _ Exit.ret _ (put2 (w1.setCell ⟨p, 1, none⟩ (.slice (some ⟨g, 0, none⟩) zs.length cap)) (p + 1) (.int .i64 ep) (.slice (some ⟨g, 0, none⟩) zs.length cap))
  have hT := HT.out
  generalize put2 (w1.setCell ⟨p, 1, none⟩ (.slice (some ⟨g, 0, none⟩) zs.length cap)) (p + 1) (.int .i64 ep) (.slice (some ⟨g, 0, none⟩) zs.length cap) = Z at hT HFIN ⊢
  obtain ⟨hT0, hT1⟩ := hT
  refine bodyPost_ret (by simp [results, Tryz.results10, hT0, hT1, go_sem]; try rfl) rfl ?_
  exact HFIN.out _ rfl

set_option maxRecDepth 100000 in
set_option maxHeartbeats 2000000 in
theorem keptShares_w (ep : Int) (g cap : Nat) (A : Option Addr) (n c : Nat) (zs : List Sh) (hn : zs.length = n) (hn6 : n ≤ 10000) (w : World) (hcap : n + 12 ≤ cap)
    (hG : SharesAt w (some ⟨g, 0, none⟩) (zs ++ marksSh 12)) (hI : SharesAt w A zs) :
    Calls Tryz.prog 26 #[.agg #[.int .i64 ep, .slice (some ⟨g, 0, none⟩) n cap], .agg #[.int .i64 ep, .slice A n c]] w (Ret w (.bool true)) := by
  have hG0 : SharesAt w (some ⟨g, 0, none⟩) zs := fun j hj => by
    have := hG j (by rw [List.length_append]; omega)
    rwa [lentSh_at0 zs j hj] at this
  have HS := Lib.hid (fun w' (k : Ok w w') => sameShares_w ep (some ⟨g, 0, none⟩) A n cap c zs hn (by omega) w' (hG0.ok k) (hI.ok k))
  have HK := Lib.hid (fun w' (k : Ok w w') => keptRows_w g cap A n c zs hn hn6 w' hcap (hG.ok k) (hI.ok k))
  clear hG hG0 hI
  obtain ⟨p, hp⟩ : ∃ p, w.heap.size = p := ⟨_, rfl⟩
  go_enter Tryz.func26, Tryz.ntmps26
  go_wp2_with fail
  generalize hW : (w.alloc (.cells #[.int .i64 ep, .slice (some ⟨g, 0, none⟩) n cap] 24)).alloc (.cells #[.int .i64 ep, .slice A n c] 24) = W
  have S0 : W.cell? ⟨p, 0, none⟩ = some (.int .i64 ep) := by subst hW; subst hp; go_cell
  have S1 : W.cell? ⟨p, 1, none⟩ = some (.slice (some ⟨g, 0, none⟩) n cap) := by subst hW; subst hp; go_cell
  have T0 : W.cell? ⟨p + 1, 0, none⟩ = some (.int .i64 ep) := by subst hW; subst hp; go_cell
  have T1 : W.cell? ⟨p + 1, 1, none⟩ = some (.slice A n c) := by subst hW; subst hp; go_cell
  have okW : Hid (Ok w W) := Lib.hid (by subst hW; exact Ok.alloc (Ok.alloc (Ok.refl w) _) _)
  clear hW hp
  (with_reducible refine (HS.out W okW.out).mono ?_)
  rintro _ w1 ⟨rfl, o1⟩
  replace S1 := Ok.cell o1 S1
  replace T1 := Ok.cell o1 T1
  replace okW := Lib.hid (Ok.call okW.out o1)
  clear o1 S0 T0
  go_wp2_with fail
  (with_reducible refine (HK.out w1 okW.out).mono ?_)
  rintro _ w2 ⟨rfl, o2⟩
  go_wp2
  go_ret
  exact ⟨rfl, Ok.call okW.out o2⟩

set_option maxRecDepth 100000 in
set_option maxHeartbeats 2000000 in
theorem overShares_w (ep : Int) (A : Option Addr) (n c : Nat) (B : Nat) (w : World) (hB : B ≤ w.heap.size) (h : RowV w B A n c) : Calls Tryz.prog 25 #[.agg #[.int .i64 ep, .slice A n c]] w (OverP B w) := by
  have HR := Lib.hid (fun w' (k : Ok w w') => overRows_w A n c B w' (h.ok k))
  clear h
  go_enter Tryz.func25, Tryz.ntmps25
  go_wp2_with fail
  have okW : Ok w (w.alloc (.cells #[.int .i64 ep, .slice A n c] 24)) := Ok.alloc (Ok.refl w) _
  (with_reducible refine (HR.out _ okW).mono ?_)
  rintro _ w1 ⟨rfl, o1⟩
  have HF : Hid (Below B w w1) := Lib.hid (Below.trans (Below.mono okW hB) o1)
  clear o1 okW
  go_wp2_with fail
  go_end0
  exact ⟨rfl, HF.out⟩
end Go.Proofs.YtdabdkedgigjdaaGreat
