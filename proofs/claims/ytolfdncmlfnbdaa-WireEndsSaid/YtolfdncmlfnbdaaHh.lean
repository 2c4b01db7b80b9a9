/- Lent bytes written over. -/
import Derived.Test.YtolfdncmlfnbdaaHc
import Derived.Test.YtolfdncmlfnbdaaXf
namespace Go.Proofs.Ytolfdncmlfnbdaa
open Go.RowKit

/-- A row of bytes that may be written over. -/
def Open (w : World) (g c : Nat) : Prop := ∃ cur, w.heap[g]? = some (.cells cur 5 (0, 0)) ∧ cur.size = c
theorem Open.set {w : World} {g c : Nat} (h : Open w g c) (j : Nat) (v : Value) : Open (w.setCell ⟨g, j, none⟩ v) g c := by
  obtain ⟨cur, h1, h2⟩ := h
  refine ⟨cur.setIfInBounds j v, ?_, by simp [h2]⟩
  simp [World.setCell, Array.getElem?_modify, h1]
theorem Open.cells {w : World} {g c : Nat} (h : Open w g c) (j : Nat) (hj : j < c) : (∃ x, w.cell? ⟨g, j, none⟩ = some x) ∧ w.frozen? ⟨g, j, none⟩ = false := by
  obtain ⟨cur, h1, h2⟩ := h
  refine ⟨?_, ?_⟩
  · rw [cell_of_heap h1]
    exact ⟨cur[j]'(by omega), by simp [h2, hj]⟩
  · rw [World.frozen?, h1]; simp
theorem OwnN.open {w : World} {B g n c : Nat} {xs : List B8} (h : OwnN w B (.slice (some ⟨g, 0, none⟩) n c) xs) : Open w g c := by
  rcases h.2 with ⟨e, _⟩ | ⟨g', cap, cur, e, r1, r2, r3, r4, r5, r6⟩
  · cases e
  · simp only [Value.slice.injEq, Option.some.injEq, Addr.mk.injEq, and_true] at e
    obtain ⟨rfl, -, rfl⟩ := e
    exact ⟨cur, r2, by omega⟩
def OverP (g : Nat) (w : World) (e : Ending) (w' : World) : Prop := e = .returned (.tuple #[]) ∧ Only g w w'
set_option maxRecDepth 100000 in
set_option maxHeartbeats 4000000 in
theorem overBytes_w (g n c : Nat) (w : World) (hn : n ≤ 1000000) (hc : n + 12 ≤ c) (hcm : c ≤ 9223372036854775807) (hO : Open w g c) : Calls Try.prog 25 #[.slice (some ⟨g, 0, none⟩) n c] w (OverP g w) := by
  have HR := Lib.hid hO
  clear hO
  have s1 : wrap64 ((n : Int) + 12) = (n : Int) + 12 := by simp only [wrap64]; omega
  by_cases hcn : (n : Int) + 12 < (c : Int)
  · obtain ⟨k, hk⟩ : ∃ k : Nat, (n : Int) + 12 = (k : Int) := ⟨n + 12, by omega⟩
    rw [hk] at hcn s1
    have d1 : decide ((k : Int) < (c : Int)) = true := decide_eq_true hcn
    have d2 : decide (k < c) = true := decide_eq_true (by omega)
    have hk0 : (0 : Int) ≤ (k : Int) := Int.natCast_nonneg _
    have hki : (k : Int) ≤ (c : Int) := by omega
    have hkn : k ≤ 1000012 := by omega
    clear hc
    go_enter Try.func25, Try.ntmps25
    go_wp2_with fail
    go_loopw [3] (fun i wr => ∃ j : Nat, j ≤ k ∧ i = .int .i64 j ∧ Only g w wr ∧ Open wr g c) (fun i _ => k - (intOf i).toNat)
    case atStart => exact ⟨0, Nat.zero_le _, rfl, Only.refl _ _, HR.out⟩
    case round =>
      obtain ⟨j, hj, rfl, hbel, hop⟩ := hrel
      have HBL := Lib.hid hbel
      have HOP := Lib.hid hop
      clear hbel hop
      by_cases hlt : j < k
      · obtain ⟨⟨x, hx⟩, hf⟩ := HOP.out.cells j (by omega)
        have hj0 : (0 : Int) ≤ (j : Int) := Int.natCast_nonneg _
        have hj1 : (j : Int) < (k : Int) := by omega
        have hmk := fun w' => markByte_w 2 j (by omega) (by omega) w'
        have HFIN : Hid (∀ y, Only g w (wr.setCell ⟨g, j, none⟩ y) ∧ Open (wr.setCell ⟨g, j, none⟩ y) g c) := Lib.hid fun y => ⟨HBL.out.set _ _, HOP.out.set _ _⟩
        go_wp2_with fail
        refine (hmk _).mono ?_
        rintro e w2 ⟨rfl, rfl⟩
        go_wp2_with fail
        go_roundw
        case rel => exact ⟨j + 1, by omega, by go_num, (HFIN.out _).1, (HFIN.out _).2⟩
        case measure => simp [intOf]; omega
      · have hje : j = k := by omega
        subst hje
        go_wp2_with fail
        go_end0
        exact ⟨rfl, HBL.out⟩
  · have d1 : decide ((n : Int) + 12 < (c : Int)) = false := decide_eq_false hcn
    have hc0 : (0 : Int) ≤ (c : Int) := Int.natCast_nonneg _
    have hkn : c ≤ 1000012 := by omega
    go_enter Try.func25, Try.ntmps25
    go_wp2_with fail
    go_loopw [3] (fun i wr => ∃ j : Nat, j ≤ c ∧ i = .int .i64 j ∧ Only g w wr ∧ Open wr g c) (fun i _ => c - (intOf i).toNat)
    case atStart => exact ⟨0, Nat.zero_le _, rfl, Only.refl _ _, HR.out⟩
    case round =>
      obtain ⟨j, hj, rfl, hbel, hop⟩ := hrel
      have HBL := Lib.hid hbel
      have HOP := Lib.hid hop
      clear hbel hop
      by_cases hlt : j < c
      · obtain ⟨⟨x, hx⟩, hf⟩ := HOP.out.cells j (by omega)
        have hj0 : (0 : Int) ≤ (j : Int) := Int.natCast_nonneg _
        have hj1 : (j : Int) < (c : Int) := by omega
        have hmk := fun w' => markByte_w 2 j (by omega) (by omega) w'
        have HFIN : Hid (∀ y, Only g w (wr.setCell ⟨g, j, none⟩ y) ∧ Open (wr.setCell ⟨g, j, none⟩ y) g c) := Lib.hid fun y => ⟨HBL.out.set _ _, HOP.out.set _ _⟩
        go_wp2_with fail
        refine (hmk _).mono ?_
        rintro e w2 ⟨rfl, rfl⟩
        go_wp2_with fail
        go_roundw
        case rel => exact ⟨j + 1, by omega, by go_num, (HFIN.out _).1, (HFIN.out _).2⟩
        case measure => simp [intOf]; omega
      · have hje : j = c := by omega
        subst hje
        go_wp2_with fail
        go_end0
        exact ⟨rfl, HBL.out⟩
end Go.Proofs.Ytolfdncmlfnbdaa
