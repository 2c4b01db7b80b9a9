/- How great shares are; the guard of scheme. -/
import Derived.Test.YtdabdkedgigjdaaGreatSk
namespace Go.Proofs.YtdabdkedgigjdaaGreat
open Go.RowKit

def Short (xs : List Sh) : Prop := ∀ j, j < xs.length → (at2 xs j).sp.lo.size ≤ maxLen ∧ (at2 xs j).sp.hi.size ≤ maxLen
def OfPost (w : World) (n : Nat) : Ending → World → Prop := fun e w' => (∃ r : Int, e = .returned (.int .i64 r) ∧ (r ≤ 400 → n ≤ 400)) ∧ Ok w w'
theorem OfPost.mk {w w' : World} {n : Nat} {e : Ending} (r : Int) (he : e = .returned (.int .i64 r)) (h : r ≤ 400 → n ≤ 400) (ho : Ok w w') : OfPost w n e w' := ⟨⟨r, he, h⟩, ho⟩

set_option maxRecDepth 100000 in
set_option maxHeartbeats 4000000 in
theorem sharesOf_w (ep : Int) (A : Option Addr) (n c : Nat) (xs : List Sh) (hn : xs.length = n) (hs : Short xs) (w : World) (hI : SharesAt w A xs) :
    Calls Tryz.prog 76 #[.agg #[.int .i64 ep, .slice A n c], .int .i64 400] w (OfPost w n) := by
  have HI := Lib.hid hI
  have HN := Lib.hid hn
  have HS := Lib.hid hs
  clear hI hn hs
  go_enter Tryz.func76, Tryz.ntmps76
  have oW : Ok w (w.alloc (.cells #[.int .i64 ep, .slice A n c] 24)) := Ok.alloc (Ok.refl w) _
  have B1 : (w.alloc (.cells #[.int .i64 ep, .slice A n c] 24)).cell? ⟨w.heap.size, 1, none⟩ = some (.slice A n c) := by go_cell
  go_wp2_with fail
  generalize w.alloc (.cells #[.int .i64 ep, .slice A n c] 24) = W at oW B1 ⊢
  go_loopw [5, 6] (fun s i wr => ∃ (k : Nat) (r : Int), k ≤ n ∧ s = .int .i64 r ∧ i = .int .i64 k ∧ (k : Int) + 1 ≤ r ∧ r ≤ 4611686018427387904 ∧ Ok W wr) (fun _ i _ => n - (intOf i).toNat)
  case atStart => exact ⟨0, 1, Nat.zero_le _, rfl, rfl, by omega, by omega, Ok.refl _⟩
  case round =>
    obtain ⟨k, r, hk, rfl, rfl, hr, hr2, okr⟩ := hrel
    have OKR := Lib.hid okr
    have HOKR := Lib.hid (Ok.call oW okr)
    have B1 := Ok.cell okr B1
    clear okr
    by_cases hlt : k < n
    · have d1 : decide ((k : Int) < (n : Int)) = true := decide_eq_true (by omega)
      by_cases hm : r ≤ 400
      · have d2 : decide (r ≤ 400) = true := decide_eq_true hm
        obtain ⟨s0, s1⟩ := HS.out k (by rw [HN.out]; exact hlt)
        obtain ⟨b, off, rfl, C0, C1, _, _⟩ := HI.out.ok HOKR.out k (by rw [HN.out]; exact hlt)
        generalize at2 xs k = x at C0 C1 s0 s1
        obtain ⟨⟨xl, xh⟩, xg, xe⟩ := x
        simp only at C0 C1 s0 s1
        unfold maxLen at s0 s1
        have hi0 : (0 : Int) ≤ (k : Int) := Int.natCast_nonneg _
        have hi1 : (k : Int) < (n : Int) := by omega
        go_wp2_with fail
        go_quiet (fail)
        go_wp2
        have q1 : (0 : Int) ≤ (xl.size : Int) / 8 := by omega
        have q2 : (0 : Int) ≤ (xh.size : Int) / 8 := by omega
        have q3 : (xl.size : Int) / 8 ≤ 1152921504606846976 := by omega
        have q4 : (xh.size : Int) / 8 ≤ 1152921504606846976 := by omega
        refine ⟨⟨k + 1, _, hlt, rfl, rfl, ?_, ?_, Below.trans OKR.out ⟨rfl, rfl, rfl, Nat.le_refl _, fun _ _ => rfl⟩⟩, ?_⟩
        · push_cast; omega
        · omega
        · show n - ((k : Int) + 1).toNat < n - (k : Int).toNat
          omega
      · have d2 : decide (r ≤ 400) = false := decide_eq_false hm
        go_wp2
        go_ret
        exact OfPost.mk r rfl (fun h => by omega) HOKR.out
    · have d1 : decide ((k : Int) < (n : Int)) = false := decide_eq_false (by omega)
      go_wp2
      go_ret
      exact OfPost.mk r rfl (fun h => by omega) HOKR.out
/-- Great, of shares and one span. -/
def GrP (w : World) (n : Nat) : Ending → World → Prop := fun e w' => (∃ r, e = .returned (.bool r) ∧ (r = false → n ≤ 400)) ∧ Ok w w'
theorem GrP.mk {w w' : World} {n : Nat} {e : Ending} (r : Bool) (he : e = .returned (.bool r)) (h : r = false → n ≤ 400) (ho : Ok w w') : GrP w n e w' := ⟨⟨r, he, h⟩, ho⟩
set_option maxRecDepth 100000 in
set_option maxHeartbeats 4000000 in
theorem great20_w (ep : Int) (A : Option Addr) (n c g : Nat) (xs : List Sh) (sp : Sp) (hn : xs.length = n) (hs : Short xs) (hl : sp.lo.size ≤ maxLen) (hh : sp.hi.size ≤ maxLen) (w : World) (hI : SharesAt w A xs)
    (h0 : w.cell? ⟨g, 0, none⟩ = some (.string sp.lo)) (h1 : w.cell? ⟨g, 1, none⟩ = some (.string sp.hi)) :
    Calls Tryz.prog 28 #[.agg #[.int .i64 ep, .slice A n c], .slice (some ⟨g, 0, none⟩) 1 1] w (GrP w n) := by
  have HO := Lib.hid (fun w' (k : Ok w w') => sharesOf_w ep A n c xs hn hs w' (hI.ok k))
  clear hI hn hs
  obtain ⟨lo, hi⟩ := sp
  simp only at hl hh h0 h1
  unfold maxLen at hl hh
  go_enter Tryz.func28, Tryz.ntmps28
  have oW : Ok w (w.alloc (.cells #[.int .i64 ep, .slice A n c] 24)) := Ok.alloc (Ok.refl w) _
  have B0 : (w.alloc (.cells #[.int .i64 ep, .slice A n c] 24)).cell? ⟨w.heap.size, 0, none⟩ = some (.int .i64 ep) := by go_cell
  have B1 : (w.alloc (.cells #[.int .i64 ep, .slice A n c] 24)).cell? ⟨w.heap.size, 1, none⟩ = some (.slice A n c) := by go_cell
  have C0 := Ok.cell oW h0
  have C1 := Ok.cell oW h1
  go_wp2_with fail
  generalize w.alloc (.cells #[.int .i64 ep, .slice A n c] 24) = W at oW B0 B1 C0 C1 ⊢
  go_loopw [5] (fun i wr => ∃ k : Nat, k ≤ 1 ∧ i = .int .i64 k ∧ Ok W wr) (fun i _ => 1 - (intOf i).toNat)
  case atStart => exact ⟨0, Nat.zero_le _, rfl, Ok.refl _⟩
  case round =>
    obtain ⟨k, hk, rfl, okr⟩ := hrel
    have OKR := Lib.hid okr
    have HOKR := Lib.hid (Ok.call oW okr)
    replace B0 := Ok.cell okr B0
    replace B1 := Ok.cell okr B1
    replace C0 := Ok.cell okr C0
    replace C1 := Ok.cell okr C1
    clear okr
    by_cases hlt : k = 0
    · subst hlt
      go_wp2_with fail
      go_quiet (fail)
      go_wp2
      · go_ret
        exact GrP.mk true rfl (fun h => by cases h) (Below.trans HOKR.out ⟨rfl, rfl, rfl, Nat.le_refl _, fun _ _ => rfl⟩)
      · refine ⟨⟨1, Nat.le_refl _, rfl, Below.trans OKR.out ⟨rfl, rfl, rfl, Nat.le_refl _, fun _ _ => rfl⟩⟩, ?_⟩
        decide
    · obtain rfl : k = 1 := by omega
      go_wp2_with fail
      refine (HO.out _ HOKR.out).mono ?_
      rintro _ w3 ⟨⟨r, rfl, hr⟩, o3⟩
      have HR := Lib.hid hr
      clear hr
      by_cases h4 : r ≤ 400
      · have d4 : decide (400 < r) = false := decide_eq_false (by omega)
        go_wp2
        go_ret
        exact GrP.mk false rfl (fun _ => HR.out h4) (Ok.call HOKR.out o3)
      · have d4 : decide (400 < r) = true := decide_eq_true (by omega)
        go_wp2
        go_ret
        exact GrP.mk true rfl (fun h => by cases h) (Ok.call HOKR.out o3)
end Go.Proofs.YtdabdkedgigjdaaGreat
