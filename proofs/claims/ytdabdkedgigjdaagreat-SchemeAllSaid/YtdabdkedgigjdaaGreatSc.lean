/- Shares: their spans; whether they are right. -/
import Derived.Test.YtdabdkedgigjdaaGreatSb
import Derived.Laws.OwnMore
namespace Go.Proofs.YtdabdkedgigjdaaGreat
open Go.RowKit

def SpanRow (w : World) (ps : List Sp) : Ending → World → Prop := fun e w' => ∃ A c, e = .returned (.slice A ps.length c) ∧ SpansAt w' A ps ∧ Ok w w'
theorem at1_map (xs : List Sh) (j : Nat) (h : j < xs.length) : at1 (xs.map (·.sp)) j = (at2 xs j).sp := by simp [at1, at2, h]

set_option maxRecDepth 100000 in
set_option maxHeartbeats 4000000 in
theorem spans_w (ep : Int) (A : Option Addr) (n c : Nat) (xs : List Sh) (hn : xs.length = n) (hn6 : n ≤ 1000) (w : World) (hI : SharesAt w A xs) :
    Calls Tryz.prog 65 #[.agg #[.int .i64 ep, .slice A n c]] w (SpanRow w (xs.map (·.sp))) := by
  have HI := Lib.hid hI
  have HN := Lib.hid hn
  obtain ⟨i0, hi, hz0, hz1, hz2⟩ := info_parts info23
  have HIF := Lib.hid hi
  have HZ0 := Lib.hid hz0
  have HZ1 := Lib.hid hz1
  have HZ2 := Lib.hid hz2
  clear hi hz0 hz1 hz2 hI hn
  go_enter Tryz.func65, Tryz.ntmps65
  go_wp2_with (at_make; go_must (refine wpList_make_full _ rfl _ _ 94 rfl w.heap.size 26 i0 (.agg #[.string ⟨#[]⟩, .string ⟨#[]⟩]) 2 Tryz.underlying94 HIF.out HZ0.out HZ1.out .i64 .i64 _ _ n rfl rfl rfl rfl (by rw [HZ2.out]; omega) (by unfold maxLen; omega) (by simp) ?_; intro w0 hown0 hgrow0; have hb0 : Ok (w.alloc (.cells #[.int .i64 ep, .slice A n c] 85)) w0 := (Below.refl _ _).grown hgrow0 (Nat.le_refl _) (fun k hk => by cases hk); have B1 : w0.cell? ⟨w.heap.size, 1, none⟩ = some (.slice A n c) := Ok.cell hb0 (by go_cell)))
  rw [show (w.alloc (.cells #[.int .i64 ep, .slice A n c] 85)).heap.size = w.heap.size + 1 from by simp] at hown0
  have HB0 : Hid (Ok w w0) := Lib.hid (Ok.call (Ok.alloc (Ok.refl w) _) hb0)
  have HOWN := Lib.hid hown0
  have hg0 : w.heap.size + 1 < w0.heap.size := (World.ownsRow.lt hown0 _ rfl).2
  have hg1 : w.heap.size ≤ w.heap.size + 1 := Nat.le_succ _
  obtain ⟨g, hg⟩ : ∃ g, w.heap.size + 1 = g := ⟨_, rfl⟩
  rw [hg] at HOWN hg0 hg1 ⊢
  clear hown0 hgrow0 hb0 hg HIF HZ0 HZ1 HZ2
  go_wp2_with fail
  go_loopw [15] (fun i wr => ∃ (k : Nat) (cs : List Value), k ≤ n ∧ i = .int .i64 k ∧ wr.ownsRow w.heap.size 26 2 (.slice (some ⟨g, 0, none⟩) n n) n cs ∧
    (∀ j, j < k → cs[j * 2]? = some (.string (at2 xs j).sp.lo) ∧ cs[j * 2 + 1]? = some (.string (at2 xs j).sp.hi)) ∧ Ok w wr) (fun i _ => n - (intOf i).toNat)
  case atStart => exact ⟨0, _, Nat.zero_le _, rfl, HOWN.out, fun j hj => absurd hj (Nat.not_lt_zero _), HB0.out⟩
  case round =>
    obtain ⟨k, cs, hk, rfl, hown, hcs, okr⟩ := hrel
    have HOW := Lib.hid hown
    have HCS := Lib.hid hcs
    have HOKR := Lib.hid okr
    clear hown hcs okr HOWN
    by_cases hlt : k < n
    · have d1 : decide ((k : Int) < (n : Int)) = true := decide_eq_true (by omega)
      obtain ⟨b, off, rfl, C0, C1, C2, C3⟩ := HI.out.ok HOKR.out k (by rw [HN.out]; exact hlt)
      obtain ⟨x, hx⟩ : ∃ x, at2 xs k = x := ⟨_, rfl⟩
      rw [hx] at C0 C1 C2 C3
      have HX := Lib.hid hx
      clear hx
      obtain ⟨⟨xl, xh⟩, xg, xe⟩ := x
      simp only at C0 C1 C2 C3
      have hi0 : (0 : Int) ≤ (k : Int) := Int.natCast_nonneg _
      have hi1 : (k : Int) < (n : Int) := by omega
      obtain ⟨W, hW⟩ : ∃ W, wr.alloc (.cells #[.string xl, .string xh, .int .i64 xg, .int .i64 xe] 35) = W := ⟨_, rfl⟩
      have howW : W.ownsRow w.heap.size 26 2 (.slice (some ⟨g, 0, none⟩) n n) n cs := by subst hW; exact HOW.out.alloc _
      have X0 : W.cell? ⟨wr.heap.size, 0, none⟩ = some (.string xl) := by subst hW; go_cell
      have X1 : W.cell? ⟨wr.heap.size, 1, none⟩ = some (.string xh) := by subst hW; go_cell
      have hlcs : cs.length = n * 2 := howW.1
      have hst0 := World.ownsRow.stored howW (k * 2) (.string xl)
      have hst1 := World.ownsRow.stored hst0.1 (k * 2 + 1) (.string xh)
      have D0 : W.cell? ⟨g, k * 2, none⟩ = some (cs.getD (k * 2) undef) := by
        rw [World.ownsRow.cellAt howW (k * 2) (by omega), List.getD_eq_getElem?_getD, List.getElem?_eq_getElem (by omega)]; rfl
      have D1 : W.cell? ⟨g, k * 2 + 1, none⟩ = some (cs.getD (k * 2 + 1) undef) := by
        rw [World.ownsRow.cellAt howW (k * 2 + 1) (by omega), List.getD_eq_getElem?_getD, List.getElem?_eq_getElem (by omega)]; rfl
      have F0 := World.ownsRow.frozenAt howW (k * 2)
      have F1 := World.ownsRow.frozenAt howW (k * 2 + 1)
      have HST := Lib.hid hst1.1
      have hokW : Ok w W := by subst hW; exact Ok.alloc HOKR.out _
      have HOK2 : Hid (Ok w ((W.setCell ⟨g, k * 2, none⟩ (.string xl)).setCell ⟨g, k * 2 + 1, none⟩ (.string xh))) := Lib.hid (Ok.set (Ok.set hokW hg1 _) hg1 _)
      have HNX : Hid (∀ j, j < k + 1 → ((cs.set (k * 2) (.string xl)).set (k * 2 + 1) (.string xh))[j * 2]? = some (.string (at2 xs j).sp.lo) ∧ ((cs.set (k * 2) (.string xl)).set (k * 2 + 1) (.string xh))[j * 2 + 1]? = some (.string (at2 xs j).sp.hi)) := Lib.hid fun j hj => by
        by_cases hjk : j < k
        · rw [List.getElem?_set_ne (by omega), List.getElem?_set_ne (by omega), List.getElem?_set_ne (by omega), List.getElem?_set_ne (by omega)]
          exact HCS.out j hjk
        · obtain rfl : j = k := by omega
          rw [HX.out]
          refine ⟨?_, ?_⟩
          · rw [List.getElem?_set_ne (by omega), List.getElem?_set_self (by omega)]
          · rw [List.getElem?_set_self (by rw [List.length_set]; omega)]
      generalize cs.getD (k * 2) undef = u0 at D0
      generalize cs.getD (k * 2 + 1) undef = u1 at D1
      clear hst0 hst1 howW hokW hlcs
      go_wp2
      refine ⟨⟨k + 1, _, hlt, rfl, HST.out, HNX.out, HOK2.out⟩, ?_⟩
      show n - ((k : Int) + 1).toNat < n - (k : Int).toNat
      omega
    · have d1 : decide ((k : Int) < (n : Int)) = false := decide_eq_false (by omega)
      obtain rfl : k = n := by omega
      have HS : Hid (SpansAt wr (some ⟨g, 0, none⟩) (xs.map (·.sp))) := Lib.hid fun j hj => by
        rw [List.length_map] at hj
        have hj2 : j < k := by rw [← HN.out]; exact hj
        refine ⟨g, 0, rfl, ?_, ?_⟩
        · rw [Nat.zero_add, World.ownsRow.cellAt HOW.out (j * 2) (by omega), (HCS.out j hj2).1, at1_map xs j hj]
        · rw [Nat.zero_add, World.ownsRow.cellAt HOW.out (j * 2 + 1) (by omega), (HCS.out j hj2).2, at1_map xs j hj]
      go_wp2
      go_ret
      exact ⟨some ⟨g, 0, none⟩, k, by rw [List.length_map, HN.out]; rfl, HS.out, HOKR.out⟩
end Go.Proofs.YtdabdkedgigjdaaGreat
