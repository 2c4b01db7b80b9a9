/- A share, cut. -/
import Derived.Test.YtdabdkedgigjdaaGreatSg
namespace Go.Proofs.YtdabdkedgigjdaaGreat
open Go.RowKit

def eqS (s t : Sp) : Bool := (s.lo.toList == t.lo.toList) && (s.hi.toList == t.hi.toList)
/-- A piece of a share: as it was, or the group's. -/
def pieceM (x : Sh) (i : Sp) (g ep : Int) (s : Sp) : Sh := if eqS s i = true then ⟨s, g, ep⟩ else ⟨s, x.g, x.e⟩
def cutShM (x : Sh) (i : Sp) (g ep : Int) : List Sh := (cutM x.sp (sortS [i.lo, i.hi])).map (pieceM x i g ep)
theorem two_new (w : World) (a b : Str) : Strs (w.alloc (.cells #[.string a, .string b] 9)).heap.size (w.alloc (.cells #[.string a, .string b] 9)) (.slice (some ⟨w.heap.size, 0, none⟩) 2 2) [a, b] := by
  refine .inr ⟨w.heap.size, 0, 2, rfl, by simp, fun j hj => ?_⟩
  match j, hj with
  | 0, _ => rw [show at0 [a, b] 0 = a from rfl]; go_cell
  | 1, _ => rw [show at0 [a, b] 1 = b from rfl]; go_cell
theorem one_sh (w : World) (x : Sh) : ShIn (w.alloc (.cells #[.string x.sp.lo, .string x.sp.hi, .int .i64 x.g, .int .i64 x.e] 35)) ⟨w.heap.size, 0, none⟩ [x] :=
  World.news_of_block (cs := #[.string x.sp.lo, .string x.sp.hi, .int .i64 x.g, .int .i64 x.e]) (t := 35) (fr := (0, 0)) (heap_alloc_new w _)

set_option maxRecDepth 100000 in
set_option maxHeartbeats 8000000 in
theorem cutSh_w (x : Sh) (i : Sp) (g ep : Int) (w : World) : Calls Tryz.prog 55 #[shV x, spV i, .int .i64 g, .int .i64 ep] w (SharesPost w (cutShM x i g ep)) := by
  have hcut := cut_w x.sp
  have HP := Lib.hid (fun s => show pieceM x i g ep s = if eqS s i = true then ⟨s, g, ep⟩ else ⟨s, x.g, x.e⟩ from rfl)
  have hl := cutSt_len x.sp (sortS [i.lo, i.hi])
  have hl2 : (cutM x.sp (sortS [i.lo, i.hi])).length ≤ 3 := by
    rw [sortS_len] at hl
    simp only [List.length_cons, List.length_nil] at hl
    unfold cutM
    split
    · rw [List.length_append]; simp only [List.length_cons, List.length_nil]; omega
    · simp
  obtain ⟨R, hR⟩ : ∃ R, cutShM x i g ep = R := ⟨_, rfl⟩
  rw [hR]
  have er : Hid ((cutM x.sp (sortS [i.lo, i.hi])).map (pieceM x i g ep) = R) := Lib.hid hR
  clear hR hl
  have hcut := fun A m c => hcut A m c [i.lo, i.hi] (by simp)
  generalize pieceM x i g ep = f at HP er
  generalize cutM x.sp (sortS [i.lo, i.hi]) = ps at hcut er hl2
  have HCUT := Lib.hid hcut
  clear hcut
  obtain ⟨⟨xl, xh⟩, xg, xe⟩ := x
  obtain ⟨il, ih⟩ := i
  unfold spV at HCUT ⊢
  unfold shV
  simp only at HCUT HP ⊢
  go_enter Tryz.func55, Tryz.ntmps55
  go_wp2_with fail
  generalize hW : (w.alloc (.cells #[.string xl, .string xh, .int .i64 xg, .int .i64 xe] 35)).alloc (.cells #[.string il, .string ih] 26) = W
  have oW : Ok w W := by subst hW; exact Ok.alloc (Ok.alloc (Ok.refl w) _) _
  have X2 : W.cell? ⟨w.heap.size, 2, none⟩ = some (.int .i64 xg) := by subst hW; go_cell
  have X3 : W.cell? ⟨w.heap.size, 3, none⟩ = some (.int .i64 xe) := by subst hW; go_cell
  have I0 : W.cell? ⟨w.heap.size + 1, 0, none⟩ = some (.string il) := by subst hW; go_cell
  have I1 : W.cell? ⟨w.heap.size + 1, 1, none⟩ = some (.string ih) := by subst hW; go_cell
  have hsz : W.heap.size = w.heap.size + 1 + 1 := by subst hW; simp
  have hst := two_new W il ih
  rw [hsz] at hst
  clear hW hsz
  refine (HCUT.out _ 2 2 _ hst).mono ?_
  rintro _ w1 ⟨A, c, rfl, hown, o1⟩
  have HAT := Lib.hid hown.at
  have X2 := Ok.cell (Ok.call (Ok.alloc (Ok.refl W) _) o1) X2
  have X3 := Ok.cell (Ok.call (Ok.alloc (Ok.refl W) _) o1) X3
  have I0 := Ok.cell (Ok.call (Ok.alloc (Ok.refl W) _) o1) I0
  have I1 := Ok.cell (Ok.call (Ok.alloc (Ok.refl W) _) o1) I1
  have ok1 := Lib.hid (Ok.call (Ok.call oW (Ok.alloc (Ok.refl W) _)) o1)
  clear hst hown o1 oW HCUT
  obtain ⟨np, hnp⟩ : ∃ n, ps.length = n := ⟨_, rfl⟩
  rw [hnp] at hl2 ⊢
  have HNP := Lib.hid hnp
  clear hnp
  go_wp2_with fail
  go_loopw [9, 22] (fun l i wr => ∃ (k : Nat) (A' : Option Addr) (n' c' : Nat), k ≤ np ∧ i = .int .i64 k ∧ l = .slice A' n' c' ∧ OwnSh wr w1.heap.size A' n' c' ((ps.take k).map f) ∧ Ok w1 wr) (fun _ i _ => np - (intOf i).toNat)
  case atStart => exact ⟨0, none, 0, 0, Nat.zero_le _, rfl, rfl, OwnSh.nil _ _, Ok.refl _⟩
  case round =>
    obtain ⟨k, A', n', c', hk, rfl, rfl, hown, okr⟩ := hrel
    have HOW := Lib.hid hown
    have HOKR := Lib.hid okr
    have X2 := Ok.cell okr X2
    have X3 := Ok.cell okr X3
    have I0 := Ok.cell okr I0
    have I1 := Ok.cell okr I1
    have hsz := okr.size
    have hw1 := ok1.out.size
    clear hown okr
    by_cases hlt : k < np
    · have d1 : decide ((k : Int) < (np : Int)) = true := decide_eq_true (by omega)
      obtain ⟨b, off, rfl, C0, C1⟩ := HAT.out.ok HOKR.out k (by rw [HNP.out]; exact hlt)
      have HTK : Hid ((ps.take (k + 1)).map f = (ps.take k).map f ++ [f (at1 ps k)]) := Lib.hid (by
        rw [take_at1 ps k (by rw [HNP.out]; exact hlt), List.map_append]; rfl)
      have HLE : Hid (((ps.take k).map f).length + 1 ≤ 100000) := Lib.hid (by rw [List.length_map, List.length_take]; omega)
      have hf := HP.out (at1 ps k)
      generalize at1 ps k = p at C0 C1 hf HTK
      obtain ⟨pl, ph⟩ := p
      simp only at C0 C1
      have HF := Lib.hid hf
      clear hf
      have hi0 : (0 : Int) ≤ (k : Int) := Int.natCast_nonneg _
      have hi1 : (k : Int) < (np : Int) := by omega
      have n0 : w.heap.size < wr.heap.size := World.block_lt_of_cell? _ _ X2
      have n1 : w.heap.size + 1 < wr.heap.size := World.block_lt_of_cell? _ _ I0
      have n2 : ¬ w.heap.size = wr.heap.size := by omega
      have n3 : ¬ w.heap.size + 1 = wr.heap.size := by omega
      have n4 : ¬ w.heap.size = wr.heap.size + 1 := by omega
      have n5 : ¬ w.heap.size = wr.heap.size := by omega
      cases e1 : (pl.toList == il.toList) with
      | true =>
        cases e2 : (ph.toList == ih.toList) with
        | true =>
          have hy : f ⟨pl, ph⟩ = ⟨⟨pl, ph⟩, g, ep⟩ := by rw [HF.out]; simp [eqS, e1, e2]
          rw [hy] at HTK
          have HNEW := Lib.hid (one_sh ((wr.alloc (.cells #[.string pl, .string ph] 26)).alloc (.cells #[.string pl, .string ph, .int .i64 g, .int .i64 ep] 35)) ⟨⟨pl, ph⟩, g, ep⟩)
          have hz2 : ((wr.alloc (.cells #[.string pl, .string ph] 26)).alloc (.cells #[.string pl, .string ph, .int .i64 g, .int .i64 ep] 35)).heap.size = wr.heap.size + 1 + 1 := by simp
          rw [hz2] at HNEW
          have HOWA := Lib.hid (((HOW.out.alloc (.cells #[.string pl, .string ph] 26)).alloc (.cells #[.string pl, .string ph, .int .i64 g, .int .i64 ep] 35)).alloc (.cells #[.string pl, .string ph, .int .i64 g, .int .i64 ep] 35))
          clear hy hz2
          go_wp2_with (at_builtin; go_must (refine wpList_appSh rfl (.tmp 39) (.tmp 41) rfl w1.heap.size A' n' c' _ rfl HOWA.out ⟨wr.heap.size + 1 + 1, 0, none⟩ 1 1 [⟨⟨pl, ph⟩, g, ep⟩] rfl rfl HNEW.out HLE.out (by simp; omega) ?_; intro A2 n2' c2' w2 hown2 hb2; have HOW2 := Lib.hid hown2; have HB2 := Lib.hid hb2; clear hown2 hb2))
          refine ⟨⟨k + 1, A2, n2', c2', hlt, rfl, rfl, by rw [HTK.out]; exact HOW2.out, ?_⟩, ?_⟩
          · exact Below.trans (Ok.alloc (Ok.alloc (Ok.alloc HOKR.out _) _) _) HB2.out
          · show np - ((k : Int) + 1).toNat < np - (k : Int).toNat
            omega
        | false =>
          have hy : f ⟨pl, ph⟩ = ⟨⟨pl, ph⟩, xg, xe⟩ := by rw [HF.out]; simp [eqS, e1, e2]
          rw [hy] at HTK
          have HNEW := Lib.hid (one_sh ((wr.alloc (.cells #[.string pl, .string ph] 26)).alloc (.cells #[.string pl, .string ph, .int .i64 xg, .int .i64 xe] 35)) ⟨⟨pl, ph⟩, xg, xe⟩)
          have hz2 : ((wr.alloc (.cells #[.string pl, .string ph] 26)).alloc (.cells #[.string pl, .string ph, .int .i64 xg, .int .i64 xe] 35)).heap.size = wr.heap.size + 1 + 1 := by simp
          rw [hz2] at HNEW
          have HOWA := Lib.hid (((HOW.out.alloc (.cells #[.string pl, .string ph] 26)).alloc (.cells #[.string pl, .string ph, .int .i64 xg, .int .i64 xe] 35)).alloc (.cells #[.string pl, .string ph, .int .i64 xg, .int .i64 xe] 35))
          clear hy hz2
          go_wp2_with (at_builtin; go_must (refine wpList_appSh rfl (.tmp 39) (.tmp 41) rfl w1.heap.size A' n' c' _ rfl HOWA.out ⟨wr.heap.size + 1 + 1, 0, none⟩ 1 1 [⟨⟨pl, ph⟩, xg, xe⟩] rfl rfl HNEW.out HLE.out (by simp; omega) ?_; intro A2 n2' c2' w2 hown2 hb2; have HOW2 := Lib.hid hown2; have HB2 := Lib.hid hb2; clear hown2 hb2))
          refine ⟨⟨k + 1, A2, n2', c2', hlt, rfl, rfl, by rw [HTK.out]; exact HOW2.out, ?_⟩, ?_⟩
          · exact Below.trans (Ok.alloc (Ok.alloc (Ok.alloc HOKR.out _) _) _) HB2.out
          · show np - ((k : Int) + 1).toNat < np - (k : Int).toNat
            omega
      | false =>
        have hy : f ⟨pl, ph⟩ = ⟨⟨pl, ph⟩, xg, xe⟩ := by rw [HF.out]; simp [eqS, e1]
        rw [hy] at HTK
        have HNEW := Lib.hid (one_sh ((wr.alloc (.cells #[.string pl, .string ph] 26)).alloc (.cells #[.string pl, .string ph, .int .i64 xg, .int .i64 xe] 35)) ⟨⟨pl, ph⟩, xg, xe⟩)
        have hz2 : ((wr.alloc (.cells #[.string pl, .string ph] 26)).alloc (.cells #[.string pl, .string ph, .int .i64 xg, .int .i64 xe] 35)).heap.size = wr.heap.size + 1 + 1 := by simp
        rw [hz2] at HNEW
        have HOWA := Lib.hid (((HOW.out.alloc (.cells #[.string pl, .string ph] 26)).alloc (.cells #[.string pl, .string ph, .int .i64 xg, .int .i64 xe] 35)).alloc (.cells #[.string pl, .string ph, .int .i64 xg, .int .i64 xe] 35))
        clear hy hz2
        go_wp2_with (at_builtin; go_must (refine wpList_appSh rfl (.tmp 39) (.tmp 41) rfl w1.heap.size A' n' c' _ rfl HOWA.out ⟨wr.heap.size + 1 + 1, 0, none⟩ 1 1 [⟨⟨pl, ph⟩, xg, xe⟩] rfl rfl HNEW.out HLE.out (by simp; omega) ?_; intro A2 n2' c2' w2 hown2 hb2; have HOW2 := Lib.hid hown2; have HB2 := Lib.hid hb2; clear hown2 hb2))
        refine ⟨⟨k + 1, A2, n2', c2', hlt, rfl, rfl, by rw [HTK.out]; exact HOW2.out, ?_⟩, ?_⟩
        · exact Below.trans (Ok.alloc (Ok.alloc (Ok.alloc HOKR.out _) _) _) HB2.out
        · show np - ((k : Int) + 1).toNat < np - (k : Int).toNat
          omega
    · have d1 : decide ((k : Int) < (np : Int)) = false := decide_eq_false (by omega)
      have hr : R = (ps.take k).map f := by rw [← er.out, List.take_of_length_le (by rw [HNP.out]; omega)]
      go_wp2
      go_ret
      rw [hr]
      exact SharesPost.mk A' n' c' rfl (HOW.out.base ok1.out.size) (Ok.call ok1.out HOKR.out)
end Go.Proofs.YtdabdkedgigjdaaGreat
