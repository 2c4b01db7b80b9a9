/- Rows: insert where there is room. -/
import Derived.Test.YtebhcadolnjplaaRz
import Derived.Deep.RegionLaw
namespace Go.Proofs.Ytebhcadolnjplaa
open Go.RowKit

theorem over164 (w : World) (vb g off lb cb : Nat) (cur : Array Value) (r : Rw) (hne : vb ≠ g) (hv : w.heap[vb]? = some (.cells #[.string r.key, .string r.val] 105 (0, 0))) (hg : w.heap[g]? = some (.cells cur 105 (0, 0))) (hc : cur.size ≠ 0) :
    (callFunc 164 #[.slice (some ⟨vb, 0, none⟩) 1 1, .slice (some ⟨g, off, none⟩) lb cb]).run Try.prog w = .ok (.value (.bool false)) w := by
  obtain ⟨i0, hi, hz0, hz1, hz2⟩ := info_parts info105
  rw [run_callFunc_extern Try.func164 (by kernel_rfl) (by kernel_rfl) (by kernel_rfl) (e := Extern.SlicesOverlaps.overlaps #[66, 66] #[4]) (by kernel_rfl),
    Lib.run_overlaps_apart w 66 4 105 Try.underlying66 2 (fun w => by simp [Go.sizeOf, typeInfo, hi, hz1]) ⟨vb, 0, none⟩ ⟨g, off, none⟩ 1 1 lb cb hne 105 105 2 cur.size (by simp [World.shape?, hv]) (by simp [World.shape?, hg]) hc (by simp [World.frozen?, hv]) (by simp [World.frozen?, hv])]
  rfl
set_option maxRecDepth 100000 in
theorem ins_room (B g n c : Nat) (l : List Rw) (i : Nat) (r : Rw) (vb : Nat) (W : World) (h : OwnR W B (some ⟨g, 0, none⟩) n c l) (hi : i < n) (hr : n + 1 ≤ c) (hB : B ≤ W.heap.size) (hn : n ≤ 100000) (hv : W.heap[vb]? = some (.cells #[.string r.key, .string r.val] 105 (0, 0))) (hne : vb ≠ g) :
    Calls Try.prog 141 #[.slice (some ⟨g, 0, none⟩) n c, .int .i64 (i : Int), .slice (some ⟨vb, 0, none⟩) 1 1] W (InsP B n l i r (.slice (some ⟨g, 0, none⟩) n c) W) := by
  have hbg := (h.2.lt g rfl)
  rcases h.2.2 with ⟨e, _⟩ | ⟨g', cap, cur, e, hb', hg, h1, h2, h3, h4⟩
  · cases e
  simp only [Value.slice.injEq, Option.some.injEq, Addr.mk.injEq] at e
  obtain ⟨⟨rfl, -, -⟩, -, rfl⟩ := e
  have hL := h.1
  have hov := fun off lb cb => over164 W vb g off lb cb cur r hne hv hg (by omega)
  have hcl : c ≤ maxLen := h2
  unfold maxLen at hcl
  obtain ⟨L0, rfl⟩ : ∃ L0 : List Value, cur = L0.toArray := ⟨cur.toList, by simp⟩
  simp only [List.size_toArray] at h3 h4
  have hX : (flat2 (l.drop i)).length = (n - i) * 2 := by rw [flat2_len, List.length_drop, hL]
  obtain ⟨X, hXe⟩ : ∃ X, X = flat2 (l.drop i) := ⟨_, rfl⟩
  have HG : Hid (W.heap[g]? = some (.cells L0.toArray 105 (0, 0))) := Lib.hid hg
  have HB := Lib.hid hbg
  have HXL : Hid (X.length = (n - i) * 2) := Lib.hid (by rw [hXe]; exact hX)
  have HX1 : Hid (∀ v ∈ X, v.oneCell' = true) := Lib.hid (by rw [hXe]; exact flat2_one _)
  have HSRC : Hid (∀ j v, X[j]? = some v → W.cell? ((⟨g, i * 2, none⟩ : Addr).add j) = some v) := Lib.hid (fun j v hj => by
    have hjl : j < (n - i) * 2 := by rw [← hX, ← hXe]; exact (List.getElem?_eq_some_iff.1 hj).1
    rw [hXe, flat2_drop l i (by omega), List.getElem?_drop, ← h4, List.getElem?_take] at hj
    rw [if_pos (by omega)] at hj
    rw [Addr.add_lit]
    simp only [World.cell?, hg]
    simpa using hj)
  have HFIN : Hid (∀ w', w'.heap[g]? = some (.cells (splice (splice L0 ((i + 1) * 2) X) (i * 2) r.cells).toArray 105 (0, 0)) → OwnR w' B (some ⟨g, 0, none⟩) (n + 1) c (insR l i r)) := Lib.hid (fun w' hw => by
    refine ⟨insR_len l i r n hL (by omega), by rw [flat2_len, insR_len l i r n hL (by omega)], .inr ⟨g, c, _, rfl, hb', hw, hr, h2, ?_, ?_⟩⟩
    · have hrl : r.cells.length = 2 := rfl
      rw [List.size_toArray, length_splice _ _ _ (by rw [length_splice _ _ _ (by rw [hXe, hX]; omega)]; omega), length_splice _ _ _ (by rw [hXe, hX]; omega)]
      exact h3
    · have hrl : r.cells.length = 2 := rfl
      have := splice_in L0 r.cells X (i * 2) (by rw [hXe, hX, hrl]; omega)
      rw [hrl, show i * 2 + 2 = (i + 1) * 2 from by omega] at this
      rw [this, ← ins_cells l i r n hL (by omega), hXe, flat2_take l i (by omega), ← h4, List.take_take, Nat.min_eq_left (by omega)])
  have HVC : Hid (∀ j v, r.cells[j]? = some v → W.cell? ((⟨vb, 0, none⟩ : Addr).add j) = some v) := Lib.hid (fun j v hj => by
    rw [Addr.add_lit]
    simp only [World.cell?, hv, Nat.zero_add]
    have : r.cells = [.string r.key, .string r.val] := rfl
    rw [this] at hj
    simpa using hj)
  have HR1 : Hid (∀ v ∈ r.cells, v.oneCell' = true) := Lib.hid (by
    intro v hv
    have : r.cells = [.string r.key, .string r.val] := rfl
    rw [this] at hv
    simp only [List.mem_cons, List.not_mem_nil, or_false] at hv
    rcases hv with rfl | rfl <;> rfl)
  have HFIT : Hid (i * 2 + r.cells.length ≤ (splice L0 ((i + 1) * 2) X).length) := Lib.hid (by
    rw [length_splice _ _ _ (by rw [hXe, hX]; omega)]
    show i * 2 + 2 ≤ _
    omega)
  have HL0 : Hid (L0.length = c * 2) := Lib.hid h3
  clear h hbg hb' hg h1 h2 h3 h4 hX hv hXe hL
  have e1 : IntKind.i64.wrap ((n : Int) + 1) = (n : Int) + 1 := IntWalk.i64_in _ (by omega)
  have e2 : IntKind.i64.wrap ((i : Int) + 1) = (i : Int) + 1 := IntWalk.i64_in _ (by omega)
  have d1 : decide ((i : Int) = (n : Int)) = false := decide_eq_false (by omega)
  have d2 : decide ((c : Int) < (n : Int) + 1) = false := decide_eq_false (by omega)
  have hb1 : (0 : Int) ≤ (i : Int) + 1 := by omega
  have hin : i ≤ n := by omega
  have htn : ((i : Int) + 1).toNat = i + 1 := by omega
  have hb2 : ¬ (c = i + 1) := by omega
  have hb3 : (i : Int) ≤ (n : Int) + 1 := by omega
  have hb4 : ¬ (c = i) := by omega
  go_enter Try.func141, Try.ntmps141
  go_wp2_with (simp only [hov])
  go_region_law (refine step_copy2 rfl (.tmp 73) (.tmp 76) rfl g ((i + 1) * 2) (n - i) (c - (i + 1)) ⟨g, i * 2, none⟩ (n + 1 - i) (c - i) (by simp [Act.eval, Act.put]; try omega) (by simp [Act.eval, Act.put]; try omega) L0 105 HG.out X (n - i) (by simp only [Nat.min_def]; split <;> omega) HXL.out HSRC.out (by rw [HXL.out, HL0.out]; omega) HX1.out ?_; intro w4 hg4 hgr4)
  have HGR4 : Hid (W.grownBy w4 (some g)) := Lib.hid ⟨hgr4.os, hgr4.tape, hgr4.output, hgr4.size, hgr4.block⟩
  have HS4 : Hid (∀ j v, r.cells[j]? = some v → w4.cell? ((⟨vb, 0, none⟩ : Addr).add j) = some v) := Lib.hid (fun j v hj => (HGR4.out).cell (HVC.out j v hj) (fun q => hne (by simpa [Addr.add_lit] using q)))
  clear hgr4
  go_wp2_with (with_reducible refine wpList_copy2 rfl (.tmp 80) (.tmp 81) rfl g (i * 2) (n + 1 - i) (c - i) ⟨vb, 0, none⟩ 1 1 (by simp [Act.eval]) rfl (splice L0 ((i + 1) * 2) X) 105 hg4.out r.cells 1 (by simp only [Nat.min_def]; split <;> omega) rfl HS4.out HFIT.out HR1.out ?_; intro w5 hg5 hgr5)
  have HGR5 := Lib.hid hgr5
  clear hgr5
  go_wp2_with fail
  go_ret
  exact ⟨_, _, rfl, HFIN.out _ hg5.out, (Below.grown (Below.refl B W) HGR4.out hB (fun j e => by cases e; exact HB.out.1)).trans (Below.grown (Below.refl B w4) HGR5.out (Nat.le_trans hB HGR4.out.size) (fun j e => by cases e; exact HB.out.1)), grown_trans HGR4.out HGR5.out⟩
end Go.Proofs.Ytebhcadolnjplaa
