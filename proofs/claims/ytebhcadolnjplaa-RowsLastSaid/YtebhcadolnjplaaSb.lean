/- Rows: insert into a new row; insert. -/
import Derived.Test.YtebhcadolnjplaaSa
namespace Go.Proofs.Ytebhcadolnjplaa
open Go.RowKit

theorem grown_drew {a b : World} {r : Option Nat} (h : a.grownBy b r) : a.grownBy b.drew r := ⟨h.os, h.tape, h.output, h.size, h.block⟩
theorem zeros_len (k : Nat) : (Builtin.zeroCells (Value.agg #[.string ⟨#[]⟩, .string ⟨#[]⟩]).cells k).size = k * 2 := by
  simp [Builtin.zeroCells, Value.cells]
set_option maxRecDepth 100000 in
theorem ins_grow (B g n : Nat) (l : List Rw) (i : Nat) (r : Rw) (vb : Nat) (W : World) (h : OwnR W B (some ⟨g, 0, none⟩) n n l) (hi : i < n) (hB : B ≤ W.heap.size) (hn : n ≤ 100000) (hv : W.heap[vb]? = some (.cells #[.string r.key, .string r.val] 105 (0, 0))) :
    Calls Try.prog 141 #[.slice (some ⟨g, 0, none⟩) n n, .int .i64 (i : Int), .slice (some ⟨vb, 0, none⟩) 1 1] W (InsP B n l i r (.slice (some ⟨g, 0, none⟩) n n) W) := by
  have hbg := (h.2.lt g rfl)
  rcases h.2.2 with ⟨e, _⟩ | ⟨g', cap, cur, e, hb', hg, h1, h2, h3, h4⟩
  · cases e
  simp only [Value.slice.injEq, Option.some.injEq, Addr.mk.injEq] at e
  obtain ⟨⟨rfl, -, -⟩, -, rfl⟩ := e
  have hL := h.1
  obtain ⟨L0, rfl⟩ : ∃ L0 : List Value, cur = L0.toArray := ⟨cur.toList, by simp⟩
  simp only [List.size_toArray] at h3 h4
  obtain rfl : L0 = flat2 l := by rw [← h4, List.take_of_length_le (by omega)]
  obtain ⟨i0, hi0, hz0, hz1, hz2⟩ := info_parts info105
  have hvw : vb < W.heap.size := (Array.getElem?_eq_some_iff.1 hv).1
  have hX : (flat2 (l.drop i)).length = (n - i) * 2 := by rw [flat2_len, List.length_drop, hL]
  have hT : (flat2 (l.take i)).length = i * 2 := by rw [flat2_len, List.length_take]; omega
  have hold : (Builtin.firstCells i0.size i (.slice (some ⟨g, 0, none⟩) i n)).run Try.prog W.drew = .ok (flat2 (l.take i)).toArray W.drew := by
    rw [hz1]
    exact run_firstCells_some W.drew 2 i ⟨g, 0, none⟩ i n (flat2 (l.take i)) hT (fun j v hj => by
      rw [flat2_take l i (by omega), List.getElem?_take] at hj
      split at hj
      · rw [Addr.add_lit]
        show W.cell? _ = _
        simp only [World.cell?, hg, Nat.zero_add]
        simpa using hj
      · cases hj)
  obtain ⟨G, hG⟩ : ∃ G, G = grownCap W (n + 1) n 105 := ⟨_, rfl⟩
  obtain ⟨Z, hZ⟩ : ∃ Z : List Value, Z = (Builtin.zeroCells (Value.agg #[.string ⟨#[]⟩, .string ⟨#[]⟩]).cells (n + 1 - i)).toList ++ (Builtin.zeroCells (Value.agg #[.string ⟨#[]⟩, .string ⟨#[]⟩]).cells (G - (n + 1))).toList := ⟨_, rfl⟩
  have hGn : n + 1 ≤ G := by rw [hG]; exact grownCap_ge W _ _ _
  have hG63 : G ≤ maxLen := by rw [hG]; exact grownCap_le_maxLen W (n + 1) n 105 (by unfold maxLen; omega)
  have hZl : Z.length = (n + 1 - i) * 2 + (G - (n + 1)) * 2 := by rw [hZ, List.length_append, Array.length_toList, Array.length_toList, zeros_len, zeros_len]
  have hrz : ∀ ty, (Builtin.append_ #[66, 3] ty #[.slice (some ⟨g, 0, none⟩) i n, .int .i64 ((n : Int) + 1 - (i : Int))]).run Try.prog W =
      .ok (.slice (some ⟨W.heap.size, 0, none⟩) (n + 1) G) (W.drew.alloc (.cells (flat2 (l.take i) ++ Z).toArray 105)) := fun ty => by
    have h := Lib.run_append_grow_zeros W 66 3 ty 105 i0 _ .i64 .i64 Try.underlying66 Try.underlying3 hi0 hz0 (some ⟨g, 0, none⟩) i n (flat2 (l.take i)) hold (n + 1 - i) (by omega) (by rw [hz1]; omega) (by omega) (by omega) (by rw [hz2]; omega) (by rw [hz2, show i + (n + 1 - i) = n + 1 from by omega]; exact growslice_fits (by omega) (by omega))
    rw [show i + (n + 1 - i) = n + 1 from by omega] at h
    rw [show (n : Int) + 1 - (i : Int) = ((n + 1 - i : Nat) : Int) from by omega]
    rw [h, ← hG, hZ]
    congr 3
    simp
  obtain ⟨W1, hW1⟩ : ∃ W1, W1 = W.drew.alloc (.cells (flat2 (l.take i) ++ Z).toArray 105) := ⟨_, rfl⟩
  rw [← hW1] at hrz
  obtain ⟨N, hN⟩ : ∃ N, N = W.heap.size := ⟨_, rfl⟩
  have hN1 : W1.heap[N]? = some (.cells (flat2 (l.take i) ++ Z).toArray 105 (0, 0)) := by rw [hW1, hN]; exact heap_alloc_new W.drew _
  have hO1 : Ok W W1 := by rw [hW1]; exact ((Ok.refl W).drewN _).alloc _
  rw [← hN] at hrz
  obtain ⟨X, hXe⟩ : ∃ X, X = flat2 (l.drop i) := ⟨_, rfl⟩
  obtain ⟨Z0, hZ0⟩ : ∃ Z0, Z0 = flat2 (l.take i) ++ Z := ⟨_, rfl⟩
  have hZ0l : Z0.length = G * 2 := by rw [hZ0, List.length_append, hT, hZl]; omega
  have hrl : r.cells.length = 2 := rfl
  have HN1 : Hid (W1.heap[N]? = some (.cells Z0.toArray 105 (0, 0))) := Lib.hid (by rw [hZ0]; exact hN1)
  have HOW := Lib.hid hO1
  have HVC : Hid (∀ j v, r.cells[j]? = some v → W1.cell? ((⟨vb, 0, none⟩ : Addr).add j) = some v) := Lib.hid (fun j v hj => by
    rw [Addr.add_lit]
    refine hO1.cell ?_
    simp only [World.cell?, hv, Nat.zero_add]
    have : r.cells = [.string r.key, .string r.val] := rfl
    rw [this] at hj
    simpa using hj)
  have HR1 : Hid (∀ v ∈ r.cells, v.oneCell' = true) := Lib.hid (by
    intro v hv
    have : r.cells = [.string r.key, .string r.val] := rfl
    rw [this] at hv
    simp only [List.mem_cons, List.not_mem_nil, or_false] at hv
    rcases hv with rfl | rfl <;> rfl)
  have HXL : Hid (X.length = (n - i) * 2) := Lib.hid (by rw [hXe]; exact hX)
  have HX1 : Hid (∀ v ∈ X, v.oneCell' = true) := Lib.hid (by rw [hXe]; exact flat2_one _)
  have HFIT : Hid (i * 2 + r.cells.length ≤ Z0.length) := Lib.hid (by rw [hZ0l, hrl]; omega)
  have HFIT2 : Hid ((i + 1) * 2 + X.length ≤ (splice Z0 (i * 2) r.cells).length) := Lib.hid (by rw [length_splice _ _ _ (by rw [hZ0l, hrl]; omega), hZ0l, hXe, hX]; omega)
  have HSRC : Hid (∀ w', W1.grownBy w' (some N) → ∀ j v, X[j]? = some v → w'.cell? ((⟨g, i * 2, none⟩ : Addr).add j) = some v) := Lib.hid (fun w' hk j v hj => by
    have hjl : j < (n - i) * 2 := by rw [← hX, ← hXe]; exact (List.getElem?_eq_some_iff.1 hj).1
    rw [hXe, flat2_drop l i (by omega), List.getElem?_drop] at hj
    rw [Addr.add_lit]
    refine hk.cell (hO1.cell (w := W) ?_) (fun q => ?_)
    · simp only [World.cell?, hg]
      simpa using hj
    · simp only [Option.some.injEq] at q
      omega)
  have HFIN : Hid (∀ w', w'.heap[N]? = some (.cells (splice (splice Z0 (i * 2) r.cells) ((i + 1) * 2) X).toArray 105 (0, 0)) → OwnR w' B (some ⟨N, 0, none⟩) (n + 1) G (insR l i r)) := Lib.hid (fun w' hw => by
    refine ⟨insR_len l i r n hL (by omega), by rw [flat2_len, insR_len l i r n hL (by omega)], .inr ⟨N, G, _, rfl, by omega, hw, hGn, hG63, ?_, ?_⟩⟩
    · rw [List.size_toArray, length_splice _ _ _ (by rw [length_splice _ _ _ (by rw [hZ0l, hrl]; omega), hZ0l, hXe, hX]; omega), length_splice _ _ _ (by rw [hZ0l, hrl]; omega)]
      exact hZ0l
    · have := splice_out Z0 r.cells X (i * 2) (by rw [hXe, hX, hrl, hZ0l]; omega)
      rw [hrl, show i * 2 + 2 = (i + 1) * 2 from by omega] at this
      rw [this, ← ins_cells l i r n hL (by omega), hXe, hZ0, ← hT, List.take_left])
  have HN := Lib.hid hN
  have hGm : G ≤ 9223372036854775807 := by unfold maxLen at hG63; omega
  have hci : ¬ (n = i) := by omega
  have hci1 : ¬ (G = i) := by omega
  have hci2 : ¬ (G = i + 1) := by omega
  clear h hbg hb' hg h1 h2 h3 h4 hX hv hXe hL hN hN1 hO1 hW1 hZ hZ0 hZ0l hZl hold hT hG hi0 hz0 hz1 hz2 hvw hrl hG63
  have e1 : IntKind.i64.wrap ((n : Int) + 1) = (n : Int) + 1 := IntWalk.i64_in _ (by omega)
  have e2 : IntKind.i64.wrap ((i : Int) + 1) = (i : Int) + 1 := IntWalk.i64_in _ (by omega)
  have e3 : IntKind.i64.wrap ((n : Int) + 1 - (i : Int)) = (n : Int) + 1 - (i : Int) := IntWalk.i64_in _ (by omega)
  have d1 : decide ((i : Int) = (n : Int)) = false := decide_eq_false (by omega)
  have d2 : decide ((n : Int) < (n : Int) + 1) = true := decide_eq_true (by omega)
  have hb1 : (0 : Int) ≤ (i : Int) + 1 := by omega
  have hin : i ≤ n := by omega
  have htn : ((i : Int) + 1).toNat = i + 1 := by omega
  have hb3 : (i : Int) ≤ (n : Int) + 1 := by omega
  go_enter Try.func141, Try.ntmps141
  go_wp2_with (first
    | (at_builtin; refine Lib.wpList_append_run _ rfl _ _ _ _ rfl _ _ rfl rfl _ _ (hrz _) ?_)
    | (with_reducible refine wpList_copy2 rfl (.tmp 43) (.tmp 44) rfl N (i * 2) (n + 1 - i) (G - i) ⟨vb, 0, none⟩ 1 1 (by simp [Act.eval]) rfl Z0 105 HN1.out r.cells 1 (by simp only [Nat.min_def]; split <;> omega) rfl HVC.out HFIT.out HR1.out ?_; intro w4 hg4 hgr4; have HGR4 := Lib.hid hgr4; clear hgr4))
  go_region_law (refine step_copy2 rfl (.tmp 50) (.tmp 53) rfl N ((i + 1) * 2) (n - i) (G - (i + 1)) ⟨g, i * 2, none⟩ (n - i) (n - i) (by simp [Act.eval, Act.put]; try omega) (by simp [Act.eval, Act.put]; try omega) (splice Z0 (i * 2) r.cells) 105 hg4.out X (n - i) (by simp only [Nat.min_def]; split <;> omega) HXL.out (HSRC.out _ (grown_drew HGR4.out)) HFIT2.out HX1.out ?_; intro w5 hg5 hgr5)
  have HGR5 : Hid (w4.grownBy w5 (some N)) := Lib.hid ⟨hgr5.os, hgr5.tape, hgr5.output, hgr5.size, hgr5.block⟩
  clear hgr5
  go_wp2_with fail
  go_ret
  have hBN : B ≤ N := by rw [HN.out]; exact hB
  have b1 : Below B W W1 := HOW.out.mono hB
  have s1 : W.heap.size ≤ W1.heap.size := HOW.out.size
  have bz : Below W.heap.size W w5 := Below.trans (Below.trans HOW.out (Below.grown (Below.refl W.heap.size W1) HGR4.out s1 (fun j e => by cases e; exact Nat.le_of_eq HN.out.symm))) (Below.grown (Below.refl W.heap.size w4) HGR5.out (by have := HGR4.out.size; omega) (fun j e => by cases e; exact Nat.le_of_eq HN.out.symm))
  exact ⟨_, _, rfl, HFIN.out _ hg5.out, (b1.trans (Below.grown (Below.refl B W1) HGR4.out (by omega) (fun j e => by cases e; exact hBN))).trans (Below.grown (Below.refl B w4) HGR5.out (by have := HGR4.out.size; omega) (fun j e => by cases e; exact hBN)), grown_ok bz⟩
theorem insert_f (B : Nat) (A : Option Addr) (n c : Nat) (l : List Rw) (i : Nat) (r : Rw) (vb : Nat) (W : World) (h : OwnR W B A n c l) (hi : i ≤ n) (hB : B ≤ W.heap.size) (hn : n ≤ 100000) (hv : W.heap[vb]? = some (.cells #[.string r.key, .string r.val] 105 (0, 0))) (hne : ∀ a, A = some a → vb ≠ a.block) :
    Calls Try.prog 141 #[.slice A n c, .int .i64 (i : Int), .slice (some ⟨vb, 0, none⟩) 1 1] W (InsP B n l i r (.slice A n c) W) := by
  by_cases e : i = n
  · subst e
    exact ins_end B A i c l r vb W h hB hn hv
  · rcases h.nc with ⟨_, q, _⟩ | ⟨g, rfl⟩
    · omega
    · have hc : n ≤ c := by
        rcases h.2.2 with ⟨e, _⟩ | ⟨_, _, _, e, _, _, h1, _⟩
        · cases e
        · simp only [Value.slice.injEq] at e
          rw [e.2.2]; exact h1
      by_cases q : n + 1 ≤ c
      · exact ins_room B g n c l i r vb W h (by omega) q hB hn hv (hne _ rfl)
      · obtain rfl : c = n := by omega
        exact ins_grow B g c l i r vb W h (by omega) hB hn hv
end Go.Proofs.Ytebhcadolnjplaa
