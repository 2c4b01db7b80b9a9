/- Rows: insert into a new row; insert. -/
import Derived.Test.YtebhcadolnjplaaGreatRx
import Derived.Laws.CopyOwn
import Derived.Lib.Overlaps
import Derived.Lib.AppendZerosOnto
import Derived.Deep.RegionLaw
namespace Go.Proofs.YtebhcadolnjplaaGreat
open Go.RowKit

theorem run_copy_rows (w : World) (ty : TypeId) (g o dLen dCap : Nat) (a : Addr) (sLen sCap : Nat) (cur : List Value) (t : TypeId) (cs : List Value) (m : Nat)
    (hg : w.heap[g]? = some (.cells cur.toArray t (0, 0))) (hm : m = Nat.min sLen dLen) (hn : cs.length = m * 2)
    (hsrc : ∀ j v, cs[j]? = some v → w.cell? (a.add j) = some v) (hfit : o + cs.length ≤ cur.length) (h1 : ∀ v ∈ cs, v.oneCell' = true) :
    (Builtin.copy_ #[29, 29] ty #[.slice (some ⟨g, o, none⟩) dLen dCap, .slice (some a) sLen sCap]).run Tryz.prog w =
      .ok (goInt m) (w.setRow g (splice cur o cs).toArray) := by
  have hl := run_loadCells_list (P := Tryz.prog) w a cs hsrc
  have hst := run_storeCells_at Tryz.prog g o t cs 0 cur.toArray w hg (by simpa using hfit) h1
  obtain ⟨i0, hi, hz0, hz1, hz2⟩ := info_parts info105
  rw [hn] at hl
  simp [Builtin.copy_, run_underlying Tryz.underlying29, Builtin.lenOf, Builtin.firstCells, sizeOf, typeInfo, hi, hz1, ← hm, hl, hst, splice, hn]
/-- The world behind a write into the block g alone. -/
theorem grown_setRow (w : World) (g : Nat) (cs : Array Value) : w.grownBy (w.setRow g cs) (some g) :=
  ⟨rfl, rfl, rfl, by simp [World.setRow], fun k _ hk => setRow_other w g k cs (fun e => hk (by rw [e]))⟩
theorem wpList_copy2 {w : World} {ops : Array Oper} {rest : List Oper} {o : Oper} {a : Act} {Q : Exit → Act → World → Prop} (hgd : o.guard = none) (d s : Operand)
    (ho : o.op = .call { callee := .builtin .copy, args := #[d, s], argTypes := #[29, 29] })
    (g off dLen dCap : Nat) (ad : Addr) (sLen sCap : Nat) (hd : a.eval d = .slice (some ⟨g, off, none⟩) dLen dCap) (hs : a.eval s = .slice (some ad) sLen sCap)
    (cur : List Value) (t : TypeId) (hg : w.heap[g]? = some (.cells cur.toArray t (0, 0))) (cs : List Value) (m : Nat) (hm : m = Nat.min sLen dLen) (hn : cs.length = m * 2)
    (hsrc : ∀ j v, cs[j]? = some v → w.cell? (ad.add j) = some v) (hfit : off + cs.length ≤ cur.length) (h1 : ∀ v ∈ cs, v.oneCell' = true)
    (h : ∀ w', Hid (w'.heap[g]? = some (.cells (splice cur off cs).toArray t (0, 0))) → w.grownBy w' (some g) → wpList Tryz.prog ops Q rest (a.put o.dst (goInt m)) w') :
    wpList Tryz.prog ops Q (o :: rest) a w := by
  have hrun := run_copy_rows w o.type g off dLen dCap ad sLen sCap cur t cs m hg hm hn hsrc hfit h1
  refine wpList_plain hgd fun K hK => ?_
  unfold Oper.wp
  simp [execOp, ho, resolve, invoke, builtin, hd, hs, hrun, Result.andThen]
  exact hK _ _ (h _ (show _ = _ from setRow_heap w g _ _ t _ hg) (grown_setRow w g _))
theorem step_copy2 {ops : Array Oper} {o : Oper} {a : Act} {w : World} {K : Act → World → Prop} {Q : Exit → Act → World → Prop} {E : Prop} (hgd : o.guard = none) (d s : Operand)
    (ho : o.op = .call { callee := .builtin .copy, args := #[d, s], argTypes := #[29, 29] })
    (g off dLen dCap : Nat) (ad : Addr) (sLen sCap : Nat) (hd : a.eval d = .slice (some ⟨g, off, none⟩) dLen dCap) (hs : a.eval s = .slice (some ad) sLen sCap)
    (cur : List Value) (t : TypeId) (hg : w.heap[g]? = some (.cells cur.toArray t (0, 0))) (cs : List Value) (m : Nat) (hm : m = Nat.min sLen dLen) (hn : cs.length = m * 2)
    (hsrc : ∀ j v, cs[j]? = some v → w.cell? (ad.add j) = some v) (hfit : off + cs.length ≤ cur.length) (h1 : ∀ v ∈ cs, v.oneCell' = true)
    (h : ∀ w', Hid (w'.heap[g]? = some (.cells (splice cur off cs).toArray t (0, 0))) → w.grownBy w' (some g) → K (a.put o.dst (goInt m)) w') :
    if Region.wanted o (yielded ops a.tmps) = true then Oper.wp Tryz.prog o a w K Q else E := by
  have hw : Region.wanted o (yielded ops a.tmps) = true := by simp [Region.wanted, hgd]
  rw [if_pos hw]
  have hrun := run_copy_rows w o.type g off dLen dCap ad sLen sCap cur t cs m hg hm hn hsrc hfit h1
  unfold Oper.wp
  simp [execOp, ho, resolve, invoke, builtin, hd, hs, hrun, Result.andThen]
  exact h _ (show _ = _ from setRow_heap w g _ _ t _ hg) (grown_setRow w g _)
theorem grown_trans {a b d : World} {r : Option Nat} (h : a.grownBy b r) (k : b.grownBy d r) : a.grownBy d r :=
  ⟨k.os.trans h.os, k.tape.trans h.tape, k.output.trans h.output, Nat.le_trans h.size k.size, fun j hj hn => (k.block j (Nat.lt_of_lt_of_le hj h.size) hn).trans (h.block j hj hn)⟩
theorem grown_ok {a b : World} {r : Option Nat} (h : Ok a b) : a.grownBy b r := ⟨h.os, h.tape, h.output, h.size, fun j hj _ => h.block j hj⟩
def insR (l : List Rw) (i : Nat) (r : Rw) : List Rw := l.take i ++ (r :: l.drop i)
def InsP (B n : Nat) (l : List Rw) (i : Nat) (r : Rw) (v : Value) (w : World) (e : Ending) (w' : World) : Prop :=
  ∃ A' c', e = .returned (.slice A' (n + 1) c') ∧ OwnR w' B A' (n + 1) c' (insR l i r) ∧ Below B w w' ∧ w.grownBy w' v.ownBlock
theorem RowsIn.one (w : World) (vb : Nat) (r : Rw) (hv : w.heap[vb]? = some (.cells #[.string r.key, .string r.val] 48 (0, 0))) : RowsIn w (some ⟨vb, 0, none⟩) [r] := fun j hj => by
  obtain rfl : j = 0 := by simpa using hj
  exact ⟨vb, 0, rfl, by simp [World.cell?, hv, rwA], by simp [World.cell?, hv, rwA]⟩
set_option maxRecDepth 100000 in
theorem ins_end (B : Nat) (A : Option Addr) (n c : Nat) (l : List Rw) (r : Rw) (vb : Nat) (W : World) (h : OwnR W B A n c l) (hB : B ≤ W.heap.size) (hn : n ≤ 100000) (hv : W.heap[vb]? = some (.cells #[.string r.key, .string r.val] 48 (0, 0))) :
    Calls Tryz.prog 92 #[.slice A n c, .int .i64 (n : Int), .slice (some ⟨vb, 0, none⟩) 1 1] W (InsP B n l n r (.slice A n c) W) := by
  have HO := Lib.hid h
  have HX := Lib.hid (RowsIn.one W vb r hv)
  have HE : Hid (insR l n r = l ++ [r]) := Lib.hid (by rw [insR, ← h.1, List.take_of_length_le (Nat.le_refl _), List.drop_of_length_le (Nat.le_refl _)])
  have HOWN : Hid (∀ w', W.grownBy w' (Value.slice A n c).ownBlock → Below B W w') := Lib.hid (fun w' k => Below.grown (Below.refl B W) k hB (fun j e => (h.2.lt j e).1))
  rcases h.nc with ⟨rfl, rfl, rfl⟩ | ⟨g, rfl⟩
  · clear h hv
    go_enter Tryz.func92, Tryz.ntmps92
    go_wp2_with (at_builtin; go_must (refine wpList_appRows rfl (.tmp 23) (.tmp 24) rfl B none 0 0 l rfl HO.out vb 0 1 1 [r] rfl rfl HX.out (by omega) hB ?_; intro A' c' w2 hown2 hg2; have HOWN2 := Lib.hid hown2; have HG2 := Lib.hid hg2; clear hown2 hg2; simp only [Nat.zero_add]))
    go_ret
    exact ⟨_, _, rfl, by rw [HE.out]; exact HOWN2.out, HOWN.out _ HG2.out, HG2.out⟩
  · clear h hv
    go_enter Tryz.func92, Tryz.ntmps92
    go_wp2_with (at_builtin; go_must (refine wpList_appRows rfl (.tmp 23) (.tmp 24) rfl B (some ⟨g, 0, none⟩) n c l rfl HO.out vb 0 1 1 [r] rfl rfl HX.out (by omega) hB ?_; intro A' c' w2 hown2 hg2; have HOWN2 := Lib.hid hown2; have HG2 := Lib.hid hg2; clear hown2 hg2))
    all_goals go_ret
    all_goals exact ⟨_, _, rfl, by rw [HE.out]; exact HOWN2.out, HOWN.out _ HG2.out, HG2.out⟩
end Go.Proofs.YtebhcadolnjplaaGreat
namespace Go.Proofs.YtebhcadolnjplaaGreat
open Go.RowKit

theorem flat2_take (l : List Rw) (i : Nat) (h : i ≤ l.length) : flat2 (l.take i) = (flat2 l).take (i * 2) := by
  have e := flat2_append (l.take i) (l.drop i)
  rw [List.take_append_drop] at e
  have hl : (flat2 (l.take i)).length = i * 2 := by rw [flat2_len, List.length_take]; omega
  rw [e, ← hl, List.take_left]
theorem flat2_drop (l : List Rw) (i : Nat) (h : i ≤ l.length) : flat2 (l.drop i) = (flat2 l).drop (i * 2) := by
  have e := flat2_append (l.take i) (l.drop i)
  rw [List.take_append_drop] at e
  have hl : (flat2 (l.take i)).length = i * 2 := by rw [flat2_len, List.length_take]; omega
  rw [e, ← hl, List.drop_left]
theorem splice_in {α : Type} (Z R X : List α) (k : Nat) (hZ : k + R.length + X.length ≤ Z.length) :
    splice (splice Z (k + R.length) X) k R = Z.take k ++ (R ++ (X ++ Z.drop (k + R.length + X.length))) := by
  unfold splice
  have e1 : (Z.take (k + R.length) ++ (X ++ Z.drop (k + R.length + X.length))).take k = Z.take k := by
    rw [List.take_append_of_le_length (by rw [List.length_take]; omega), List.take_take]
    congr 1; omega
  have e2 : (Z.take (k + R.length) ++ (X ++ Z.drop (k + R.length + X.length))).drop (k + R.length) = X ++ Z.drop (k + R.length + X.length) := by
    have hl : (Z.take (k + R.length)).length = k + R.length := by rw [List.length_take]; omega
    conv => lhs; arg 1; rw [← hl]
    rw [hl]
    conv => lhs; arg 1; rw [← hl]
    exact List.drop_left
  rw [e1, e2]
theorem splice_out {α : Type} (Z R X : List α) (k : Nat) (hZ : k + R.length + X.length ≤ Z.length) :
    splice (splice Z k R) (k + R.length) X = Z.take k ++ (R ++ (X ++ Z.drop (k + R.length + X.length))) := by
  unfold splice
  have hl : (Z.take k ++ R).length = k + R.length := by rw [List.length_append, List.length_take]; omega
  have e0 : Z.take k ++ (R ++ Z.drop (k + R.length)) = (Z.take k ++ R) ++ Z.drop (k + R.length) := by rw [List.append_assoc]
  have e1 : (Z.take k ++ (R ++ Z.drop (k + R.length))).take (k + R.length) = Z.take k ++ R := by
    rw [e0, List.take_append_of_le_length (by omega), List.take_of_length_le (by omega)]
  have e2 : (Z.take k ++ (R ++ Z.drop (k + R.length))).drop (k + R.length + X.length) = Z.drop (k + R.length + X.length) := by
    rw [e0, List.drop_append, List.drop_of_length_le (by omega), hl, List.nil_append, List.drop_drop]
    congr 1; omega
  rw [e1, e2, List.append_assoc]
theorem ins_cells (l : List Rw) (i : Nat) (r : Rw) (n : Nat) (hn : l.length = n) (hi : i ≤ n) (Y : List Value) :
    (flat2 (l.take i) ++ (r.cells ++ (flat2 (l.drop i) ++ Y))).take ((n + 1) * 2) = flat2 (insR l i r) := by
  have e : flat2 (l.take i) ++ (r.cells ++ (flat2 (l.drop i) ++ Y)) = flat2 (insR l i r) ++ Y := by
    rw [insR, flat2_append]
    simp [flat2]
  have hl : (flat2 (insR l i r)).length = (n + 1) * 2 := by rw [flat2_len, insR]; simp; omega
  rw [e, List.take_append_of_le_length (by omega), List.take_of_length_le (by omega)]
theorem insR_len (l : List Rw) (i : Nat) (r : Rw) (n : Nat) (hn : l.length = n) (hi : i ≤ n) : (insR l i r).length = n + 1 := by simp [insR]; omega
end Go.Proofs.YtebhcadolnjplaaGreat
namespace Go.Proofs.YtebhcadolnjplaaGreat
open Go.RowKit

theorem over164 (w : World) (vb g off lb cb : Nat) (cur : Array Value) (r : Rw) (hne : vb ≠ g) (hv : w.heap[vb]? = some (.cells #[.string r.key, .string r.val] 48 (0, 0))) (hg : w.heap[g]? = some (.cells cur 48 (0, 0))) (hc : cur.size ≠ 0) :
    (callFunc 136 #[.slice (some ⟨vb, 0, none⟩) 1 1, .slice (some ⟨g, off, none⟩) lb cb]).run Tryz.prog w = .ok (.value (.bool false)) w := by
  obtain ⟨i0, hi, hz0, hz1, hz2⟩ := info_parts info105
  rw [run_callFunc_extern Tryz.func136 (by kernel_rfl) (by kernel_rfl) (by kernel_rfl) (e := Extern.SlicesOverlaps.overlaps #[29, 29] #[4]) (by kernel_rfl),
    Lib.run_overlaps_apart w 29 4 48 Tryz.underlying29 2 (fun w => by simp [Go.sizeOf, typeInfo, hi, hz1]) ⟨vb, 0, none⟩ ⟨g, off, none⟩ 1 1 lb cb hne 48 48 2 cur.size (by simp [World.shape?, hv]) (by simp [World.shape?, hg]) hc (by simp [World.frozen?, hv]) (by simp [World.frozen?, hv])]
  rfl
set_option maxRecDepth 100000 in
theorem ins_room (B g n c : Nat) (l : List Rw) (i : Nat) (r : Rw) (vb : Nat) (W : World) (h : OwnR W B (some ⟨g, 0, none⟩) n c l) (hi : i < n) (hr : n + 1 ≤ c) (hB : B ≤ W.heap.size) (hn : n ≤ 100000) (hv : W.heap[vb]? = some (.cells #[.string r.key, .string r.val] 48 (0, 0))) (hne : vb ≠ g) :
    Calls Tryz.prog 92 #[.slice (some ⟨g, 0, none⟩) n c, .int .i64 (i : Int), .slice (some ⟨vb, 0, none⟩) 1 1] W (InsP B n l i r (.slice (some ⟨g, 0, none⟩) n c) W) := by
  have hbg := (h.2.lt g rfl)
  rcases h.2.2 with ⟨e, _⟩ | ⟨g', cap, cur, e, hb', hg, h1, h2, h3, h4⟩
  · cases e
  simp only [Value.slice.injEq, Option.some.injEq, Addr.mk.injEq] at e
  obtain ⟨⟨rfl, -, -⟩, -, rfl⟩ := e
  have hL := h.1
  have hov := fun off lb cb => over164 W vb g off lb cb cur r hne hv hg (by omega)
  have hcl : c ≤ maxLen := h2
  unfold maxLen at hcl
  obtain ⟨L0, rfl⟩ : ∃ L0 : List Value, cur = L0.toArray := ⟨cur.toList, by simp⟩
  simp only [List.size_toArray] at h3 h4
  have hX : (flat2 (l.drop i)).length = (n - i) * 2 := by rw [flat2_len, List.length_drop, hL]
  obtain ⟨X, hXe⟩ : ∃ X, X = flat2 (l.drop i) := ⟨_, rfl⟩
  have HG : Hid (W.heap[g]? = some (.cells L0.toArray 48 (0, 0))) := Lib.hid hg
  have HB := Lib.hid hbg
  have HXL : Hid (X.length = (n - i) * 2) := Lib.hid (by rw [hXe]; exact hX)
  have HX1 : Hid (∀ v ∈ X, v.oneCell' = true) := Lib.hid (by rw [hXe]; exact flat2_one _)
  have HSRC : Hid (∀ j v, X[j]? = some v → W.cell? ((⟨g, i * 2, none⟩ : Addr).add j) = some v) := Lib.hid (fun j v hj => by
    have hjl : j < (n - i) * 2 := by rw [← hX, ← hXe]; exact (List.getElem?_eq_some_iff.1 hj).1
    rw [hXe, flat2_drop l i (by omega), List.getElem?_drop, ← h4, List.getElem?_take] at hj
    rw [if_pos (by omega)] at hj
    rw [Addr.add_lit]
    simp only [World.cell?, hg]
    simpa using hj)
  have HFIN : Hid (∀ w', w'.heap[g]? = some (.cells (splice (splice L0 ((i + 1) * 2) X) (i * 2) r.cells).toArray 48 (0, 0)) → OwnR w' B (some ⟨g, 0, none⟩) (n + 1) c (insR l i r)) := Lib.hid (fun w' hw => by
    refine ⟨insR_len l i r n hL (by omega), by rw [flat2_len, insR_len l i r n hL (by omega)], .inr ⟨g, c, _, rfl, hb', hw, hr, h2, ?_, ?_⟩⟩
    · have hrl : r.cells.length = 2 := rfl
      rw [List.size_toArray, length_splice _ _ _ (by rw [length_splice _ _ _ (by rw [hXe, hX]; omega)]; omega), length_splice _ _ _ (by rw [hXe, hX]; omega)]
      exact h3
    · have hrl : r.cells.length = 2 := rfl
      have := splice_in L0 r.cells X (i * 2) (by rw [hXe, hX, hrl]; omega)
      rw [hrl, show i * 2 + 2 = (i + 1) * 2 from by omega] at this
      rw [this, ← ins_cells l i r n hL (by omega), hXe, flat2_take l i (by omega), ← h4, List.take_take, Nat.min_eq_left (by omega)])
  have HVC : Hid (∀ j v, r.cells[j]? = some v → W.cell? ((⟨vb, 0, none⟩ : Addr).add j) = some v) := Lib.hid (fun j v hj => by
    rw [Addr.add_lit]
    simp only [World.cell?, hv, Nat.zero_add]
    have : r.cells = [.string r.key, .string r.val] := rfl
    rw [this] at hj
    simpa using hj)
  have HR1 : Hid (∀ v ∈ r.cells, v.oneCell' = true) := Lib.hid (by
    intro v hv
    have : r.cells = [.string r.key, .string r.val] := rfl
    rw [this] at hv
    simp only [List.mem_cons, List.not_mem_nil, or_false] at hv
    rcases hv with rfl | rfl <;> rfl)
  have HFIT : Hid (i * 2 + r.cells.length ≤ (splice L0 ((i + 1) * 2) X).length) := Lib.hid (by
    rw [length_splice _ _ _ (by rw [hXe, hX]; omega)]
    show i * 2 + 2 ≤ _
    omega)
  have HL0 : Hid (L0.length = c * 2) := Lib.hid h3
  clear h hbg hb' hg h1 h2 h3 h4 hX hv hXe hL
  have e1 : IntKind.i64.wrap ((n : Int) + 1) = (n : Int) + 1 := IntWalk.i64_in _ (by omega)
  have e2 : IntKind.i64.wrap ((i : Int) + 1) = (i : Int) + 1 := IntWalk.i64_in _ (by omega)
  have d1 : decide ((i : Int) = (n : Int)) = false := decide_eq_false (by omega)
  have d2 : decide ((c : Int) < (n : Int) + 1) = false := decide_eq_false (by omega)
  have hb1 : (0 : Int) ≤ (i : Int) + 1 := by omega
  have hin : i ≤ n := by omega
  have htn : ((i : Int) + 1).toNat = i + 1 := by omega
  have hb2 : ¬ (c = i + 1) := by omega
  have hb3 : (i : Int) ≤ (n : Int) + 1 := by omega
  have hb4 : ¬ (c = i) := by omega
  go_enter Tryz.func92, Tryz.ntmps92
  go_wp2_with (simp only [hov])
  go_region_law (refine step_copy2 rfl (.tmp 73) (.tmp 76) rfl g ((i + 1) * 2) (n - i) (c - (i + 1)) ⟨g, i * 2, none⟩ (n + 1 - i) (c - i) (by simp [Act.eval, Act.put]; try omega) (by simp [Act.eval, Act.put]; try omega) L0 48 HG.out X (n - i) (by simp only [Nat.min_def]; split <;> omega) HXL.out HSRC.out (by rw [HXL.out, HL0.out]; omega) HX1.out ?_; intro w4 hg4 hgr4)
  have HGR4 : Hid (W.grownBy w4 (some g)) := Lib.hid ⟨hgr4.os, hgr4.tape, hgr4.output, hgr4.size, hgr4.block⟩
  have HS4 : Hid (∀ j v, r.cells[j]? = some v → w4.cell? ((⟨vb, 0, none⟩ : Addr).add j) = some v) := Lib.hid (fun j v hj => (HGR4.out).cell (HVC.out j v hj) (fun q => hne (by simpa [Addr.add_lit] using q)))
  clear hgr4
  go_wp2_with (with_reducible refine wpList_copy2 rfl (.tmp 80) (.tmp 81) rfl g (i * 2) (n + 1 - i) (c - i) ⟨vb, 0, none⟩ 1 1 (by simp [Act.eval]) rfl (splice L0 ((i + 1) * 2) X) 48 hg4.out r.cells 1 (by simp only [Nat.min_def]; split <;> omega) rfl HS4.out HFIT.out HR1.out ?_; intro w5 hg5 hgr5)
  have HGR5 := Lib.hid hgr5
  clear hgr5
  go_wp2_with fail
  go_ret
  exact ⟨_, _, rfl, HFIN.out _ hg5.out, (Below.grown (Below.refl B W) HGR4.out hB (fun j e => by cases e; exact HB.out.1)).trans (Below.grown (Below.refl B w4) HGR5.out (Nat.le_trans hB HGR4.out.size) (fun j e => by cases e; exact HB.out.1)), grown_trans HGR4.out HGR5.out⟩
end Go.Proofs.YtebhcadolnjplaaGreat
namespace Go.Proofs.YtebhcadolnjplaaGreat
open Go.RowKit

theorem grown_drew {a b : World} {r : Option Nat} (h : a.grownBy b r) : a.grownBy b.drew r := ⟨h.os, h.tape, h.output, h.size, h.block⟩
theorem zeros_len (k : Nat) : (Builtin.zeroCells (Value.agg #[.string ⟨#[]⟩, .string ⟨#[]⟩]).cells k).size = k * 2 := by
  simp [Builtin.zeroCells, Value.cells]
set_option maxRecDepth 100000 in
theorem ins_grow (B g n : Nat) (l : List Rw) (i : Nat) (r : Rw) (vb : Nat) (W : World) (h : OwnR W B (some ⟨g, 0, none⟩) n n l) (hi : i < n) (hB : B ≤ W.heap.size) (hn : n ≤ 100000) (hv : W.heap[vb]? = some (.cells #[.string r.key, .string r.val] 48 (0, 0))) :
    Calls Tryz.prog 92 #[.slice (some ⟨g, 0, none⟩) n n, .int .i64 (i : Int), .slice (some ⟨vb, 0, none⟩) 1 1] W (InsP B n l i r (.slice (some ⟨g, 0, none⟩) n n) W) := by
  have hbg := (h.2.lt g rfl)
  rcases h.2.2 with ⟨e, _⟩ | ⟨g', cap, cur, e, hb', hg, h1, h2, h3, h4⟩
  · cases e
  simp only [Value.slice.injEq, Option.some.injEq, Addr.mk.injEq] at e
  obtain ⟨⟨rfl, -, -⟩, -, rfl⟩ := e
  have hL := h.1
  obtain ⟨L0, rfl⟩ : ∃ L0 : List Value, cur = L0.toArray := ⟨cur.toList, by simp⟩
  simp only [List.size_toArray] at h3 h4
  obtain rfl : L0 = flat2 l := by rw [← h4, List.take_of_length_le (by omega)]
  obtain ⟨i0, hi0, hz0, hz1, hz2⟩ := info_parts info105
  have hvw : vb < W.heap.size := (Array.getElem?_eq_some_iff.1 hv).1
  have hX : (flat2 (l.drop i)).length = (n - i) * 2 := by rw [flat2_len, List.length_drop, hL]
  have hT : (flat2 (l.take i)).length = i * 2 := by rw [flat2_len, List.length_take]; omega
  have hold : (Builtin.firstCells i0.size i (.slice (some ⟨g, 0, none⟩) i n)).run Tryz.prog W.drew = .ok (flat2 (l.take i)).toArray W.drew := by
    rw [hz1]
    exact run_firstCells_some W.drew 2 i ⟨g, 0, none⟩ i n (flat2 (l.take i)) hT (fun j v hj => by
      rw [flat2_take l i (by omega), List.getElem?_take] at hj
      split at hj
      · rw [Addr.add_lit]
        show W.cell? _ = _
        simp only [World.cell?, hg, Nat.zero_add]
        simpa using hj
      · cases hj)
  obtain ⟨G, hG⟩ : ∃ G, G = grownCap W (n + 1) n 48 := ⟨_, rfl⟩
  obtain ⟨Z, hZ⟩ : ∃ Z : List Value, Z = (Builtin.zeroCells (Value.agg #[.string ⟨#[]⟩, .string ⟨#[]⟩]).cells (n + 1 - i)).toList ++ (Builtin.zeroCells (Value.agg #[.string ⟨#[]⟩, .string ⟨#[]⟩]).cells (G - (n + 1))).toList := ⟨_, rfl⟩
  have hGn : n + 1 ≤ G := by rw [hG]; exact grownCap_ge W _ _ _
  have hG63 : G ≤ maxLen := by rw [hG]; exact grownCap_le_maxLen W (n + 1) n 48 (by unfold maxLen; omega)
  have hZl : Z.length = (n + 1 - i) * 2 + (G - (n + 1)) * 2 := by rw [hZ, List.length_append, Array.length_toList, Array.length_toList, zeros_len, zeros_len]
  have hrz : ∀ ty, (Builtin.append_ #[29, 3] ty #[.slice (some ⟨g, 0, none⟩) i n, .int .i64 ((n : Int) + 1 - (i : Int))]).run Tryz.prog W =
      .ok (.slice (some ⟨W.heap.size, 0, none⟩) (n + 1) G) (W.drew.alloc (.cells (flat2 (l.take i) ++ Z).toArray 48)) := fun ty => by
    have h := Lib.run_append_grow_zeros W 29 3 ty 48 i0 _ .i64 .i64 Tryz.underlying29 Tryz.underlying3 hi0 hz0 (some ⟨g, 0, none⟩) i n (flat2 (l.take i)) hold (n + 1 - i) (by omega) (by rw [hz1]; omega) (by omega) (by omega) (by rw [hz2]; omega) (by rw [hz2, show i + (n + 1 - i) = n + 1 from by omega]; exact growslice_fits (by omega) (by omega))
    rw [show i + (n + 1 - i) = n + 1 from by omega] at h
    rw [show (n : Int) + 1 - (i : Int) = ((n + 1 - i : Nat) : Int) from by omega]
    rw [h, ← hG, hZ]
    congr 3
    simp
  obtain ⟨W1, hW1⟩ : ∃ W1, W1 = W.drew.alloc (.cells (flat2 (l.take i) ++ Z).toArray 48) := ⟨_, rfl⟩
  rw [← hW1] at hrz
  obtain ⟨N, hN⟩ : ∃ N, N = W.heap.size := ⟨_, rfl⟩
  have hN1 : W1.heap[N]? = some (.cells (flat2 (l.take i) ++ Z).toArray 48 (0, 0)) := by rw [hW1, hN]; exact heap_alloc_new W.drew _
  have hO1 : Ok W W1 := by rw [hW1]; exact ((Ok.refl W).drewN _).alloc _
  rw [← hN] at hrz
  obtain ⟨X, hXe⟩ : ∃ X, X = flat2 (l.drop i) := ⟨_, rfl⟩
  obtain ⟨Z0, hZ0⟩ : ∃ Z0, Z0 = flat2 (l.take i) ++ Z := ⟨_, rfl⟩
  have hZ0l : Z0.length = G * 2 := by rw [hZ0, List.length_append, hT, hZl]; omega
  have hrl : r.cells.length = 2 := rfl
  have HN1 : Hid (W1.heap[N]? = some (.cells Z0.toArray 48 (0, 0))) := Lib.hid (by rw [hZ0]; exact hN1)
  have HOW := Lib.hid hO1
  have HVC : Hid (∀ j v, r.cells[j]? = some v → W1.cell? ((⟨vb, 0, none⟩ : Addr).add j) = some v) := Lib.hid (fun j v hj => by
    rw [Addr.add_lit]
    refine hO1.cell ?_
    simp only [World.cell?, hv, Nat.zero_add]
    have : r.cells = [.string r.key, .string r.val] := rfl
    rw [this] at hj
    simpa using hj)
  have HR1 : Hid (∀ v ∈ r.cells, v.oneCell' = true) := Lib.hid (by
    intro v hv
    have : r.cells = [.string r.key, .string r.val] := rfl
    rw [this] at hv
    simp only [List.mem_cons, List.not_mem_nil, or_false] at hv
    rcases hv with rfl | rfl <;> rfl)
  have HXL : Hid (X.length = (n - i) * 2) := Lib.hid (by rw [hXe]; exact hX)
  have HX1 : Hid (∀ v ∈ X, v.oneCell' = true) := Lib.hid (by rw [hXe]; exact flat2_one _)
  have HFIT : Hid (i * 2 + r.cells.length ≤ Z0.length) := Lib.hid (by rw [hZ0l, hrl]; omega)
  have HFIT2 : Hid ((i + 1) * 2 + X.length ≤ (splice Z0 (i * 2) r.cells).length) := Lib.hid (by rw [length_splice _ _ _ (by rw [hZ0l, hrl]; omega), hZ0l, hXe, hX]; omega)
  have HSRC : Hid (∀ w', W1.grownBy w' (some N) → ∀ j v, X[j]? = some v → w'.cell? ((⟨g, i * 2, none⟩ : Addr).add j) = some v) := Lib.hid (fun w' hk j v hj => by
    have hjl : j < (n - i) * 2 := by rw [← hX, ← hXe]; exact (List.getElem?_eq_some_iff.1 hj).1
    rw [hXe, flat2_drop l i (by omega), List.getElem?_drop] at hj
    rw [Addr.add_lit]
    refine hk.cell (hO1.cell (w := W) ?_) (fun q => ?_)
    · simp only [World.cell?, hg]
      simpa using hj
    · simp only [Option.some.injEq] at q
      omega)
  have HFIN : Hid (∀ w', w'.heap[N]? = some (.cells (splice (splice Z0 (i * 2) r.cells) ((i + 1) * 2) X).toArray 48 (0, 0)) → OwnR w' B (some ⟨N, 0, none⟩) (n + 1) G (insR l i r)) := Lib.hid (fun w' hw => by
    refine ⟨insR_len l i r n hL (by omega), by rw [flat2_len, insR_len l i r n hL (by omega)], .inr ⟨N, G, _, rfl, by omega, hw, hGn, hG63, ?_, ?_⟩⟩
    · rw [List.size_toArray, length_splice _ _ _ (by rw [length_splice _ _ _ (by rw [hZ0l, hrl]; omega), hZ0l, hXe, hX]; omega), length_splice _ _ _ (by rw [hZ0l, hrl]; omega)]
      exact hZ0l
    · have := splice_out Z0 r.cells X (i * 2) (by rw [hXe, hX, hrl, hZ0l]; omega)
      rw [hrl, show i * 2 + 2 = (i + 1) * 2 from by omega] at this
      rw [this, ← ins_cells l i r n hL (by omega), hXe, hZ0, ← hT, List.take_left])
  have HN := Lib.hid hN
  have hGm : G ≤ 9223372036854775807 := by unfold maxLen at hG63; omega
  have hci : ¬ (n = i) := by omega
  have hci1 : ¬ (G = i) := by omega
  have hci2 : ¬ (G = i + 1) := by omega
  clear h hbg hb' hg h1 h2 h3 h4 hX hv hXe hL hN hN1 hO1 hW1 hZ hZ0 hZ0l hZl hold hT hG hi0 hz0 hz1 hz2 hvw hrl hG63
  have e1 : IntKind.i64.wrap ((n : Int) + 1) = (n : Int) + 1 := IntWalk.i64_in _ (by omega)
  have e2 : IntKind.i64.wrap ((i : Int) + 1) = (i : Int) + 1 := IntWalk.i64_in _ (by omega)
  have e3 : IntKind.i64.wrap ((n : Int) + 1 - (i : Int)) = (n : Int) + 1 - (i : Int) := IntWalk.i64_in _ (by omega)
  have d1 : decide ((i : Int) = (n : Int)) = false := decide_eq_false (by omega)
  have d2 : decide ((n : Int) < (n : Int) + 1) = true := decide_eq_true (by omega)
  have hb1 : (0 : Int) ≤ (i : Int) + 1 := by omega
  have hin : i ≤ n := by omega
  have htn : ((i : Int) + 1).toNat = i + 1 := by omega
  have hb3 : (i : Int) ≤ (n : Int) + 1 := by omega
  go_enter Tryz.func92, Tryz.ntmps92
  go_wp2_with (first
    | (at_builtin; refine Lib.wpList_append_run _ rfl _ _ _ _ rfl _ _ rfl rfl _ _ (hrz _) ?_)
    | (with_reducible refine wpList_copy2 rfl (.tmp 43) (.tmp 44) rfl N (i * 2) (n + 1 - i) (G - i) ⟨vb, 0, none⟩ 1 1 (by simp [Act.eval]) rfl Z0 48 HN1.out r.cells 1 (by simp only [Nat.min_def]; split <;> omega) rfl HVC.out HFIT.out HR1.out ?_; intro w4 hg4 hgr4; have HGR4 := Lib.hid hgr4; clear hgr4))
  go_region_law (refine step_copy2 rfl (.tmp 50) (.tmp 53) rfl N ((i + 1) * 2) (n - i) (G - (i + 1)) ⟨g, i * 2, none⟩ (n - i) (n - i) (by simp [Act.eval, Act.put]; try omega) (by simp [Act.eval, Act.put]; try omega) (splice Z0 (i * 2) r.cells) 48 hg4.out X (n - i) (by simp only [Nat.min_def]; split <;> omega) HXL.out (HSRC.out _ (grown_drew HGR4.out)) HFIT2.out HX1.out ?_; intro w5 hg5 hgr5)
  have HGR5 : Hid (w4.grownBy w5 (some N)) := Lib.hid ⟨hgr5.os, hgr5.tape, hgr5.output, hgr5.size, hgr5.block⟩
  clear hgr5
  go_wp2_with fail
  go_ret
  have hBN : B ≤ N := by rw [HN.out]; exact hB
  have b1 : Below B W W1 := HOW.out.mono hB
  have s1 : W.heap.size ≤ W1.heap.size := HOW.out.size
  have bz : Below W.heap.size W w5 := Below.trans (Below.trans HOW.out (Below.grown (Below.refl W.heap.size W1) HGR4.out s1 (fun j e => by cases e; exact Nat.le_of_eq HN.out.symm))) (Below.grown (Below.refl W.heap.size w4) HGR5.out (by have := HGR4.out.size; omega) (fun j e => by cases e; exact Nat.le_of_eq HN.out.symm))
  exact ⟨_, _, rfl, HFIN.out _ hg5.out, (b1.trans (Below.grown (Below.refl B W1) HGR4.out (by omega) (fun j e => by cases e; exact hBN))).trans (Below.grown (Below.refl B w4) HGR5.out (by have := HGR4.out.size; omega) (fun j e => by cases e; exact hBN)), grown_ok bz⟩
theorem insert_f (B : Nat) (A : Option Addr) (n c : Nat) (l : List Rw) (i : Nat) (r : Rw) (vb : Nat) (W : World) (h : OwnR W B A n c l) (hi : i ≤ n) (hB : B ≤ W.heap.size) (hn : n ≤ 100000) (hv : W.heap[vb]? = some (.cells #[.string r.key, .string r.val] 48 (0, 0))) (hne : ∀ a, A = some a → vb ≠ a.block) :
    Calls Tryz.prog 92 #[.slice A n c, .int .i64 (i : Int), .slice (some ⟨vb, 0, none⟩) 1 1] W (InsP B n l i r (.slice A n c) W) := by
  by_cases e : i = n
  · subst e
    exact ins_end B A i c l r vb W h hB hn hv
  · rcases h.nc with ⟨_, q, _⟩ | ⟨g, rfl⟩
    · omega
    · have hc : n ≤ c := by
        rcases h.2.2 with ⟨e, _⟩ | ⟨_, _, _, e, _, _, h1, _⟩
        · cases e
        · simp only [Value.slice.injEq] at e
          rw [e.2.2]; exact h1
      by_cases q : n + 1 ≤ c
      · exact ins_room B g n c l i r vb W h (by omega) q hB hn hv (hne _ rfl)
      · obtain rfl : c = n := by omega
        exact ins_grow B g c l i r vb W h (by omega) hB hn hv
end Go.Proofs.YtebhcadolnjplaaGreat
