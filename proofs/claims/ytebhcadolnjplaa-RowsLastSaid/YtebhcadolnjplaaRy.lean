/- Rows: copy of rows within memory. -/
import Derived.Test.YtebhcadolnjplaaRx
import Derived.Laws.CopyOwn
import Derived.Lib.Overlaps
import Derived.Lib.AppendZerosOnto
namespace Go.Proofs.Ytebhcadolnjplaa
open Go.RowKit

theorem run_copy_rows (w : World) (ty : TypeId) (g o dLen dCap : Nat) (a : Addr) (sLen sCap : Nat) (cur : List Value) (t : TypeId) (cs : List Value) (m : Nat)
    (hg : w.heap[g]? = some (.cells cur.toArray t (0, 0))) (hm : m = Nat.min sLen dLen) (hn : cs.length = m * 2)
    (hsrc : ∀ j v, cs[j]? = some v → w.cell? (a.add j) = some v) (hfit : o + cs.length ≤ cur.length) (h1 : ∀ v ∈ cs, v.oneCell' = true) :
    (Builtin.copy_ #[66, 66] ty #[.slice (some ⟨g, o, none⟩) dLen dCap, .slice (some a) sLen sCap]).run Try.prog w =
      .ok (goInt m) (w.setRow g (splice cur o cs).toArray) := by
  have hl := run_loadCells_list (P := Try.prog) w a cs hsrc
  have hst := run_storeCells_at Try.prog g o t cs 0 cur.toArray w hg (by simpa using hfit) h1
  obtain ⟨i0, hi, hz0, hz1, hz2⟩ := info_parts info105
  rw [hn] at hl
  simp [Builtin.copy_, run_underlying Try.underlying66, Builtin.lenOf, Builtin.firstCells, sizeOf, typeInfo, hi, hz1, ← hm, hl, hst, splice, hn]
/-- The world behind a write into the block g alone. -/
theorem grown_setRow (w : World) (g : Nat) (cs : Array Value) : w.grownBy (w.setRow g cs) (some g) :=
  ⟨rfl, rfl, rfl, by simp [World.setRow], fun k _ hk => setRow_other w g k cs (fun e => hk (by rw [e]))⟩
theorem wpList_copy2 {w : World} {ops : Array Oper} {rest : List Oper} {o : Oper} {a : Act} {Q : Exit → Act → World → Prop} (hgd : o.guard = none) (d s : Operand)
    (ho : o.op = .call { callee := .builtin .copy, args := #[d, s], argTypes := #[66, 66] })
    (g off dLen dCap : Nat) (ad : Addr) (sLen sCap : Nat) (hd : a.eval d = .slice (some ⟨g, off, none⟩) dLen dCap) (hs : a.eval s = .slice (some ad) sLen sCap)
    (cur : List Value) (t : TypeId) (hg : w.heap[g]? = some (.cells cur.toArray t (0, 0))) (cs : List Value) (m : Nat) (hm : m = Nat.min sLen dLen) (hn : cs.length = m * 2)
    (hsrc : ∀ j v, cs[j]? = some v → w.cell? (ad.add j) = some v) (hfit : off + cs.length ≤ cur.length) (h1 : ∀ v ∈ cs, v.oneCell' = true)
    (h : ∀ w', Hid (w'.heap[g]? = some (.cells (splice cur off cs).toArray t (0, 0))) → w.grownBy w' (some g) → wpList Try.prog ops Q rest (a.put o.dst (goInt m)) w') :
    wpList Try.prog ops Q (o :: rest) a w := by
  have hrun := run_copy_rows w o.type g off dLen dCap ad sLen sCap cur t cs m hg hm hn hsrc hfit h1
  refine wpList_plain hgd fun K hK => ?_
  unfold Oper.wp
  simp [execOp, ho, resolve, invoke, builtin, hd, hs, hrun, Result.andThen]
  exact hK _ _ (h _ (show _ = _ from setRow_heap w g _ _ t _ hg) (grown_setRow w g _))
theorem step_copy2 {ops : Array Oper} {o : Oper} {a : Act} {w : World} {K : Act → World → Prop} {Q : Exit → Act → World → Prop} {E : Prop} (hgd : o.guard = none) (d s : Operand)
    (ho : o.op = .call { callee := .builtin .copy, args := #[d, s], argTypes := #[66, 66] })
    (g off dLen dCap : Nat) (ad : Addr) (sLen sCap : Nat) (hd : a.eval d = .slice (some ⟨g, off, none⟩) dLen dCap) (hs : a.eval s = .slice (some ad) sLen sCap)
    (cur : List Value) (t : TypeId) (hg : w.heap[g]? = some (.cells cur.toArray t (0, 0))) (cs : List Value) (m : Nat) (hm : m = Nat.min sLen dLen) (hn : cs.length = m * 2)
    (hsrc : ∀ j v, cs[j]? = some v → w.cell? (ad.add j) = some v) (hfit : off + cs.length ≤ cur.length) (h1 : ∀ v ∈ cs, v.oneCell' = true)
    (h : ∀ w', Hid (w'.heap[g]? = some (.cells (splice cur off cs).toArray t (0, 0))) → w.grownBy w' (some g) → K (a.put o.dst (goInt m)) w') :
    if Region.wanted o (yielded ops a.tmps) = true then Oper.wp Try.prog o a w K Q else E := by
  have hw : Region.wanted o (yielded ops a.tmps) = true := by simp [Region.wanted, hgd]
  rw [if_pos hw]
  have hrun := run_copy_rows w o.type g off dLen dCap ad sLen sCap cur t cs m hg hm hn hsrc hfit h1
  unfold Oper.wp
  simp [execOp, ho, resolve, invoke, builtin, hd, hs, hrun, Result.andThen]
  exact h _ (show _ = _ from setRow_heap w g _ _ t _ hg) (grown_setRow w g _)
theorem grown_trans {a b d : World} {r : Option Nat} (h : a.grownBy b r) (k : b.grownBy d r) : a.grownBy d r :=
  ⟨k.os.trans h.os, k.tape.trans h.tape, k.output.trans h.output, Nat.le_trans h.size k.size, fun j hj hn => (k.block j (Nat.lt_of_lt_of_le hj h.size) hn).trans (h.block j hj hn)⟩
theorem grown_ok {a b : World} {r : Option Nat} (h : Ok a b) : a.grownBy b r := ⟨h.os, h.tape, h.output, h.size, fun j hj _ => h.block j hj⟩
def insR (l : List Rw) (i : Nat) (r : Rw) : List Rw := l.take i ++ (r :: l.drop i)
def InsP (B n : Nat) (l : List Rw) (i : Nat) (r : Rw) (v : Value) (w : World) (e : Ending) (w' : World) : Prop :=
  ∃ A' c', e = .returned (.slice A' (n + 1) c') ∧ OwnR w' B A' (n + 1) c' (insR l i r) ∧ Below B w w' ∧ w.grownBy w' v.ownBlock
theorem RowsIn.one (w : World) (vb : Nat) (r : Rw) (hv : w.heap[vb]? = some (.cells #[.string r.key, .string r.val] 105 (0, 0))) : RowsIn w (some ⟨vb, 0, none⟩) [r] := fun j hj => by
  obtain rfl : j = 0 := by simpa using hj
  exact ⟨vb, 0, rfl, by simp [World.cell?, hv, rwA], by simp [World.cell?, hv, rwA]⟩
set_option maxRecDepth 100000 in
theorem ins_end (B : Nat) (A : Option Addr) (n c : Nat) (l : List Rw) (r : Rw) (vb : Nat) (W : World) (h : OwnR W B A n c l) (hB : B ≤ W.heap.size) (hn : n ≤ 100000) (hv : W.heap[vb]? = some (.cells #[.string r.key, .string r.val] 105 (0, 0))) :
    Calls Try.prog 141 #[.slice A n c, .int .i64 (n : Int), .slice (some ⟨vb, 0, none⟩) 1 1] W (InsP B n l n r (.slice A n c) W) := by
  have HO := Lib.hid h
  have HX := Lib.hid (RowsIn.one W vb r hv)
  have HE : Hid (insR l n r = l ++ [r]) := Lib.hid (by rw [insR, ← h.1, List.take_of_length_le (Nat.le_refl _), List.drop_of_length_le (Nat.le_refl _)])
  have HOWN : Hid (∀ w', W.grownBy w' (Value.slice A n c).ownBlock → Below B W w') := Lib.hid (fun w' k => Below.grown (Below.refl B W) k hB (fun j e => (h.2.lt j e).1))
  rcases h.nc with ⟨rfl, rfl, rfl⟩ | ⟨g, rfl⟩
  · clear h hv
    go_enter Try.func141, Try.ntmps141
    go_wp2_with (at_builtin; go_must (refine wpList_appRows rfl (.tmp 23) (.tmp 24) rfl B none 0 0 l rfl HO.out vb 0 1 1 [r] rfl rfl HX.out (by omega) hB ?_; intro A' c' w2 hown2 hg2; have HOWN2 := Lib.hid hown2; have HG2 := Lib.hid hg2; clear hown2 hg2; simp only [Nat.zero_add]))
    go_ret
    exact ⟨_, _, rfl, by rw [HE.out]; exact HOWN2.out, HOWN.out _ HG2.out, HG2.out⟩
  · clear h hv
    go_enter Try.func141, Try.ntmps141
    go_wp2_with (at_builtin; go_must (refine wpList_appRows rfl (.tmp 23) (.tmp 24) rfl B (some ⟨g, 0, none⟩) n c l rfl HO.out vb 0 1 1 [r] rfl rfl HX.out (by omega) hB ?_; intro A' c' w2 hown2 hg2; have HOWN2 := Lib.hid hown2; have HG2 := Lib.hid hg2; clear hown2 hg2))
    all_goals go_ret
    all_goals exact ⟨_, _, rfl, by rw [HE.out]; exact HOWN2.out, HOWN.out _ HG2.out, HG2.out⟩
end Go.Proofs.Ytebhcadolnjplaa
