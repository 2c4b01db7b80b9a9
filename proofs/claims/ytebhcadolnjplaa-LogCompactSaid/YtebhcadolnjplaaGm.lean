/- A log is cut: the entries from an index on go. -/
import Derived.Test.YtebhcadolnjplaaGl
import Derived.StillTailTactics
namespace Go.Proofs.Ytebhcadolnjplaa
open Go.RowKit

theorem el22 : Try.prog.elem 22 = 44 := by kernel_rfl
theorem un22 : Try.prog.underlying 22 = some (.slice (Try.prog.elem 22)) := by rw [el22]; exact Try.underlying22
theorem low22 (A : Option Addr) (n c q : Nat) (hq : q ≤ c) (wx : World) : (Instr.slice 22 (.slice A n c) none (some (.int .i64 (q : Int))) none).run Try.prog wx = .ok (.slice A q c) wx := by
  rw [run_slice_h wx 22 A n c un22 .i64 (q : Int) (Int.natCast_nonneg _) (by omega), el22, Try.sizeOf44]
  have e : A.map (·.add (0 * 7)) = A := by cases A <;> simp [Addr.add]
  simp only [Result.andThen, sliced, e]
  simp
def LG.cutE (L : LG) (m : Nat) : LG := { L with es := L.es.take m }
def LG.cutX (L : LG) (xs : List Int) : LG := { L with xs := xs }
theorem LogAt.cap {S : Nat → Prop} {L : LG} {w : World} (h : LogAt S L w) : L.es.length ≤ L.cE := by
  obtain ⟨rs, h1, _⟩ := h.rows
  rcases h1.2 with ⟨e, h0⟩ | ⟨g, cap, cur, e, _, _, h3, _⟩
  · omega
  · simp only [Value.slice.injEq] at e
    omega
theorem enA_take (l : List En) (m j : Nat) (h : j < m) : enA (l.take m) j = enA l j := by
  simp only [enA, List.getD_eq_getElem?_getD]
  rw [List.getElem?_take_of_lt h]
theorem erA_take (l : List ER) (m j : Nat) (h : j < m) : erA (l.take m) j = erA l j := by
  simp only [erA, List.getD_eq_getElem?_getD]
  rw [List.getElem?_take_of_lt h]
theorem cutE_at {S : Nat → Prop} {L : LG} {w : World} (h : LogAt S L w) (m : Nat) (hm : m ≤ L.es.length) : LogAt S (L.cutE m) (w.setCell ⟨L.p, 6, none⟩ (.slice L.AE m L.cE)) ∧ Kp (Ow L.p L.AE L.AC) w (w.setCell ⟨L.p, 6, none⟩ (.slice L.AE m L.cE)) := by
  have hk1 : Kp (fun b => b = L.p) w (w.setCell ⟨L.p, 6, none⟩ (.slice L.AE m L.cE)) := Kp.set (S := fun b => b = L.p) (Kp.refl _ w) (.inr rfl) _ _
  have hlen : (L.es.take m).length = m := by rw [List.length_take]; omega
  obtain ⟨rs, h1, h2, h3⟩ := h.rows
  have b := h.box
  have hp : S L.p := h.own _ (.inl rfl)
  refine ⟨⟨⟨?_, ?_, ?_, ?_, ?_, ?_, ?_, ?_, ?_, fun k => by rw [World.frozen?_setCell]; exact b.f k⟩, ⟨rs.take m, ?_, ?_, fun j hj => ?_⟩, ?_, h.own, h.neE, h.neC, h.neX, h.lo, h.hi, ?_, h.lx, fun j hj => ?_⟩, Kp.set (Kp.refl _ w) (.inr (.inl rfl)) _ _⟩
  · show World.cell? _ ⟨L.p, 0, none⟩ = _; rw [far_c _ _ _ _ _ (by decide)]; exact b.c0
  · show World.cell? _ ⟨L.p, 1, none⟩ = _; rw [far_c _ _ _ _ _ (by decide)]; exact b.c1
  · show World.cell? _ ⟨L.p, 2, none⟩ = _; rw [far_c _ _ _ _ _ (by decide)]; exact b.c2
  · show World.cell? _ ⟨L.p, 3, none⟩ = _; rw [far_c _ _ _ _ _ (by decide)]; exact b.c3
  · show World.cell? _ ⟨L.p, 4, none⟩ = _; rw [far_c _ _ _ _ _ (by decide)]; exact b.c4
  · show World.cell? _ ⟨L.p, 5, none⟩ = _; rw [far_c _ _ _ _ _ (by decide)]; exact b.c5
  · show World.cell? _ ⟨L.p, 6, none⟩ = some (.slice L.AE (L.es.take m).length L.cE)
    rw [World.cell?_setCell_same _ _ _ b.c6, hlen]
  · show World.cell? _ ⟨L.p, 7, none⟩ = _; rw [far_c _ _ _ _ _ (by decide)]; exact b.c7
  · show World.cell? _ ⟨L.p, 8, none⟩ = _; rw [far_c _ _ _ _ _ (by decide)]; exact b.c8
  · show World.ownsRow _ 0 44 7 (.slice L.AE (L.es.take m).length L.cE) (L.es.take m).length _
    rw [hlen, flat7_take]
    have ho : w.ownsRow 0 44 7 (.slice L.AE m L.cE) m ((flat7 rs).take (m * 7)) := by
      refine ⟨by rw [List.length_take, flat7_len, h2]; omega, ?_⟩
      rcases h1.2 with ⟨e, h0⟩ | ⟨g, cap, cur, e, hb, hg, g1, g2, g3, g4⟩
      · simp only [Value.slice.injEq] at e
        obtain ⟨e1, _, e3⟩ := e
        refine .inl ⟨?_, by omega⟩
        rw [e1, e3, show m = 0 from by omega]
      · simp only [Value.slice.injEq] at e
        obtain ⟨e1, _, e3⟩ := e
        subst e3
        rw [e1]
        refine .inr ⟨g, L.cE, cur, rfl, hb, hg, by omega, g2, g3, ?_⟩
        rw [← g4, List.take_take]
        congr 1
        omega
    refine own_set ho fun g hg' => ?_
    cases hA' : L.AE with
    | none => rw [hA'] at hg'; cases hg'
    | some a => rw [hA'] at hg'; have := h.neE a hA'; simp [Value.ownBlock] at hg'; omega
  · show (rs.take m).length = (L.es.take m).length
    rw [List.length_take, List.length_take, h2]
  · have hj' : j < m := by rw [← hlen]; exact hj
    show EnAt _ _ (erA (rs.take m) j) (enA (L.es.take m) j)
    rw [erA_take rs m j hj', enA_take L.es m j hj']
    exact (h3 j (by omega)).kp hk1 (fun b e => e ▸ hp)
  · refine own_set h.cfgs fun g hg' => ?_
    cases hC : L.AC with
    | none => rw [show (L.cutE m).AC = none from hC] at hg'; cases hg'
    | some a' => rw [show (L.cutE m).AC = some a' from hC] at hg'; have := h.neC a' hC; simp [Value.ownBlock] at hg'; omega
  · show (L.es.take m).length ≤ 1000
    have := h.le
    omega
  · have hj' : j < m := by rw [← hlen]; exact hj
    show EnLe (enA (L.es.take m) j)
    rw [enA_take L.es m j hj']
    exact h.sm j (by omega)
/-- Numbers were taken out of the configurations; then the log's cell is stored. -/
theorem cutX_at {S : Nat → Prop} {L : LG} {w w1 : World} (h : LogAt S L w) (zs : List Int) (hz : zs.length ≤ L.xs.length) (hd : OwnZ w1 0 (.slice L.AC zs.length L.cC) zs) (hk : Kp (fun b => ∃ a, L.AC = some a ∧ a.block = b) w w1) :
    LogAt S (L.cutX zs) (w1.setCell ⟨L.p, 7, none⟩ (.slice L.AC zs.length L.cC)) ∧ Kp (Ow L.p L.AE L.AC) w (w1.setCell ⟨L.p, 7, none⟩ (.slice L.AC zs.length L.cC)) := by
  have hkC : Kp (Ow L.p L.AE L.AC) w w1 := (Kp.refl _ w).then hk fun j _ e => .inr (.inr e)
  have hks : Kp (Ow L.p L.AE L.AC) w (w1.setCell ⟨L.p, 7, none⟩ (.slice L.AC zs.length L.cC)) := hkC.set (.inr (.inl rfl)) _ _
  obtain ⟨rs, h1, h2, h3⟩ := h.rows
  have b : Bx L w1 := h.box.kp hk (fun ⟨a, ha, q⟩ => h.neC a ha q)
  refine ⟨⟨⟨?_, ?_, ?_, ?_, ?_, ?_, ?_, ?_, ?_, fun k => by rw [World.frozen?_setCell]; exact b.f k⟩, ⟨rs, ?_, h2, fun j hj => (h3 j hj).kp hks h.own⟩, ?_, h.own, h.neE, h.neC, h.neX, h.lo, h.hi, h.le, ?_, h.sm⟩, hks⟩
  · show World.cell? _ ⟨L.p, 0, none⟩ = _; rw [far_c _ _ _ _ _ (by decide)]; exact b.c0
  · show World.cell? _ ⟨L.p, 1, none⟩ = _; rw [far_c _ _ _ _ _ (by decide)]; exact b.c1
  · show World.cell? _ ⟨L.p, 2, none⟩ = _; rw [far_c _ _ _ _ _ (by decide)]; exact b.c2
  · show World.cell? _ ⟨L.p, 3, none⟩ = _; rw [far_c _ _ _ _ _ (by decide)]; exact b.c3
  · show World.cell? _ ⟨L.p, 4, none⟩ = _; rw [far_c _ _ _ _ _ (by decide)]; exact b.c4
  · show World.cell? _ ⟨L.p, 5, none⟩ = _; rw [far_c _ _ _ _ _ (by decide)]; exact b.c5
  · show World.cell? _ ⟨L.p, 6, none⟩ = _; rw [far_c _ _ _ _ _ (by decide)]; exact b.c6
  · show World.cell? _ ⟨L.p, 7, none⟩ = some (.slice L.AC zs.length L.cC)
    rw [World.cell?_setCell_same _ _ _ b.c7]
  · show World.cell? _ ⟨L.p, 8, none⟩ = _; rw [far_c _ _ _ _ _ (by decide)]; exact b.c8
  · refine own_set (hk.owns h1 fun g hg' => ?_) fun g hg' => ?_
    · rintro ⟨a, ha, rfl⟩
      cases hC : L.AE with
      | none => rw [show (L.cutX zs).AE = none from hC] at hg'; cases hg'
      | some a' => rw [show (L.cutX zs).AE = some a' from hC] at hg'; have := h.neX a' a hC ha; simp [Value.ownBlock] at hg'; omega
    · cases hC : L.AE with
      | none => rw [show (L.cutX zs).AE = none from hC] at hg'; cases hg'
      | some a' => rw [show (L.cutX zs).AE = some a' from hC] at hg'; have := h.neE a' hC; simp [Value.ownBlock] at hg'; omega
  · show OwnZ _ 0 (.slice L.AC zs.length L.cC) zs
    refine own_set hd fun g hg' => ?_
    cases hA' : L.AC with
    | none => rw [hA'] at hg'; cases hg'
    | some a => rw [hA'] at hg'; have := h.neC a hA'; simp [Value.ownBlock] at hg'; omega
  · show zs.length ≤ 1000
    have := h.lx
    omega
/-- The same log, of its entries the first m, of its configurations some. -/
structure Cutted (S : Nat → Prop) (L : LG) (m : Nat) (w : World) (zs : List Int) (w' : World) : Prop where
  log : LogAt S ((L.cutE m).cutX zs) w'
  len : zs.length ≤ L.xs.length
  kp : Kp (Ow L.p L.AE L.AC) w w'
def CutP (S : Nat → Prop) (L : LG) (m : Nat) (w : World) (e : Ending) (w' : World) : Prop := e = .returned (.tuple #[]) ∧ ∃ zs, Cutted S L m w zs w'
set_option maxRecDepth 100000 in
set_option maxHeartbeats 4000000 in
theorem cut_f (S : Nat → Prop) (L : LG) (m : Nat) (w : World) (h : LogAt S L w) (hm : m ≤ L.es.length) : Calls Try.prog 58 #[.pointer (some ⟨L.p, 0, none⟩), .int .i64 (L.i + m + 1)] w (CutP S L m w) := by
  have h0 := h.lo
  have h1 := h.hi
  have h2 := h.le
  have e1 : IntKind.i64.wrap (L.i + (m : Int) + 1 - L.i) = (m : Int) + 1 := by rw [show L.i + (m : Int) + 1 - L.i = (m : Int) + 1 from by omega]; exact IntWalk.i64_in _ (by omega)
  have e2 : IntKind.i64.wrap (m : Int) = (m : Int) := IntWalk.i64_in _ (by omega)
  have hsl := low22 L.AE L.es.length L.cE m (Nat.le_trans hm h.cap)
  have HB : Hid ((w.alloc (.cells #[.int .i64 (L.i + (m : Int) + 1)] 3)).cell? ⟨w.heap.size, 0, none⟩ = some (.int .i64 (L.i + (m : Int) + 1))) := Lib.hid (box_cell _ _ _ _ _ rfl)
  have HO : Hid (Ok w (w.alloc (.cells #[.int .i64 (L.i + (m : Int) + 1)] 3))) := Lib.hid ((Ok.refl w).alloc _)
  have HL := Lib.hid (h.ok HO.out)
  have HQ : Hid (∀ b, Ow L.p L.AE L.AC b → b ≠ w.heap.size) := Lib.hid fun b hb e => by have := h.lt b hb; omega
  have HM := Lib.hid hm
  clear h hm
  go_enter Try.func58, Try.ntmps58
  go_upto_region 1 with fail
  rename_i K0 hK0
  have HK0 := Lib.hid hK0
  clear hK0
  generalize w.alloc (.cells #[.int .i64 (L.i + (m : Int) + 1)] 3) = w0 at *
  obtain ⟨g, hg⟩ : ∃ g, w.heap.size = g := ⟨_, rfl⟩
  rw [hg] at HB HQ ⊢
  clear hg
  have c0 := HL.out.box.c0
  have c6 := HL.out.box.c6
  have cb := HB.out
  have f6 := HL.out.box.f 6
  go_still_tail 16, (by kernel_rfl)
  change wpList _ _ _ _ _ w0.drew
  have HO1 : Hid (Ok w w0.drew) := Lib.hid (HO.out.drew)
  have HL1 := Lib.hid (HL.out.ok ((Ok.refl w0).drew))
  have HB1 := Lib.hid (((Ok.refl w0).drew).cell HB.out)
  clear c0 c6 cb f6 HL HB HO
  generalize w0.drew = w1 at *
  have c6 := HL1.out.box.c6
  have f6 := HL1.out.box.f 6
  go_wp2_with fail
  refine HK0.out _ _ ?_
  clear HK0 c6 f6
  have HK2 : Hid (Kp (Ow L.p L.AE L.AC) w (w1.setCell ⟨L.p, 6, none⟩ (.slice L.AE m L.cE))) := Lib.hid ((Kp.of HO1.out).set (.inr (.inl rfl)) _ _)
  have HL2 : Hid (LogAt S (L.cutE m) (w1.setCell ⟨L.p, 6, none⟩ (.slice L.AE m L.cE))) := Lib.hid (cutE_at HL1.out m HM.out).1
  have HB2 : Hid ((w1.setCell ⟨L.p, 6, none⟩ (.slice L.AE m L.cE)).cell? ⟨g, 0, none⟩ = some (.int .i64 (L.i + (m : Int) + 1))) := Lib.hid (by
    rw [World.cell?_setCell_far _ _ _ _ (by have := HQ.out L.p (.inl rfl); simpa using this)]; exact HB1.out)
  clear HL1 HB1 HO1
  generalize w1.setCell ⟨L.p, 6, none⟩ (.slice L.AE m L.cE) = w2 at *
  have c7 : w2.cell? ⟨L.p, 7, none⟩ = some (.slice L.AC L.xs.length L.cC) := HL2.out.box.c7
  have hdel := del_f 103 g (fun x => decide (L.i + (m : Int) + 1 ≤ x)) L.AC L.xs.length L.cC L.xs rfl (by have := HL2.out.lx; exact Nat.le_trans this (by decide)) w2 HL2.out.cfgs call103 (fun x w' k => cutFn_f g x _ w' (k.cell HB2.out (fun ⟨a, ha, e⟩ => HQ.out g (.inr (.inr ⟨a, ha, e⟩)) rfl)))
  go_wp2_with fail
  refine hdel.mono ?_
  clear hdel
  rintro _ w3 ⟨rfl, hz, hk⟩
  generalize hzs : (L.xs.filter fun x => !decide (L.i + (m : Int) + 1 ≤ x)) = zs at *
  have HZL : Hid (zs.length ≤ L.xs.length) := Lib.hid (by rw [← hzs]; exact List.length_filter_le _ _)
  clear hzs
  have HX := Lib.hid (cutX_at HL2.out zs HZL.out hz hk)
  have d7 : w3.cell? ⟨L.p, 7, none⟩ = some (.slice L.AC L.xs.length L.cC) := hk.cell c7 (fun ⟨a, ha, e⟩ => HL2.out.neC a ha e)
  have f7 : w3.frozen? ⟨L.p, 7, none⟩ = false := by
    rw [World.frozen?_of_block (w := w2) (hk.block L.p HL2.out.box.lt (fun ⟨a, ha, e⟩ => HL2.out.neC a ha e))]; exact HL2.out.box.f 7
  clear c7 hz hk
  go_wp2_with fail
  refine bodyPost_ret (v := .tuple #[]) (by simp [results, Try.results58, go_sem]; try rfl) rfl ?_
  exact ⟨rfl, zs, HX.out.1, HZL.out, HK2.out.then HX.out.2 (fun _ _ e => e)⟩
end Go.Proofs.Ytebhcadolnjplaa
