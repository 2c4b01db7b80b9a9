/- A log is laid on another base: the pieces. -/
import Derived.Test.YtebhcadolnjplaaHj
import Derived.Test.YtebhcadolnjplaaGm
namespace Go.Proofs.Ytebhcadolnjplaa
open Go.RowKit

theorem ownsRow_lower {w : World} {b b' e size n : Nat} {v : Value} {xs : List Value} (h : w.ownsRow b e size v n xs) (k : b' ≤ b) : w.ownsRow b' e size v n xs := by
  refine ⟨h.1, ?_⟩
  rcases h.2 with h0 | ⟨g, cap, cur, rfl, hb, hh, hr⟩
  · exact .inl h0
  · exact .inr ⟨g, cap, cur, rfl, Nat.le_trans k hb, hh, hr⟩
theorem flat7_mem (l : List ER) (j : Nat) (h : j < l.length * 7) : (flat7 l)[j]? = (erA l (j / 7)).cells[j % 7]? := by
  have := flat7_at l (j / 7) (j % 7) (by omega) (by omega)
  rwa [show j / 7 * 7 + j % 7 = j from by omega] at this
theorem wpList_appE {ops : Array Oper} {rest : List Oper} {o : Oper} {a : Act} {w : World} {Q : Exit → Act → World → Prop} (hgd : o.guard = none) (s x : Operand)
    (ho : o.op = .call { callee := .builtin .append, args := #[s, x], argTypes := #[22, 22] })
    (base : Nat) (v : Value) (hs : a.eval s = v) (hown : w.ownsRow base 44 7 v 0 []) (b off n c : Nat) (rs : List ER) (hrs : rs.length = n) (hx : a.eval x = .slice (some ⟨b, off, none⟩) n c)
    (hin : ∀ j, j < n → ∀ k, k < 7 → w.cell? ⟨b, off + j * 7 + k, none⟩ = (erA rs j).cells[k]?) (hn : n ≤ 1000) (hbase : base ≤ w.heap.size)
    (h : ∀ A c w', w'.ownsRow base 44 7 (.slice A n c) n (flat7 rs) → Below base w w' → wpList Try.prog ops Q rest (a.put o.dst (.slice A n c)) w') : wpList Try.prog ops Q (o :: rest) a w := by
  obtain ⟨i0, hi, hz0, hz1, hz2⟩ := info_parts info44
  refine wpList_append_own _ hgd s x 22 ho base 44 i0 _ 7 136 Try.underlying22 hi hz0 hz1 hz2 rfl (by decide) v 0 [] hs hown ⟨b, off, none⟩ n c (flat7 rs) hx (by rw [flat7_len, hrs]) ?_ (flat7_one rs) (by unfold maxLen; omega) (by omega) hbase ?_
  · intro j u hu
    have hj : j < rs.length * 7 := by
      rw [← flat7_len]
      exact (List.getElem?_eq_some_iff.1 hu).1
    rw [flat7_mem rs j hj] at hu
    have e : (⟨b, off, none⟩ : Addr).add j = ⟨b, off + j / 7 * 7 + j % 7, none⟩ := by
      rw [show off + j / 7 * 7 + j % 7 = off + j from by omega]; unfold Addr.add; split <;> simp_all
    rw [e, hin (j / 7) (by omega) (j % 7) (by omega), hu]
  · intro v' w' h2 h3 _
    have hb : Below base w w' := (Below.refl base w).grown h3 hbase (fun k hk => (World.ownsRow.lt hown k hk).1)
    rw [Nat.zero_add, List.nil_append] at h2
    have hv : ∃ A c, v' = .slice A n c := by
      rcases h2.2 with ⟨rfl, q⟩ | ⟨g, cap, cur, rfl, _⟩
      · exact ⟨none, 0, by rw [q]⟩
      · exact ⟨_, _, rfl⟩
    obtain ⟨A, c', rfl⟩ := hv
    exact h A c' w' h2 hb
def CloneP (n : Nat) (rs : List ER) (W : World) (e : Ending) (w' : World) : Prop := ∃ A c, e = .returned (.slice A n c) ∧ w'.ownsRow W.heap.size 44 7 (.slice A n c) n (flat7 rs) ∧ Ok W w'
set_option maxRecDepth 100000 in
theorem cloneE_f (A : Option Addr) (n c : Nat) (rs : List ER) (W : World) (hrs : rs.length = n) (hn : n ≤ 1000) (h0 : A = none → n = 0 ∧ c = 0) (h : ∀ j, j < n → ∃ b off, A = some ⟨b, off, none⟩ ∧ ∀ k, k < 7 → W.cell? ⟨b, off + j * 7 + k, none⟩ = (erA rs j).cells[k]?) (hs : ∀ a, A = some a → a.spot = none) :
    Calls Try.prog 107 #[.slice A n c] W (CloneP n rs W) := by
  cases A with
  | none =>
    obtain ⟨rfl, rfl⟩ := h0 rfl
    obtain rfl : rs = [] := List.eq_nil_of_length_eq_zero hrs
    clear h h0
    have heq := fun w => Lib.run_eql_slice_nil_nil (P := Try.prog) w 0 0 un22
    go_enter Try.func107, Try.ntmps107
    go_wp2_with fail
    go_ret
    exact ⟨none, 0, rfl, World.ownsRow_nil _ _ _ _, Ok.refl _⟩
  | some ad =>
    obtain ⟨b, off, spot⟩ := ad
    obtain rfl : spot = none := hs _ rfl
    have HIN : Hid (∀ j, j < n → ∀ k, k < 7 → W.cell? ⟨b, off + j * 7 + k, none⟩ = (erA rs j).cells[k]?) := Lib.hid fun j hj => by
      obtain ⟨b', off', e, hc⟩ := h j hj
      simp only [Option.some.injEq, Addr.mk.injEq] at e
      obtain ⟨rfl, rfl, _⟩ := e
      exact hc
    have HO : Hid ((W.alloc (.cells #[] 44)).ownsRow W.heap.size 44 7 (.slice (some ⟨W.heap.size, 0, none⟩) 0 0) 0 []) := Lib.hid (World.ownsRow_lit (base := W.heap.size) (e := 44) (size := 7) W #[] 0 (Nat.le_refl _) (by decide) (by decide))
    have HX : Hid (∀ j, j < n → ∀ k, k < 7 → (W.alloc (.cells #[] 44)).cell? ⟨b, off + j * 7 + k, none⟩ = (erA rs j).cells[k]?) := Lib.hid fun j hj k hk => by
      have hl : k < (erA rs j).cells.length := hk
      have := HIN.out j hj k hk
      rw [List.getElem?_eq_getElem hl] at this ⊢
      exact ((Ok.refl W).alloc _).cell this
    have HR := Lib.hid hrs
    clear h hrs hs h0
    have heq := fun w => Lib.run_eql_slice_some_nil (P := Try.prog) w ⟨b, off, none⟩ n c un22
    go_enter Try.func107, Try.ntmps107
    go_wp2_with (at_builtin; go_must (refine wpList_appE rfl (.tmp 5) (.tmp 6) rfl W.heap.size (.slice (some ⟨W.heap.size, 0, none⟩) 0 0) rfl HO.out b off n c rs HR.out rfl HX.out hn (by rw [World.size_alloc]; omega) ?_; intro A' c' w2 hown2 hbel2; have HOWN2 := Lib.hid hown2; have HBEL2 := Lib.hid hbel2; clear hown2 hbel2))
    go_ret
    exact ⟨_, _, rfl, HOWN2.out, Below.trans ((Ok.refl W).alloc _) HBEL2.out⟩
theorem call108 (args : Array Value) (w : World) : (callFunc 108 args).run Try.prog w = .ok (.enter 108 args) w := by
  have hn : ¬ Try.f108.name = "runtime.NumGoroutine" := by decide
  have hb : ¬ Try.f108.body = none := fun h => by
    have h2 : Try.f108.body.isNone = false := by kernel_rfl
    rw [h] at h2; cases h2
  simp [callFunc, go_sem, hn, hb]
theorem standFn_f (p : Nat) (x v : Int) (w : World) (c : w.cell? ⟨p, 0, none⟩ = some (.int .i64 v)) : Calls Try.prog 108 #[.int .i64 x, .pointer (some ⟨p, 0, none⟩)] w (Ret w (.bool (decide (x ≤ v)))) := by
  obtain ⟨R, hR⟩ : ∃ R, decide (x ≤ v) = R := ⟨_, rfl⟩
  rw [hR]
  go_enter Try.func108, Try.ntmps108
  go_wp2_with fail
  go_ret
  exact ⟨rfl, Ok.refl _⟩

def LG.stE (L : LG) (A : Option Addr) (c : Nat) (es : List En) : LG := { L with AE := A, cE := c, es := es }
def LG.stB (L : LG) (i t : Int) (s : S4) : LG := { L with i := i, t := t, s := s }
def six (w : World) (p : Nat) (i t : Int) (s : S4) : World := (((((w.setCell ⟨p, 0, none⟩ (.int .i64 i)).setCell ⟨p, 1, none⟩ (.int .i64 t)).setCell ⟨p, 2, none⟩ (.slice s.A0 s.n0 s.c0)).setCell ⟨p, 3, none⟩ (.slice s.A1 s.n1 s.c1)).setCell ⟨p, 4, none⟩ (.slice s.A2 s.n2 s.c2)).setCell ⟨p, 5, none⟩ (.slice s.A3 s.n3 s.c3)
theorem six_kp (w : World) (p : Nat) (i t : Int) (s : S4) : Kp (fun b => b = p) w (six w p i t s) :=
  ((((((Kp.refl (fun b => b = p) w).set (.inr rfl) 0 _).set (.inr rfl) 1 _).set (.inr rfl) 2 _).set (.inr rfl) 3 _).set (.inr rfl) 4 _).set (.inr rfl) 5 _
theorem six_far (w : World) (p k : Nat) (i t : Int) (s : S4) (h : 6 ≤ k) : (six w p i t s).cell? ⟨p, k, none⟩ = w.cell? ⟨p, k, none⟩ := by
  unfold six
  rw [far_c _ _ _ _ _ (by omega), far_c _ _ _ _ _ (by omega), far_c _ _ _ _ _ (by omega), far_c _ _ _ _ _ (by omega), far_c _ _ _ _ _ (by omega), far_c _ _ _ _ _ (by omega)]
theorem Bx.setB {L : LG} {w : World} (h : Bx L w) (i t : Int) (s : S4) : Bx (L.stB i t s) (six w L.p i t s) := by
  refine ⟨?_, ?_, ?_, ?_, ?_, ?_, ?_, ?_, ?_, fun k => by unfold six; simp only [World.frozen?_setCell]; exact h.f k⟩
  · show World.cell? (six _ _ _ _ _) ⟨L.p, 0, none⟩ = _
    unfold six
    rw [far_c _ _ _ _ _ (by decide), far_c _ _ _ _ _ (by decide), far_c _ _ _ _ _ (by decide), far_c _ _ _ _ _ (by decide), far_c _ _ _ _ _ (by decide)]
    exact World.cell?_setCell_same _ _ _ h.c0
  · show World.cell? (six _ _ _ _ _) ⟨L.p, 1, none⟩ = _
    unfold six
    rw [far_c _ _ _ _ _ (by decide), far_c _ _ _ _ _ (by decide), far_c _ _ _ _ _ (by decide), far_c _ _ _ _ _ (by decide)]
    exact World.cell?_setCell_same _ _ _ (by rw [far_c _ _ _ _ _ (by decide)]; exact h.c1)
  · show World.cell? (six _ _ _ _ _) ⟨L.p, 2, none⟩ = _
    unfold six
    rw [far_c _ _ _ _ _ (by decide), far_c _ _ _ _ _ (by decide), far_c _ _ _ _ _ (by decide)]
    exact World.cell?_setCell_same _ _ _ (by rw [far_c _ _ _ _ _ (by decide), far_c _ _ _ _ _ (by decide)]; exact h.c2)
  · show World.cell? (six _ _ _ _ _) ⟨L.p, 3, none⟩ = _
    unfold six
    rw [far_c _ _ _ _ _ (by decide), far_c _ _ _ _ _ (by decide)]
    exact World.cell?_setCell_same _ _ _ (by rw [far_c _ _ _ _ _ (by decide), far_c _ _ _ _ _ (by decide), far_c _ _ _ _ _ (by decide)]; exact h.c3)
  · show World.cell? (six _ _ _ _ _) ⟨L.p, 4, none⟩ = _
    unfold six
    rw [far_c _ _ _ _ _ (by decide)]
    exact World.cell?_setCell_same _ _ _ (by rw [far_c _ _ _ _ _ (by decide), far_c _ _ _ _ _ (by decide), far_c _ _ _ _ _ (by decide), far_c _ _ _ _ _ (by decide)]; exact h.c4)
  · show World.cell? (six _ _ _ _ _) ⟨L.p, 5, none⟩ = _
    unfold six
    exact World.cell?_setCell_same _ _ _ (by rw [far_c _ _ _ _ _ (by decide), far_c _ _ _ _ _ (by decide), far_c _ _ _ _ _ (by decide), far_c _ _ _ _ _ (by decide), far_c _ _ _ _ _ (by decide)]; exact h.c5)
  · exact (six_far w L.p 6 i t s (by decide)).trans h.c6
  · exact (six_far w L.p 7 i t s (by decide)).trans h.c7
  · exact (six_far w L.p 8 i t s (by decide)).trans h.c8
theorem setB_at {S : Nat → Prop} {L : LG} {w : World} (h : LogAt S L w) (i t : Int) (s : S4) (h0 : 0 ≤ i) (h1 : i ≤ 1073741824) : LogAt S (L.stB i t s) (six w L.p i t s) := by
  obtain ⟨rs, r1, r2, r3⟩ := h.rows
  have k := six_kp w L.p i t s
  have hp : S L.p := h.own _ (.inl rfl)
  refine ⟨h.box.setB i t s, ⟨rs, k.owns r1 ?_, r2, fun j hj => (r3 j hj).kp k (fun b hb => by have hb : b = L.p := hb; rw [hb]; exact hp)⟩, k.owns h.cfgs ?_, h.own, h.neE, h.neC, h.neX, h0, h1, h.le, h.lx, h.sm⟩
  · intro g e hg
    cases ha : L.AE with
    | none => rw [show (L.stB i t s).AE = none from ha] at e; cases e
    | some a => rw [show (L.stB i t s).AE = some a from ha] at e; have := h.neE a ha; simp [Value.ownBlock] at e; omega
  · intro g e hg
    cases ha : L.AC with
    | none => rw [show (L.stB i t s).AC = none from ha] at e; cases e
    | some a => rw [show (L.stB i t s).AC = some a from ha] at e; have := h.neC a ha; simp [Value.ownBlock] at e; omega
theorem setE_at {S : Nat → Prop} {L : LG} {w w1 : World} (h : LogAt (Sof S L) L w) (k : Ok w w1) (A : Option Addr) (c : Nat) (es : List En) (rs : List ER) (hrow : w1.ownsRow w.heap.size 44 7 (.slice A es.length c) es.length (flat7 rs)) (hl : rs.length = es.length)
    (hc : ∀ j, j < es.length → EnAt (Sof S L) w (erA rs j) (enA es j)) (hsm : ∀ j, j < es.length → EnLe (enA es j)) (hle : es.length ≤ 1000) :
    LogAt (Sof S (L.stE A c es)) (L.stE A c es) (w1.setCell ⟨L.p, 6, none⟩ (.slice A es.length c)) ∧ Kp (fun b => b = L.p) w (w1.setCell ⟨L.p, 6, none⟩ (.slice A es.length c)) ∧ ∀ b, Ow L.p A L.AC b → Ow L.p L.AE L.AC b ∨ w.heap.size ≤ b := by
  have hA : ∀ a, A = some a → w.heap.size ≤ a.block := fun a ha => (World.ownsRow.lt hrow a.block (by rw [ha]; rfl)).1
  have hks : Kp (fun b => b = L.p) w (w1.setCell ⟨L.p, 6, none⟩ (.slice A es.length c)) := Kp.set (S := fun b => b = L.p) (Kp.of k) (.inr rfl) 6 _
  have hnew : ∀ b, Ow L.p A L.AC b → Ow L.p L.AE L.AC b ∨ w.heap.size ≤ b := by
    rintro b (rfl | ⟨a, ha, rfl⟩ | q)
    · exact .inl (.inl rfl)
    · exact .inr (hA a ha)
    · exact .inl (.inr (.inr q))
  have b : Bx L w1 := h.box.kp (S := fun _ => False) (Kp.of k) (fun f => f)
  have hlp := h.box.lt
  have hsub : ∀ b, Sof S (L.stE A c es) b → Sof S L b ∨ w.heap.size ≤ b := by
    rintro b (q | q)
    · exact .inl (.inl q)
    · exact (hnew b q).imp .inr id
  refine ⟨⟨⟨?_, ?_, ?_, ?_, ?_, ?_, ?_, ?_, ?_, fun j => by rw [World.frozen?_setCell]; exact b.f j⟩, ⟨rs, ?_, hl, fun j hj => ?_⟩, ?_, fun b hb => .inr hb, fun a ha => ?_, h.neC, fun a d ha hd => ?_, h.lo, h.hi, hle, h.lx, hsm⟩, hks, hnew⟩
  · show World.cell? _ ⟨L.p, 0, none⟩ = _; rw [far_c _ _ _ _ _ (by decide)]; exact b.c0
  · show World.cell? _ ⟨L.p, 1, none⟩ = _; rw [far_c _ _ _ _ _ (by decide)]; exact b.c1
  · show World.cell? _ ⟨L.p, 2, none⟩ = _; rw [far_c _ _ _ _ _ (by decide)]; exact b.c2
  · show World.cell? _ ⟨L.p, 3, none⟩ = _; rw [far_c _ _ _ _ _ (by decide)]; exact b.c3
  · show World.cell? _ ⟨L.p, 4, none⟩ = _; rw [far_c _ _ _ _ _ (by decide)]; exact b.c4
  · show World.cell? _ ⟨L.p, 5, none⟩ = _; rw [far_c _ _ _ _ _ (by decide)]; exact b.c5
  · show World.cell? _ ⟨L.p, 6, none⟩ = some (.slice A es.length c)
    rw [World.cell?_setCell_same _ _ _ b.c6]
  · show World.cell? _ ⟨L.p, 7, none⟩ = _; rw [far_c _ _ _ _ _ (by decide)]; exact b.c7
  · show World.cell? _ ⟨L.p, 8, none⟩ = _; rw [far_c _ _ _ _ _ (by decide)]; exact b.c8
  · refine own_set (ownsRow_lower hrow (Nat.zero_le _)) fun g hg => ?_
    cases hA' : A with
    | none => rw [show (L.stE A c es).AE = none from hA'] at hg; cases hg
    | some a => rw [show (L.stE A c es).AE = some a from hA'] at hg; have := hA a hA'; simp [Value.ownBlock] at hg; omega
  · have h6 := ((hc j hj).more (S' := fun b => Sof S L b ∨ w.heap.size ≤ b) (fun b hb => hb)).kp hks (fun b hb => by have hb : b = L.p := hb; rw [hb]; exact .inl (.inr (.inl rfl)))
    exact ⟨h6.term, h6.kind, h6.cmd, h6.cfg, h6.oc.mono hsub, ⟨h6.og.o0.mono hsub, h6.og.o1.mono hsub, h6.og.o2.mono hsub, h6.og.o3.mono hsub⟩⟩
  · refine hks.owns h.cfgs fun g hg hgp => ?_
    have hgp : g = L.p := hgp
    cases hC : L.AC with
    | none => rw [show (L.stE A c es).AC = none from hC] at hg; cases hg
    | some a' => rw [show (L.stE A c es).AC = some a' from hC] at hg; have := h.neC a' hC; simp [Value.ownBlock] at hg; omega
  · have := hA a ha
    show a.block ≠ L.p
    omega
  · have := hA a ha
    have := h.lt d.block (.inr (.inr ⟨d, hd, rfl⟩))
    omega
end Go.Proofs.Ytebhcadolnjplaa
