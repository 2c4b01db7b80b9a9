/- An entry laid behind a log's entries; an index behind its configurations. -/
import Derived.Test.YtebhcadolnjplaaGg
namespace Go.Proofs.Ytebhcadolnjplaa
open Go.RowKit

theorem Sev.all {g : Nat} {v0 v1 v2 v3 v4 v5 v6 : Value} {w : World} (h : Sev g v0 v1 v2 v3 v4 v5 v6 w) (x0 x1 x2 x3 x4 x5 x6 : Value) :
    Sev g x0 x1 x2 x3 x4 x5 x6 (((((((w.setCell ⟨g, 0, none⟩ x0).setCell ⟨g, 1, none⟩ x1).setCell ⟨g, 2, none⟩ x2).setCell ⟨g, 3, none⟩ x3).setCell ⟨g, 4, none⟩ x4).setCell ⟨g, 5, none⟩ x5).setCell ⟨g, 6, none⟩ x6) := by
  refine ⟨?_, ?_, ?_, ?_, ?_, ?_, ?_, fun k => by simp [h.f k]⟩
  · rw [far_c _ _ _ _ _ (by decide), far_c _ _ _ _ _ (by decide), far_c _ _ _ _ _ (by decide), far_c _ _ _ _ _ (by decide), far_c _ _ _ _ _ (by decide), far_c _ _ _ _ _ (by decide)]; exact World.cell?_setCell_same _ _ _ h.c0
  · rw [far_c _ _ _ _ _ (by decide), far_c _ _ _ _ _ (by decide), far_c _ _ _ _ _ (by decide), far_c _ _ _ _ _ (by decide), far_c _ _ _ _ _ (by decide)]; exact World.cell?_setCell_same _ _ _ (by rw [far_c _ _ _ _ _ (by decide)]; exact h.c1)
  · rw [far_c _ _ _ _ _ (by decide), far_c _ _ _ _ _ (by decide), far_c _ _ _ _ _ (by decide), far_c _ _ _ _ _ (by decide)]; exact World.cell?_setCell_same _ _ _ (by rw [far_c _ _ _ _ _ (by decide), far_c _ _ _ _ _ (by decide)]; exact h.c2)
  · rw [far_c _ _ _ _ _ (by decide), far_c _ _ _ _ _ (by decide), far_c _ _ _ _ _ (by decide)]; exact World.cell?_setCell_same _ _ _ (by rw [far_c _ _ _ _ _ (by decide), far_c _ _ _ _ _ (by decide), far_c _ _ _ _ _ (by decide)]; exact h.c3)
  · rw [far_c _ _ _ _ _ (by decide), far_c _ _ _ _ _ (by decide)]; exact World.cell?_setCell_same _ _ _ (by rw [far_c _ _ _ _ _ (by decide), far_c _ _ _ _ _ (by decide), far_c _ _ _ _ _ (by decide), far_c _ _ _ _ _ (by decide)]; exact h.c4)
  · rw [far_c _ _ _ _ _ (by decide)]; exact World.cell?_setCell_same _ _ _ (by rw [far_c _ _ _ _ _ (by decide), far_c _ _ _ _ _ (by decide), far_c _ _ _ _ _ (by decide), far_c _ _ _ _ _ (by decide), far_c _ _ _ _ _ (by decide)]; exact h.c5)
  · exact World.cell?_setCell_same _ _ _ (by rw [far_c _ _ _ _ _ (by decide), far_c _ _ _ _ _ (by decide), far_c _ _ _ _ _ (by decide), far_c _ _ _ _ _ (by decide), far_c _ _ _ _ _ (by decide), far_c _ _ _ _ _ (by decide)]; exact h.c6)

/-- A log's blocks, and those of S. -/
def Sof (S : Nat → Prop) (L : LG) (b : Nat) : Prop := S b ∨ Ow L.p L.AE L.AC b
def LG.push (L : LG) (e : En) (A : Option Addr) (c : Nat) : LG := { L with AE := A, cE := c, es := L.es ++ [e] }
def LG.mark (L : LG) (x : Int) (A : Option Addr) (c : Nat) : LG := { L with AC := A, cC := c, xs := L.xs ++ [x] }
theorem info44 : (Try.prog.info? 44).map (fun i => (i.zero, i.size, i.bytes)) = some (some (.agg #[.int .i64 0, .int .u8 0, .slice none 0 0, .slice none 0 0, .slice none 0 0, .slice none 0 0, .slice none 0 0]), 7, 136) := by kernel_rfl
theorem erA_app (a : List ER) (r : ER) (j : Nat) : (j < a.length → erA (a ++ [r]) j = erA a j) ∧ (j = a.length → erA (a ++ [r]) j = r) := by
  constructor
  · intro h; simp [erA, List.getElem?_append_left h]
  · rintro rfl; simp [erA]
theorem enA_app (a b : List En) (j : Nat) : (j < a.length → enA (a ++ b) j = enA a j) ∧ enA (a ++ b) (a.length + j) = enA b j := by
  constructor
  · intro h; simp [enA, List.getElem?_append_left h]
  · simp [enA, List.getElem?_append_right]
/-- An entry was appended: once the log's cell is stored, the log has it. -/
structure Pushed (S : Nat → Prop) (L : LG) (e : En) (w : World) (A : Option Addr) (c : Nat) (w' : World) : Prop where
  log : LogAt (Sof S (L.push e A c)) (L.push e A c) (w'.setCell ⟨L.p, 6, none⟩ (.slice A (L.es.length + 1) c))
  kp : Kp (Ow L.p L.AE L.AC) w (w'.setCell ⟨L.p, 6, none⟩ (.slice A (L.es.length + 1) c))
  new : ∀ b, Ow L.p A L.AC b → Ow L.p L.AE L.AC b ∨ w.heap.size ≤ b
  kp0 : Kp (Ow L.p L.AE L.AC) w w'
  f6 : w'.frozen? ⟨L.p, 6, none⟩ = false
  c6 : w'.cell? ⟨L.p, 6, none⟩ = some (.slice L.AE L.es.length L.cE)
theorem Bx.set6 {L : LG} {w : World} (h : Bx L w) (e : En) (A : Option Addr) (c : Nat) : Bx (L.push e A c) (w.setCell ⟨L.p, 6, none⟩ (.slice A (L.es.length + 1) c)) := by
  refine ⟨?_, ?_, ?_, ?_, ?_, ?_, ?_, ?_, ?_, fun k => by rw [World.frozen?_setCell]; exact h.f k⟩
  · show World.cell? _ ⟨L.p, 0, none⟩ = _; rw [far_c _ _ _ _ _ (by decide)]; exact h.c0
  · show World.cell? _ ⟨L.p, 1, none⟩ = _; rw [far_c _ _ _ _ _ (by decide)]; exact h.c1
  · show World.cell? _ ⟨L.p, 2, none⟩ = _; rw [far_c _ _ _ _ _ (by decide)]; exact h.c2
  · show World.cell? _ ⟨L.p, 3, none⟩ = _; rw [far_c _ _ _ _ _ (by decide)]; exact h.c3
  · show World.cell? _ ⟨L.p, 4, none⟩ = _; rw [far_c _ _ _ _ _ (by decide)]; exact h.c4
  · show World.cell? _ ⟨L.p, 5, none⟩ = _; rw [far_c _ _ _ _ _ (by decide)]; exact h.c5
  · show World.cell? _ ⟨L.p, 6, none⟩ = some (.slice A (L.es ++ [e]).length c)
    rw [World.cell?_setCell_same _ _ _ h.c6]; simp
  · show World.cell? _ ⟨L.p, 7, none⟩ = _; rw [far_c _ _ _ _ _ (by decide)]; exact h.c7
  · show World.cell? _ ⟨L.p, 8, none⟩ = _; rw [far_c _ _ _ _ _ (by decide)]; exact h.c8
theorem Bx.set7 {L : LG} {w : World} (h : Bx L w) (x : Int) (A : Option Addr) (c : Nat) : Bx (L.mark x A c) (w.setCell ⟨L.p, 7, none⟩ (.slice A (L.xs.length + 1) c)) := by
  refine ⟨?_, ?_, ?_, ?_, ?_, ?_, ?_, ?_, ?_, fun k => by rw [World.frozen?_setCell]; exact h.f k⟩
  · show World.cell? _ ⟨L.p, 0, none⟩ = _; rw [far_c _ _ _ _ _ (by decide)]; exact h.c0
  · show World.cell? _ ⟨L.p, 1, none⟩ = _; rw [far_c _ _ _ _ _ (by decide)]; exact h.c1
  · show World.cell? _ ⟨L.p, 2, none⟩ = _; rw [far_c _ _ _ _ _ (by decide)]; exact h.c2
  · show World.cell? _ ⟨L.p, 3, none⟩ = _; rw [far_c _ _ _ _ _ (by decide)]; exact h.c3
  · show World.cell? _ ⟨L.p, 4, none⟩ = _; rw [far_c _ _ _ _ _ (by decide)]; exact h.c4
  · show World.cell? _ ⟨L.p, 5, none⟩ = _; rw [far_c _ _ _ _ _ (by decide)]; exact h.c5
  · show World.cell? _ ⟨L.p, 6, none⟩ = _; rw [far_c _ _ _ _ _ (by decide)]; exact h.c6
  · show World.cell? _ ⟨L.p, 7, none⟩ = some (.slice A (L.xs ++ [x]).length c)
    rw [World.cell?_setCell_same _ _ _ h.c7]; simp
  · show World.cell? _ ⟨L.p, 8, none⟩ = _; rw [far_c _ _ _ _ _ (by decide)]; exact h.c8
theorem own_set {w : World} {B e size n p k : Nat} {v x : Value} {xs : List Value} (h : w.ownsRow B e size v n xs) (hn : ∀ g, v.ownBlock = some g → g ≠ p) : (w.setCell ⟨p, k, none⟩ x).ownsRow B e size v n xs :=
  (Kp.set (S := fun b => b = p) (Kp.refl _ w) (.inr rfl) k x).owns h hn
theorem push_at (S : Nat → Prop) (L : LG) (w w' : World) (h : LogAt (Sof S L) L w) (B : Nat) (hB : ∀ b, Sof S L b → b < B) (u : ER) (e : En) (hu : EnAt (fun b => b < B) w u e) (hl : L.es.length < 1000) (hm : EnLe e)
    (rs : List ER) (h2 : rs.length = L.es.length) (h3 : ∀ j, j < L.es.length → EnAt (Sof S L) w (erA rs j) (enA L.es j)) (A : Option Addr) (c : Nat)
    (ho : w'.ownsRow 0 44 7 (.slice A (L.es.length + 1) c) (L.es.length + 1) (flat7 rs ++ u.cells)) (hg : w.grownBy w' (Value.slice L.AE L.es.length L.cE).ownBlock)
    (hb : (Value.slice A (L.es.length + 1) c).ownBlock = (Value.slice L.AE L.es.length L.cE).ownBlock ∨ (Value.slice A (L.es.length + 1) c).ownBlock = some w.heap.size) : Pushed S L e w A c w' := by
  have hA : ∀ a, A = some a → (∃ a', L.AE = some a' ∧ a'.block = a.block) ∨ a.block = w.heap.size := by
    rintro a rfl
    rcases hb with q | q
    · cases ha : L.AE with
      | none => rw [ha] at q; cases q
      | some a' => rw [ha] at q; exact .inl ⟨a', rfl, by simpa [Value.ownBlock] using q.symm⟩
    · exact .inr (by simpa [Value.ownBlock] using q)
  have hk : Kp (Ow L.p L.AE L.AC) w w' := Kp.grown hg fun j ej => by
    cases ha : L.AE with
    | none => rw [ha] at ej; cases ej
    | some a => rw [ha] at ej; exact .inr (.inl ⟨a, rfl, by simpa [Value.ownBlock] using ej⟩)
  have hkE : Kp (fun b => ∃ a, L.AE = some a ∧ a.block = b) w w' := Kp.grown hg fun j ej => by
    cases ha : L.AE with
    | none => rw [ha] at ej; cases ej
    | some a => rw [ha] at ej; exact ⟨a, rfl, by simpa [Value.ownBlock] using ej⟩
  have hks : Kp (Ow L.p L.AE L.AC) w (w'.setCell ⟨L.p, 6, none⟩ (.slice A (L.es.length + 1) c)) := hk.set (.inr (.inl rfl)) _ _
  have hnew : ∀ b, Ow L.p A L.AC b → Ow L.p L.AE L.AC b ∨ w.heap.size ≤ b := by
    rintro b (rfl | ⟨a, ha, rfl⟩ | q)
    · exact .inl (.inl rfl)
    · rcases hA a ha with ⟨a', e1, e2⟩ | q
      · exact .inl (.inr (.inl ⟨a', e1, e2⟩))
      · exact .inr (Nat.le_of_eq q.symm)
    · exact .inl (.inr (.inr q))
  have hbx : Bx L w' := h.box.kp hkE (fun ⟨a, ha, q⟩ => h.neE a ha q)
  have hsub : ∀ b, Sof S (L.push e A c) b → Sof S L b ∨ w.heap.size ≤ b := by
    rintro b (q | q)
    · exact .inl (.inl q)
    · rcases hnew b q with q | q
      · exact .inl (.inr q)
      · exact .inr q
  have hlp := h.box.lt
  have neE : ∀ a, A = some a → a.block ≠ L.p := fun a ha => by
    rcases hA a ha with ⟨a', e1, e2⟩ | q
    · rw [← e2]; exact h.neE a' e1
    · omega
  have hlen : (L.es ++ [e]).length = L.es.length + 1 := by simp
  refine ⟨⟨hbx.set6 e A c, ⟨rs ++ [u], ?_, ?_, fun j hj => ?_⟩, ?_, fun b hb => .inr hb, neE, h.neC, fun a b ha hb => ?_, h.lo, h.hi, ?_, h.lx, fun j hj => ?_⟩, hks, hnew, hk, hbx.f 6, hbx.c6⟩
  · show World.ownsRow _ 0 44 7 (.slice A (L.es ++ [e]).length c) (L.es ++ [e]).length _
    rw [hlen]
    refine own_set (by rw [flat7_append]; simpa [flat7] using ho) fun g hg' => ?_
    cases hA' : A with
    | none => rw [hA'] at hg'; cases hg'
    | some a => rw [hA'] at hg'; have := neE a hA'; simp [Value.ownBlock] at hg'; omega
  · show (rs ++ [u]).length = (L.es ++ [e]).length
    simp [h2]
  · have hj' : j < L.es.length + 1 := by rw [← hlen]; exact hj
    show EnAt _ _ (erA (rs ++ [u]) j) (enA (L.es ++ [e]) j)
    by_cases hj2 : j < L.es.length
    · rw [(erA_app rs u j).1 (by omega), (enA_app L.es [e] j).1 hj2]
      have h4 := (h3 j hj2).more hsub
      have h5 := (h3 j hj2).kp hks (fun b hb => .inr hb)
      have h6 := ((h3 j hj2).more (S' := fun b => Sof S L b ∨ w.heap.size ≤ b) (fun b hb => hb)).kp hks (fun b hb => .inl (.inr hb))
      exact ⟨h6.term, h6.kind, h6.cmd, h6.cfg, h6.oc.mono hsub, ⟨h6.og.o0.mono hsub, h6.og.o1.mono hsub, h6.og.o2.mono hsub, h6.og.o3.mono hsub⟩⟩
    · obtain rfl : j = L.es.length := by omega
      rw [(erA_app rs u _).2 h2.symm]
      have e2 := (enA_app L.es [e] 0).2
      rw [Nat.add_zero] at e2
      rw [e2]
      have h6 := (hu.more (S' := fun b => b < B ∨ w.heap.size ≤ b) (fun b hb => hb)).kp hks (fun b hb => .inl (hB b (.inr hb)))
      have hs2 : ∀ b, Sof S (L.push e A c) b → b < B ∨ w.heap.size ≤ b := fun b hb => (hsub b hb).elim (fun q => .inl (hB b q)) .inr
      exact ⟨h6.term, h6.kind, h6.cmd, h6.cfg, h6.oc.mono hs2, ⟨h6.og.o0.mono hs2, h6.og.o1.mono hs2, h6.og.o2.mono hs2, h6.og.o3.mono hs2⟩⟩
  · refine own_set (hkE.owns h.cfgs fun g hg' => ?_) fun g hg' => ?_
    · rintro ⟨a, ha, rfl⟩
      cases hC : L.AC with
      | none => rw [show (L.push e A c).AC = none from hC] at hg'; cases hg'
      | some a' => rw [show (L.push e A c).AC = some a' from hC] at hg'; have := h.neX a a' ha hC; simp [Value.ownBlock] at hg'; omega
    · cases hC : L.AC with
      | none => rw [show (L.push e A c).AC = none from hC] at hg'; cases hg'
      | some a' => rw [show (L.push e A c).AC = some a' from hC] at hg'; have := h.neC a' hC; simp [Value.ownBlock] at hg'; omega
  · rcases hA a ha with ⟨a', e1, e2⟩ | q
    · rw [← e2]; exact h.neX a' b e1 hb
    · have := h.lt b.block (.inr (.inr ⟨b, hb, rfl⟩)); omega
  · show (L.es ++ [e]).length ≤ 1000
    omega
  · have hj' : j < L.es.length + 1 := by rw [← hlen]; exact hj
    show EnLe (enA (L.es ++ [e]) j)
    by_cases hj2 : j < L.es.length
    · rw [(enA_app L.es [e] j).1 hj2]; exact h.sm j hj2
    · obtain rfl : j = L.es.length := by omega
      have e2 := (enA_app L.es [e] 0).2
      rw [Nat.add_zero] at e2
      rw [e2]; exact hm
theorem step_push {ops : Array Oper} {o : Oper} {a : Act} {w : World} {K : Act → World → Prop} {Q : Exit → Act → World → Prop} {E : Prop} (hgd : o.guard = none) (s x : Operand)
    (ho : o.op = .call { callee := .builtin .append, args := #[s, x], argTypes := #[22, 22] })
    (S : Nat → Prop) (L : LG) (h : LogAt (Sof S L) L w) (B : Nat) (hB : ∀ b, Sof S L b → b < B) (u : ER) (e : En) (hu : EnAt (fun b => b < B) w u e) (hl : L.es.length < 1000) (hm : EnLe e)
    (hs : a.eval s = .slice L.AE L.es.length L.cE) (b : Nat) (hx : a.eval x = .slice (some ⟨b, 0, none⟩) 1 1) (hb : w.heap[b]? = some (.cells u.cells.toArray 44 (0, 0)))
    (hk : ∀ A c w', Pushed S L e w A c w' → K (a.put o.dst (.slice A (L.es.length + 1) c)) w') :
    if Region.wanted o (yielded ops a.tmps) = true then Oper.wp Try.prog o a w K Q else E := by
  have hw : Region.wanted o (yielded ops a.tmps) = true := by simp [Region.wanted, hgd]
  rw [if_pos hw]
  obtain ⟨rs, h1, h2, h3⟩ := h.rows
  obtain ⟨i0, hi, hz0, hz1, hz2⟩ := info_parts info44
  have hin : ∀ j v, u.cells[j]? = some v → w.cell? ((⟨b, 0, none⟩ : Addr).add j) = some v := by
    intro j v hv
    have e : (⟨b, 0, none⟩ : Addr).add j = ⟨b, 0 + j, none⟩ := by unfold Addr.add; split <;> simp_all
    rw [e, Nat.zero_add, cell_of_row w b j _ 44 (0, 0) hb]
    simpa using hv
  obtain ⟨v', w', hr, g2, g3, _, g5⟩ := run_append_own_at (P := Try.prog) w 0 22 o.type 44 i0 _ 7 136 Try.underlying22 hi hz0 hz1 hz2 rfl (by decide) (.slice L.AE L.es.length L.cE) L.es.length (flat7 rs) h1 ⟨b, 0, none⟩ 1 1 u.cells rfl hin (by
      intro v hv
      have := flat7_one [u] v (by simpa [flat7] using hv)
      exact this) (by unfold maxLen; omega) (by omega) (Nat.zero_le _)
  have hv : ∃ A c, v' = .slice A (L.es.length + 1) c := by
    rcases g2.2 with ⟨rfl, q⟩ | ⟨g, cap, cur, rfl, _⟩
    · exact ⟨none, 0, by rw [q]⟩
    · exact ⟨_, _, rfl⟩
  obtain ⟨A, c, rfl⟩ := hv
  unfold Oper.wp execOp
  simp only [ho, resolve, invoke, builtin, Sem.run_bind, Sem.run_pure, Result.andThen_ok, List.map_toArray, List.map_cons, List.map_nil, hs, hx, hr]
  exact hk A c w' (push_at S L w w' h B hB u e hu hl hm rs h2 h3 A c g2 g3 g5)
end Go.Proofs.Ytebhcadolnjplaa
