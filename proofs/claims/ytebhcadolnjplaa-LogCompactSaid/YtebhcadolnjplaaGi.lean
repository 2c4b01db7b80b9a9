/- An index laid behind a log's configurations. -/
import Derived.Test.YtebhcadolnjplaaGh
namespace Go.Proofs.Ytebhcadolnjplaa
open Go.RowKit

/-- An index was appended: once the log's cell is stored, the log has it. -/
structure Marked (S : Nat → Prop) (L : LG) (x : Int) (w : World) (A : Option Addr) (c : Nat) (w' : World) : Prop where
  log : LogAt (Sof S (L.mark x A c)) (L.mark x A c) (w'.setCell ⟨L.p, 7, none⟩ (.slice A (L.xs.length + 1) c))
  kp : Kp (Ow L.p L.AE L.AC) w (w'.setCell ⟨L.p, 7, none⟩ (.slice A (L.xs.length + 1) c))
  new : ∀ b, Ow L.p L.AE A b → Ow L.p L.AE L.AC b ∨ w.heap.size ≤ b
  kp0 : Kp (Ow L.p L.AE L.AC) w w'
  f7 : w'.frozen? ⟨L.p, 7, none⟩ = false
  c7 : w'.cell? ⟨L.p, 7, none⟩ = some (.slice L.AC L.xs.length L.cC)
theorem mark_at (S : Nat → Prop) (L : LG) (w w' : World) (h : LogAt (Sof S L) L w) (x : Int) (hl : L.xs.length < 1000) (A : Option Addr) (c : Nat)
    (ho : OwnZ w' 0 (.slice A (L.xs.length + 1) c) (L.xs ++ [x])) (hg : w.grownBy w' (Value.slice L.AC L.xs.length L.cC).ownBlock)
    (hb : (Value.slice A (L.xs.length + 1) c).ownBlock = (Value.slice L.AC L.xs.length L.cC).ownBlock ∨ (Value.slice A (L.xs.length + 1) c).ownBlock = some w.heap.size) : Marked S L x w A c w' := by
  have hA : ∀ a, A = some a → (∃ a', L.AC = some a' ∧ a'.block = a.block) ∨ a.block = w.heap.size := by
    rintro a rfl
    rcases hb with q | q
    · cases ha : L.AC with
      | none => rw [ha] at q; cases q
      | some a' => rw [ha] at q; exact .inl ⟨a', rfl, by simpa [Value.ownBlock] using q.symm⟩
    · exact .inr (by simpa [Value.ownBlock] using q)
  have hkC : Kp (fun b => ∃ a, L.AC = some a ∧ a.block = b) w w' := Kp.grown hg fun j ej => by
    cases ha : L.AC with
    | none => rw [ha] at ej; cases ej
    | some a => rw [ha] at ej; exact ⟨a, rfl, by simpa [Value.ownBlock] using ej⟩
  have hk : Kp (Ow L.p L.AE L.AC) w w' := (Kp.refl _ w).then hkC fun j _ hj => .inr (.inr hj)
  have hks : Kp (Ow L.p L.AE L.AC) w (w'.setCell ⟨L.p, 7, none⟩ (.slice A (L.xs.length + 1) c)) := hk.set (.inr (.inl rfl)) _ _
  have hnew : ∀ b, Ow L.p L.AE A b → Ow L.p L.AE L.AC b ∨ w.heap.size ≤ b := by
    rintro b (rfl | q | ⟨a, ha, rfl⟩)
    · exact .inl (.inl rfl)
    · exact .inl (.inr (.inl q))
    · rcases hA a ha with ⟨a', e1, e2⟩ | q
      · exact .inl (.inr (.inr ⟨a', e1, e2⟩))
      · exact .inr (Nat.le_of_eq q.symm)
  have hbx : Bx L w' := h.box.kp hkC (fun ⟨a, ha, q⟩ => h.neC a ha q)
  have hsub : ∀ b, Sof S (L.mark x A c) b → Sof S L b ∨ w.heap.size ≤ b := by
    rintro b (q | q)
    · exact .inl (.inl q)
    · rcases hnew b q with q | q
      · exact .inl (.inr q)
      · exact .inr q
  have hlp := h.box.lt
  have neC : ∀ a, A = some a → a.block ≠ L.p := fun a ha => by
    rcases hA a ha with ⟨a', e1, e2⟩ | q
    · rw [← e2]; exact h.neC a' e1
    · omega
  have hlen : (L.xs ++ [x]).length = L.xs.length + 1 := by simp
  obtain ⟨rs, h1, h2, h3⟩ := h.rows
  refine ⟨⟨hbx.set7 x A c, ⟨rs, ?_, h2, fun j hj => ?_⟩, ?_, fun b hb => .inr hb, h.neE, neC, fun a b ha hb => ?_, h.lo, h.hi, h.le, ?_, h.sm⟩, hks, hnew, hk, hbx.f 7, hbx.c7⟩
  · refine own_set (hkC.owns h1 fun g hg' => ?_) fun g hg' => ?_
    · rintro ⟨a, ha, rfl⟩
      cases hC : L.AE with
      | none => rw [show (L.mark x A c).AE = none from hC] at hg'; cases hg'
      | some a' => rw [show (L.mark x A c).AE = some a' from hC] at hg'; have := h.neX a' a hC ha; simp [Value.ownBlock] at hg'; omega
    · cases hC : L.AE with
      | none => rw [show (L.mark x A c).AE = none from hC] at hg'; cases hg'
      | some a' => rw [show (L.mark x A c).AE = some a' from hC] at hg'; have := h.neE a' hC; simp [Value.ownBlock] at hg'; omega
  · have h6 := ((h3 j hj).more (S' := fun b => Sof S L b ∨ w.heap.size ≤ b) (fun b hb => hb)).kp hks (fun b hb => .inl (.inr hb))
    exact ⟨h6.term, h6.kind, h6.cmd, h6.cfg, h6.oc.mono hsub, ⟨h6.og.o0.mono hsub, h6.og.o1.mono hsub, h6.og.o2.mono hsub, h6.og.o3.mono hsub⟩⟩
  · show OwnZ _ 0 (.slice A (L.xs ++ [x]).length c) (L.xs ++ [x])
    rw [hlen]
    refine own_set ho fun g hg' => ?_
    cases hA' : A with
    | none => rw [hA'] at hg'; cases hg'
    | some a => rw [hA'] at hg'; have := neC a hA'; simp [Value.ownBlock] at hg'; omega
  · rcases hA b hb with ⟨a', e1, e2⟩ | q
    · rw [← e2]; exact h.neX a a' ha e1
    · have := h.lt a.block (.inr (.inl ⟨a, ha, rfl⟩)); omega
  · show (L.xs ++ [x]).length ≤ 1000
    omega
theorem step_mark {ops : Array Oper} {o : Oper} {a : Act} {w : World} {K : Act → World → Prop} {Q : Exit → Act → World → Prop} {E : Prop} (hgd : o.guard = none) (s x : Operand)
    (ho : o.op = .call { callee := .builtin .append, args := #[s, x], argTypes := #[23, 23] })
    (S : Nat → Prop) (L : LG) (h : LogAt (Sof S L) L w) (y : Int) (hl : L.xs.length < 1000)
    (hs : a.eval s = .slice L.AC L.xs.length L.cC) (b : Nat) (hx : a.eval x = .slice (some ⟨b, 0, none⟩) 1 1) (hb : w.heap[b]? = some (.cells #[.int .i64 y] 3 (0, 0)))
    (hk : ∀ A c w', Marked S L y w A c w' → K (a.put o.dst (.slice A (L.xs.length + 1) c)) w') :
    if Region.wanted o (yielded ops a.tmps) = true then Oper.wp Try.prog o a w K Q else E := by
  have hw : Region.wanted o (yielded ops a.tmps) = true := by simp [Region.wanted, hgd]
  rw [if_pos hw]
  obtain ⟨i0, hi, hz0, hz1, hz2⟩ := info_parts info3z
  have hin : ∀ j v, [Value.int .i64 y][j]? = some v → w.cell? ((⟨b, 0, none⟩ : Addr).add j) = some v := by
    intro j v hv
    have e : (⟨b, 0, none⟩ : Addr).add j = ⟨b, 0 + j, none⟩ := by unfold Addr.add; split <;> simp_all
    rw [e, Nat.zero_add, cell_of_row w b j _ 3 (0, 0) hb]
    simpa using hv
  obtain ⟨v', w', hr, g2, g3, _, g5⟩ := run_append_own_at (P := Try.prog) w 0 23 o.type 3 i0 _ 1 8 Try.underlying23 hi hz0 hz1 hz2 rfl (by decide) (.slice L.AC L.xs.length L.cC) L.xs.length (L.xs.map zv) h.cfgs ⟨b, 0, none⟩ 1 1 [.int .i64 y] rfl hin (by
      intro v hv
      obtain rfl := List.mem_singleton.1 hv
      rfl) (by unfold maxLen; omega) (by omega) (Nat.zero_le _)
  have hv : ∃ A c, v' = .slice A (L.xs.length + 1) c := by
    rcases g2.2 with ⟨rfl, q⟩ | ⟨g, cap, cur, rfl, _⟩
    · exact ⟨none, 0, by rw [q]⟩
    · exact ⟨_, _, rfl⟩
  obtain ⟨A, c, rfl⟩ := hv
  unfold Oper.wp execOp
  simp only [ho, resolve, invoke, builtin, Sem.run_bind, Sem.run_pure, Result.andThen_ok, List.map_toArray, List.map_cons, List.map_nil, hs, hx, hr]
  exact hk A c w' (mark_at S L w w' h y hl A c (by unfold OwnZ; rw [List.map_append, List.length_append]; exact g2) g3 g5)
end Go.Proofs.Ytebhcadolnjplaa
