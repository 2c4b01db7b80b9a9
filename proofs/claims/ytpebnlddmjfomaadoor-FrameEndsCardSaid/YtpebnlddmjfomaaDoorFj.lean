/- Rows of frames of the call's own; frames got, walked. -/
import Derived.Test.YtpebnlddmjfomaaDoorFi
namespace Go.Proofs.YtpebnlddmjfomaaDoor
open Go.RowKit
theorem info28 : (Tryd.prog.info? 28).map (fun i => (i.zero, i.size, i.bytes)) = some (some (.agg #[.int .i64 0, .slice none 0 0]), 2, 32) := by kernel_rfl
/-- A row of frames of the call's own; it may be nil. -/
def OwnF (w : World) (base : Nat) (A : Option Addr) (n c : Nat) (xs : List Fr) : Prop :=
  n = xs.length ∧ ∃ cs : List Value, w.ownsRow base 28 2 (.slice A n c) n cs ∧ ∀ j, j < xs.length → cs[j * 2]? = some (.int .i64 (atF xs j).kind) ∧ ∃ v, cs[j * 2 + 1]? = some v ∧ OwnN w base v (atF xs j).data ∧ (atF xs j).data.length ≤ 140737488351232
theorem OwnF.nil (w : World) (base : Nat) : OwnF w base none 0 0 [] := ⟨rfl, [], World.ownsRow_nil _ _ _ _, fun _ hj => absurd hj (Nat.not_lt_zero _)⟩
theorem OwnN.kept {w w' : World} {B : Nat} {v : Value} {xs : List B8} (h : OwnN w B v xs) {row : Option Nat} (hg : w.grownBy w' row) (hr : ∀ k, row = some k → some k ≠ v.ownBlock) : OwnN w' B v xs := by
  refine World.ownsRow.kept (row := row) h hg ?_
  cases hv : Value.ownBlock v with
  | none => exact .inl rfl
  | some b => exact .inr (fun e => hr b e.symm hv.symm)
theorem OwnF.kept {w w' : World} {B : Nat} {A : Option Addr} {n c : Nat} {xs : List Fr} (h : OwnF w B A n c xs) {row : Option Nat} (hg : w.grownBy w' row) (hr : ∀ k, row = some k → k < B) : OwnF w' B A n c xs := by
  obtain ⟨hn, cs, h1, h2⟩ := h
  refine ⟨hn, cs, World.ownsRow.kept (row := row) h1 hg ?_, fun j hj => ?_⟩
  · cases hv : Value.ownBlock (.slice A n c) with
    | none => exact .inl rfl
    | some b => exact .inr (fun e => by have := (World.ownsRow.lt h1 b hv).1; have := hr b e.symm; omega)
  · obtain ⟨e1, v, e2, ho, hl⟩ := h2 j hj
    exact ⟨e1, v, e2, ho.kept hg (fun k hk e => by have := (ho.below k e.symm).1; have := hr k hk; omega), hl⟩
theorem OwnF.but {w w' : World} {p : Nat} {A : Option Addr} {n c : Nat} {xs : List Fr} (h : OwnF w (p + 1) A n c xs) (k : But p w w') : OwnF w' (p + 1) A n c xs :=
  h.kept (row := some p) ⟨k.1, k.2.1, k.2.2.1, k.2.2.2.1, fun i hi hp => k.2.2.2.2 i hi (fun e => hp (by rw [e]))⟩ (fun k hk => by cases hk; exact Nat.lt_succ_self _)
theorem OwnF.ok {w w' : World} {B : Nat} {A : Option Addr} {n c : Nat} {xs : List Fr} (h : OwnF w B A n c xs) (k : Ok w w') : OwnF w' B A n c xs :=
  h.kept (row := none) ⟨k.os, k.tape, k.output, k.size, fun i hi _ => k.block i hi⟩ (fun k hk => by cases hk)
theorem OwnF.at {w : World} {B : Nat} {A : Option Addr} {n c : Nat} {xs : List Fr} (h : OwnF w B A n c xs) : FramesAt w A xs := fun j hj => by
  obtain ⟨rfl, cs, h1, h2⟩ := h
  obtain ⟨e1, v, e2, ho, hl⟩ := h2 j hj
  rcases h1.2 with ⟨_, h5⟩ | ⟨g, cap, cur, e, r⟩
  · rw [h5] at hj; exact absurd hj (Nat.not_lt_zero _)
  · simp only [Value.slice.injEq] at e
    obtain ⟨rfl, -, rfl⟩ := e
    have hl2 := h1.1
    refine ⟨g, 0, rfl, ?_, v, ?_, ho.bytes hl⟩
    · rw [Nat.zero_add, World.ownsRow.cellAt h1 (j * 2) (by omega)]; exact e1
    · rw [Nat.zero_add, World.ownsRow.cellAt h1 (j * 2 + 1) (by omega)]; exact e2
theorem wpList_appF {ops : Array Oper} {rest : List Oper} {o : Oper} {a : Act} {w : World} {Q : Exit → Act → World → Prop} (hgd : o.guard = none) (s x : Operand)
    (ho : o.op = .call { callee := .builtin .append, args := #[s, x], argTypes := #[22, 22] })
    (base : Nat) (A : Option Addr) (n c : Nat) (xs : List Fr) (hs : a.eval s = .slice A n c) (hown : OwnF w base A n c xs)
    (b : Nat) (f : Fr) (v : Value) (hx : a.eval x = .slice (some ⟨b, 0, none⟩) 1 1) (hc : w.heap[b]? = some (.cells #[.int .i64 f.kind, v] 28 (0, 0))) (hv : OwnN w base v f.data) (hfl : f.data.length ≤ 140737488351232) (hlen : xs.length ≤ 1000000000) (hbase : base ≤ w.heap.size)
    (hk : ∀ A' N c' w', N = n + 1 → OwnF w' base A' N c' (xs ++ [f]) → Below base w w' → wpList Tryd.prog ops Q rest (a.put o.dst (.slice A' N c')) w') : wpList Tryd.prog ops Q (o :: rest) a w := by
  obtain ⟨i0, hi, hz0, hz1, hz2⟩ := info_parts info28
  obtain ⟨hn, cs, h1, h2⟩ := hown
  obtain ⟨A3, c3, hvs⟩ := hv.form
  refine wpList_append_own_at _ hgd s x 22 ho base 28 i0 (.agg #[.int .i64 0, .slice none 0 0]) 2 32 Tryd.underlying22 hi hz0 hz1 hz2 rfl (by decide) _ n cs hs h1 ⟨b, 0, none⟩ 1 1 [.int .i64 f.kind, v] hx rfl ?_ ?_ (by unfold maxLen; omega) (by omega) hbase ?_
  · intro j u hu
    have hadd : (⟨b, 0, none⟩ : Addr).add j = ⟨b, j, none⟩ := by unfold Addr.add; split <;> simp_all
    rw [hadd, cell_of_heap hc]
    simpa using hu
  · intro u hu
    rcases List.mem_cons.1 hu with rfl | hu
    · rfl
    · obtain rfl : u = v := by simpa using hu
      rw [hvs]; rfl
  · intro v' w' g1 g2 _ _
    have hb : Below base w w' := (Below.refl base w).grown g2 hbase (fun k hk => (World.ownsRow.lt h1 k hk).1)
    obtain ⟨A', c', rfl⟩ : ∃ A' c', v' = .slice A' (n + 1) c' := by
      rcases g1.2 with ⟨_, h5⟩ | ⟨g', cap', cur, rfl, _⟩
      · omega
      · exact ⟨_, _, rfl⟩
    -- the row's block has frames
    have hty : ∀ k, Value.ownBlock (.slice A n c) = some k → ∀ u ys, OwnN w base u ys → some k ≠ u.ownBlock := by
      intro k hk u ys hu
      rcases h1.2 with ⟨e, _⟩ | ⟨g, cap, cur, e, _, hg, _⟩
      · rw [e] at hk; cases hk
      · rw [e] at hk
        simp only [Value.ownBlock, Option.some.injEq] at hk
        subst hk
        exact hu.not_ty hg (by decide)
    have hl1 : cs.length = n * 2 := h1.1
    refine hk A' (n + 1) c' w' rfl ⟨by simp [hn], cs ++ [.int .i64 f.kind, v], g1, fun j hj => ?_⟩ hb
    rw [List.length_append, List.length_singleton] at hj
    by_cases hjl : j < xs.length
    · obtain ⟨e1, u, e2, hu, hul⟩ := h2 j hjl
      have ea : atF (xs ++ [f]) j = atF xs j := by simp [atF, List.getD, List.getElem?_append_left hjl]
      rw [ea]
      refine ⟨by rw [List.getElem?_append_left (by omega)]; exact e1, u, by rw [List.getElem?_append_left (by omega)]; exact e2, hu.kept g2 (fun k hk => hty k hk u _ hu), hul⟩
    · obtain rfl : j = xs.length := by omega
      have ea : atF (xs ++ [f]) xs.length = f := by simp [atF, List.getD]
      rw [ea]
      have e0 : xs.length * 2 = cs.length := by omega
      refine ⟨?_, v, ?_, hv.kept g2 (fun k hk => hty k hk v _ hv), hfl⟩
      · rw [e0, List.getElem?_append_right (Nat.le_refl _), Nat.sub_self]; rfl
      · rw [e0, List.getElem?_append_right (by omega), Nat.add_sub_cancel_left]; rfl
end Go.Proofs.YtpebnlddmjfomaaDoor
