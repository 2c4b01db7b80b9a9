/- The builtin append on lists of bytes, as an operation's law: what comes out lies in a row of the call's own. -/
import Derived.Test.YticmpkpopfkhnaaDoorO
import Derived.Laws.AppendOwnNone
namespace Go.Proofs.YticmpkpopfkhnaaDoor
open Go.RowKit

def bv (b : B8) : Value := .int .u8 (ub b)
/-- A row of the call's own, from block base on, that holds these bytes. -/
def OwnB (w : World) (base g cap : Nat) (xs : List B8) : Prop := w.ownsRow base 5 1 (.slice (some ⟨g, 0, none⟩) xs.length cap) xs.length (xs.map bv) ∧ xs.length ≤ cap ∧ cap ≤ maxLen
theorem OwnB.bytes {w : World} {base g cap : Nat} {xs : List B8} (h : OwnB w base g cap xs) (hm : xs.length ≤ 140737488351232) : BytesIn w (.slice (some ⟨g, 0, none⟩) xs.length cap) xs := by
  refine .inr ⟨g, 0, cap, rfl, hm, fun i hi => ?_⟩
  rw [Nat.zero_add, h.1.cellAt i (by omega)]
  simp [hi, bv]
theorem OwnB.base_le {w : World} {base g cap : Nat} {xs : List B8} (h : OwnB w base g cap xs) : base ≤ g ∧ g < w.heap.size := h.1.lt g rfl
theorem OwnB.ok {w w' : World} {base g cap : Nat} {xs : List B8} (h : OwnB w base g cap xs) (k : Ok w w') : OwnB w' base g cap xs :=
  ⟨h.1.kept (row := none) ⟨k.os, k.tape, k.output, k.size, fun i hi _ => k.block i hi⟩ (.inr (by simp [Value.ownBlock])), h.2⟩

theorem info5 : (Tryd.prog.info? 5).map (fun i => (i.zero, i.size, i.bytes)) = some (some (.int .u8 0), 1, 1) := by kernel_rfl

theorem wpList_app {ops : Array Oper} {rest : List Oper} {o : Oper} {a : Act} {w : World} {Q : Exit → Act → World → Prop} (hgd : o.guard = none) (s x : Operand)
    (ho : o.op = .call { callee := .builtin .append, args := #[s, x], argTypes := #[34, 34] })
    (base g cap : Nat) (xs ys : List B8) (vx : Value) (hs : a.eval s = .slice (some ⟨g, 0, none⟩) xs.length cap) (hx : a.eval x = vx) (hown : OwnB w base g cap xs) (hy : BytesIn w vx ys)
    (hlen : xs.length + ys.length ≤ 140737488351232) (hbase : base ≤ w.heap.size)
    (h : ∀ g' cap' w', OwnB w' base g' cap' (xs ++ ys) → Below base w w' → wpList Tryd.prog ops Q rest (a.put o.dst (.slice (some ⟨g', 0, none⟩) (xs.length + ys.length) cap')) w') : wpList Tryd.prog ops Q (o :: rest) a w := by
  obtain ⟨i0, hi, hz0, hz1, hz2⟩ := info_parts info5
  have hlate : ∀ v' w', w'.ownsRow base 5 1 v' (xs.length + ys.length) (xs.map bv ++ ys.map bv) → w.grownBy w' (some g) → (v' = .slice none 0 0 → False) → wpList Tryd.prog ops Q rest (a.put o.dst v') w' := by
    intro v' w' h2 h3 h4
    have hb : Below base w w' := (Below.refl base w).grown h3 hbase (fun k hk => by
      simp only [Option.some.injEq] at hk
      rw [← hk]; exact hown.base_le.1)
    rcases h2.2 with ⟨h5, _⟩ | ⟨g', cap', cur, rfl, hr⟩
    · exact (h4 h5).elim
    · refine h g' cap' w' ⟨?_, ?_, hr.2.2.2.1⟩ hb
      · rw [List.map_append, List.length_append]; exact h2
      · rw [List.length_append]; exact hr.2.2.1
  rcases hy with ⟨rfl, A, c, rfl, hA⟩ | ⟨b, off, c, rfl, hm, hc⟩
  · cases A with
    | some ad =>
      refine wpList_append_own _ hgd s x 34 ho base 5 i0 (.int .u8 0) 1 1 Tryd.underlying34 hi hz0 hz1 hz2 rfl (by decide) _ xs.length (xs.map bv) hs hown.1 ad 0 c [] hx rfl (fun j u hu => by simp at hu) (fun u hu => by simp at hu) (by unfold maxLen; simp at hlen; omega) (by simp at hlen; omega) hbase ?_
      intro v' w' h2 h3 h4
      exact hlate v' w' h2 h3 (fun e => by have := (h4.1 e).1; simp at this)
    | none =>
    obtain rfl := hA rfl
    refine wpList_append_own_none hgd s x 34 ho base 5 i0 1 Tryd.underlying34 hi _ xs.length (xs.map bv) hs hown.1 hx ?_
    have := h g cap w (by simpa using hown) (Below.refl _ _)
    simpa using this
  · refine wpList_append_own _ hgd s x 34 ho base 5 i0 (.int .u8 0) 1 1 Tryd.underlying34 hi hz0 hz1 hz2 rfl (by decide) _ xs.length (xs.map bv) hs hown.1 ⟨b, off, none⟩ ys.length c (ys.map bv) hx (by simp) ?_ ?_ (by unfold maxLen; omega) (by omega) hbase ?_
    · intro j u hu
      have hj : j < ys.length := by
        by_cases hl : j < ys.length
        · exact hl
        · rw [List.getElem?_eq_none (by simp; omega)] at hu; cases hu
      have e : (⟨b, off, none⟩ : Addr).add j = ⟨b, off + j, none⟩ := by unfold Addr.add; split <;> simp_all
      rw [e, hc j hj, ← hu]
      simp [hj, bv]
    · intro u hu
      obtain ⟨y, _, rfl⟩ := List.mem_map.1 hu
      rfl
    · intro v' w' h2 h3 h4
      exact hlate v' w' h2 h3 (fun e => by have := (h4.1 e).1; simp at this)

/-- A new list without elements. -/
theorem OwnB.start (w : World) (base : Nat) (hb : base ≤ w.heap.size) : OwnB (w.alloc (.cells #[] 5)) base w.heap.size 0 [] :=
  ⟨World.ownsRow_lit w #[] 0 hb (by decide) rfl, by decide, by decide⟩
end Go.Proofs.YticmpkpopfkhnaaDoor
