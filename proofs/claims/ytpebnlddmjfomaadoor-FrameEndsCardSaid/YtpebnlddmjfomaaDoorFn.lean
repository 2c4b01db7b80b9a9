/- Frames appended to frames; the law FrameBehind, walked. -/
import Derived.Test.YtpebnlddmjfomaaDoorFm
namespace Go.Proofs.YtpebnlddmjfomaaDoor
open Go.RowKit
/-- These cells are these frames'. -/
def CsAt (w : World) (cs : List Value) (l : List Fr) : Prop := cs.length = l.length * 2 ∧ (∀ u ∈ cs, u.oneCell' = true) ∧ ∀ j, j < l.length → cs[j * 2]? = some (.int .i64 (atF l j).kind) ∧ ∃ v, cs[j * 2 + 1]? = some v ∧ BytesIn w v (atF l j).data
theorem CsAt.ok {w w' : World} {cs : List Value} {l : List Fr} (h : CsAt w cs l) (k : Ok w w') : CsAt w' cs l :=
  ⟨h.1, h.2.1, fun j hj => by obtain ⟨e1, v, e2, hb⟩ := h.2.2 j hj; exact ⟨e1, v, e2, k.bytes hb⟩⟩
theorem atF_left (l m : List Fr) (j : Nat) (h : j < l.length) : atF (l ++ m) j = atF l j := by simp [atF, List.getD, List.getElem?_append_left h]
theorem atF_right (l m : List Fr) (j : Nat) : atF (l ++ m) (l.length + j) = atF m j := by
  unfold atF
  rw [List.getD_eq_getElem?_getD, List.getD_eq_getElem?_getD, List.getElem?_append_right (Nat.le_add_right _ _), Nat.add_sub_cancel_left]
theorem CsAt.append {w : World} {a b : List Value} {l m : List Fr} (h : CsAt w a l) (k : CsAt w b m) : CsAt w (a ++ b) (l ++ m) := by
  refine ⟨by rw [List.length_append, List.length_append, h.1, k.1]; omega, fun u hu => ?_, fun j hj => ?_⟩
  · rcases List.mem_append.1 hu with hu | hu
    · exact h.2.1 u hu
    · exact k.2.1 u hu
  · rw [List.length_append] at hj
    by_cases hjl : j < l.length
    · obtain ⟨e1, v, e2, hb⟩ := h.2.2 j hjl
      rw [atF_left l m j hjl]
      exact ⟨by rw [List.getElem?_append_left (by rw [h.1]; omega)]; exact e1, v, by rw [List.getElem?_append_left (by rw [h.1]; omega)]; exact e2, hb⟩
    · obtain ⟨i, rfl⟩ : ∃ i, j = l.length + i := ⟨j - l.length, by omega⟩
      obtain ⟨e1, v, e2, hb⟩ := k.2.2 i (by omega)
      rw [atF_right]
      exact ⟨by rw [List.getElem?_append_right (by rw [h.1]; omega), h.1, show (l.length + i) * 2 - l.length * 2 = i * 2 by omega]; exact e1, v, by rw [List.getElem?_append_right (by rw [h.1]; omega), h.1, show (l.length + i) * 2 + 1 - l.length * 2 = i * 2 + 1 by omega]; exact e2, hb⟩
/-- The cells of frames in memory. -/
theorem frames_cells {w : World} {A : Option Addr} {l : List Fr} (h : FramesAt w A l) : ∃ cs, CsAt w cs l ∧ ∀ j u, cs[j]? = some u → ∃ b off, A = some ⟨b, off, none⟩ ∧ w.cell? ⟨b, off + j, none⟩ = some u := by
  induction l generalizing A with
  | nil => exact ⟨[], ⟨rfl, fun u hu => absurd hu List.not_mem_nil, fun j hj => absurd hj (Nat.not_lt_zero _)⟩, fun j u hu => by simp at hu⟩
  | cons f l ih =>
    obtain ⟨b, off, rfl, c0, v, c1, hb⟩ := h 0 (by simp)
    simp only [Nat.zero_mul, Nat.add_zero] at c0 c1
    have h2 : FramesAt w (some ⟨b, off + 2, none⟩) l := fun j hj => by
      obtain ⟨b', off', e, d0, u, d1, hu⟩ := h (j + 1) (by simp; omega)
      simp only [Option.some.injEq, Addr.mk.injEq, and_true] at e
      obtain ⟨rfl, rfl⟩ := e
      refine ⟨b, off + 2, rfl, ?_, u, ?_, hu⟩
      · rw [show off + 2 + j * 2 = off + (j + 1) * 2 by omega]; exact d0
      · rw [show off + 2 + j * 2 + 1 = off + (j + 1) * 2 + 1 by omega]; exact d1
    obtain ⟨cs, hc, hcell⟩ := ih h2
    obtain ⟨A', c', hv, -⟩ := hb.form
    refine ⟨.int .i64 f.kind :: v :: cs, ⟨?_, fun u hu => ?_, fun j hj => ?_⟩, fun j u hu => ?_⟩
    · simp only [List.length_cons, hc.1]; omega
    · rcases List.mem_cons.1 hu with rfl | hu
      · rfl
      · rcases List.mem_cons.1 hu with rfl | hu
        · rw [hv]; rfl
        · exact hc.2.1 u hu
    · match j, hj with
      | 0, _ => exact ⟨rfl, v, rfl, hb⟩
      | j + 1, hj =>
        obtain ⟨e1, u, e2, hu⟩ := hc.2.2 j (by simpa using hj)
        refine ⟨?_, u, ?_, hu⟩
        · rw [show (j + 1) * 2 = j * 2 + 1 + 1 by omega, List.getElem?_cons_succ, List.getElem?_cons_succ]; exact e1
        · rw [show (j + 1) * 2 + 1 = j * 2 + 1 + 1 + 1 by omega, List.getElem?_cons_succ, List.getElem?_cons_succ]; exact e2
    · refine ⟨b, off, rfl, ?_⟩
      match j, hu with
      | 0, hu =>
        obtain rfl : u = .int .i64 f.kind := by simpa using hu.symm
        exact c0
      | 1, hu =>
        obtain rfl : u = v := by simpa using hu.symm
        exact c1
      | j + 2, hu =>
        obtain ⟨b', off', e, hx⟩ := hcell j u (by simpa using hu)
        simp only [Option.some.injEq, Addr.mk.injEq, and_true] at e
        obtain ⟨rfl, rfl⟩ := e
        rw [show off + (j + 2) = off + 2 + j by omega]
        exact hx
theorem CsAt.at {w : World} {cs : List Value} {l : List Fr} (h : CsAt w cs l) {base n c : Nat} {A : Option Addr} (ho : w.ownsRow base 28 2 (.slice A n c) n cs) : FramesAt w A l := fun j hj => by
  obtain ⟨e1, v, e2, hb⟩ := h.2.2 j hj
  have hl := ho.1
  rw [h.1] at hl
  rcases ho.2 with ⟨_, h5⟩ | ⟨g, cap, cur, e, r⟩
  · omega
  · simp only [Value.slice.injEq] at e
    obtain ⟨rfl, -, rfl⟩ := e
    refine ⟨g, 0, rfl, ?_, v, ?_, hb⟩
    · rw [Nat.zero_add, World.ownsRow.cellAt ho (j * 2) (by omega)]; exact e1
    · rw [Nat.zero_add, World.ownsRow.cellAt ho (j * 2 + 1) (by omega)]; exact e2
theorem wpList_appC {ops : Array Oper} {rest : List Oper} {o : Oper} {a : Act} {w : World} {Q : Exit → Act → World → Prop} (hwant : Region.wanted o (yielded ops a.tmps) = true) (s x : Operand)
    (ho : o.op = .call { callee := .builtin .append, args := #[s, x], argTypes := #[22, 22] })
    (base : Nat) (v : Value) (N : Nat) (cs : List Value) (hs : a.eval s = v) (hown : w.ownsRow base 28 2 v N cs)
    (A2 : Option Addr) (m c2 : Nat) (cs2 : List Value) (hx : a.eval x = .slice A2 m c2) (hl : cs2.length = m * 2) (hnil : A2 = none → c2 = 0) (hnews : ∀ j u, cs2[j]? = some u → ∃ b off, A2 = some ⟨b, off, none⟩ ∧ w.cell? ⟨b, off + j, none⟩ = some u)
    (h1 : ∀ u ∈ cs2, u.oneCell' = true) (hlen : N + m ≤ 1000000) (hbase : base ≤ w.heap.size)
    (hk : ∀ A' M c' w', M = N + m → w'.ownsRow base 28 2 (.slice A' M c') M (cs ++ cs2) → Below base w w' → wpList Tryd.prog ops Q rest (a.put o.dst (.slice A' M c')) w') : wpList Tryd.prog ops Q (o :: rest) a w := by
  obtain ⟨i0, hi, hz0, hz1, hz2⟩ := info_parts info28
  refine wpList_step fun K hK => ?_
  rw [if_pos hwant]
  have late : ∀ v' w', w'.ownsRow base 28 2 v' (N + m) (cs ++ cs2) → w.grownBy w' v.ownBlock → K (a.put o.dst v') w' := by
    intro v' w' h2 h3
    have hb : Below base w w' := (Below.refl base w).grown h3 hbase (fun k hk => (World.ownsRow.lt hown k hk).1)
    obtain ⟨A', c', rfl⟩ : ∃ A' c', v' = .slice A' (N + m) c' := by
      rcases h2.2 with ⟨rfl, h5⟩ | ⟨g', cap', cur, rfl, _⟩
      · exact ⟨none, 0, by rw [h5]⟩
      · exact ⟨_, _, rfl⟩
    exact hK _ _ (hk A' _ c' w' rfl h2 hb)
  unfold Oper.wp execOp
  cases A2 with
  | none =>
    obtain rfl : cs2 = [] := by
      cases cs2 with
      | nil => rfl
      | cons y ys => obtain ⟨_, _, e, _⟩ := hnews 0 y rfl; cases e
    obtain rfl : m = 0 := by simp at hl; omega
    obtain rfl := hnil rfl
    have hr := run_append_owned_none (P := Tryd.prog) (w := w) base 22 o.type 28 i0 2 Tryd.underlying22 hi v N cs hown
    simp only [ho, resolve, invoke, builtin, Sem.run_bind, Sem.run_pure, Result.andThen_ok, List.map_toArray, List.map_cons, List.map_nil, hs, hx, hr]
    exact late _ w (by simpa using hown) ⟨rfl, rfl, rfl, Nat.le_refl _, fun _ _ _ => rfl⟩
  | some ad =>
    have hin : ∀ j u, cs2[j]? = some u → w.cell? (ad.add j) = some u := by
      intro j u hu
      obtain ⟨b, off, e, h0⟩ := hnews j u hu
      simp only [Option.some.injEq] at e
      subst e
      have e2 : (⟨b, off, none⟩ : Addr).add j = ⟨b, off + j, none⟩ := by unfold Addr.add; split <;> simp_all
      rw [e2, h0]
    obtain ⟨v', w', hr, h2, h3, _, _⟩ := run_append_own_at (P := Tryd.prog) w base 22 o.type 28 i0 (.agg #[.int .i64 0, .slice none 0 0]) 2 32 Tryd.underlying22 hi hz0 hz1 hz2 rfl (by decide) v N cs hown ad m c2 cs2 hl hin h1 (by unfold maxLen; omega) (by omega) hbase
    simp only [ho, resolve, invoke, builtin, Sem.run_bind, Sem.run_pure, Result.andThen_ok, List.map_toArray, List.map_cons, List.map_nil, hs, hx, hr]
    exact late v' w' h2 h3
end Go.Proofs.YtpebnlddmjfomaaDoor
