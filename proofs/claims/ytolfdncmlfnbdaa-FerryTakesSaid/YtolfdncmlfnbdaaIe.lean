/- Rows of entries: copied, lent. -/
import Derived.Test.YtolfdncmlfnbdaaId
namespace Go.Proofs.Ytolfdncmlfnbdaa
open Go.RowKit

theorem info208 : (Try.prog.info? 208).map (fun i => (i.zero, i.size, i.bytes)) = some (some (.agg #[.int .i64 0, .int .u8 0, .slice none 0 0, .slice none 0 0, .slice none 0 0, .slice none 0 0, .slice none 0 0]), 7, 136) := by kernel_rfl
theorem own_stays {w w' : World} {base e sz n : Nat} {v : Value} {xs : List Value} (h : w.ownsRow base e sz v n xs) (k : ∀ b, v.ownBlock = some b → w'.heap[b]? = w.heap[b]?) : w'.ownsRow base e sz v n xs := by
  refine ⟨h.1, ?_⟩
  rcases h.2 with q | ⟨g, cap, cur, e1, e2, e3, e4⟩
  · exact .inl q
  · exact .inr ⟨g, cap, cur, e1, e2, by rw [k g (by rw [e1]; rfl)]; exact e3, e4⟩
theorem own_ty {w : World} {e sz : Nat} {base n : Nat} {v : Value} {xs : List Value} (h : w.ownsRow base e sz v n xs) {b ty : Nat} {cs : Array Value} {fz : Nat × Nat} (hb : w.heap[b]? = some (.cells cs ty fz)) (ht : ty ≠ e) : v.ownBlock ≠ some b := by
  rcases h.2 with ⟨rfl, _⟩ | ⟨g, cap, cur, rfl, r1, r2, r3⟩
  · intro h; cases h
  · intro h
    have : g = b := by simpa [Value.ownBlock] using h
    subst this
    rw [hb] at r2
    simp only [Option.some.injEq, Obj.cells.injEq] at r2
    exact ht r2.2.1
theorem row_blk {w : World} {base e sz n : Nat} {v : Value} {cs : List Value} (h : w.ownsRow base e sz v n cs) : ∀ k, v.ownBlock = some k → ∃ cur, w.heap[k]? = some (.cells cur e (0, 0)) := by
  intro k hk
  rcases h.2 with ⟨e2, _⟩ | ⟨g, cap, cur, e2, _, hg, _⟩
  · rw [e2] at hk; cases hk
  · rw [e2] at hk
    simp only [Value.ownBlock, Option.some.injEq] at hk
    subst hk
    exact ⟨cur, hg⟩
/-- A row of one type keeps where a row of another grows. -/
theorem row_keep {w w' : World} {base e sz n base2 e2 sz2 n2 : Nat} {v v2 : Value} {cs cs2 : List Value} (h : w.ownsRow base e sz v n cs) (h2 : w.ownsRow base2 e2 sz2 v2 n2 cs2) (he : e2 ≠ e) (hg : w.grownBy w' v2.ownBlock) : w'.ownsRow base e sz v n cs :=
  own_stays h fun b hb => hg.block b (World.ownsRow.lt h b hb).2 (fun e => by
    obtain ⟨cur, hc⟩ := row_blk h2 b e.symm
    exact own_ty h hc he hb)
theorem EnN.keep {w w' : World} {B : Nat} {r : ER} {e : En} (h : EnN w B r e) {b2 n2 : Nat} {v2 : Value} {cs2 : List Value} (h2 : w.ownsRow b2 208 7 v2 n2 cs2) (hg : w.grownBy w' v2.ownBlock) : EnN w' B r e :=
  ⟨row_keep h.cmd h2 (by decide) hg, ⟨row_keep h.cfg.h0.1 h2 (by decide) hg, h.cfg.h0.2⟩, ⟨row_keep h.cfg.h1.1 h2 (by decide) hg, h.cfg.h1.2⟩, ⟨row_keep h.cfg.h2.1 h2 (by decide) hg, h.cfg.h2.2⟩, ⟨row_keep h.cfg.h3.1 h2 (by decide) hg, h.cfg.h3.2⟩⟩
theorem LentO.keep {w w' : World} {B : Nat} {E : Option Addr} {n k : Nat} {zs : List Int} (h : LentO w B E n k zs) {b2 n2 : Nat} {v2 : Value} {cs2 : List Value} (h2 : w.ownsRow b2 208 7 v2 n2 cs2) (hg : w.grownBy w' v2.ownBlock) : LentO w' B E n k zs := by
  obtain ⟨g, h1, h3, h4, h5, h6, h7⟩ := h
  exact ⟨g, h1, h3, h4, h5, h6, row_keep h7 h2 (by decide) hg⟩
theorem EnL.keep {w w' : World} {B : Nat} {r : ER} {e : En} (h : EnL w B r e) {b2 n2 : Nat} {v2 : Value} {cs2 : List Value} (h2 : w.ownsRow b2 208 7 v2 n2 cs2) (hg : w.grownBy w' v2.ownBlock) : EnL w' B r e := by
  obtain ⟨g, h1, h3, h4, h5, h6, h7⟩ := h.cmd
  exact ⟨⟨g, h1, h3, h4, h5, h6, row_keep h7 h2 (by decide) hg⟩, ⟨h.cfg.h0.keep h2 hg, h.cfg.h1.keep h2 hg, h.cfg.h2.keep h2 hg, h.cfg.h3.keep h2 hg⟩⟩
def er0 : ER := ⟨none, 0, 0, ⟨none, 0, 0, none, 0, 0, none, 0, 0, none, 0, 0⟩⟩
abbrev EP := ER × En
def pA (l : List EP) (j : Nat) : EP := l.getD j (er0, en0)
def flat7 (l : List EP) : List Value := l.flatMap fun p => p.1.cells p.2
theorem flat7_append (a b : List EP) : flat7 (a ++ b) = flat7 a ++ flat7 b := by simp [flat7]
theorem flat7_len (l : List EP) : (flat7 l).length = l.length * 7 := by
  induction l with
  | nil => rfl
  | cons r l ih => simp only [flat7, List.flatMap_cons, List.length_append, List.length_cons] at ih ⊢; rw [ih]; simp [ER.cells]; omega
theorem flat7_at (l : List EP) (j k : Nat) (hj : j < l.length) (hk : k < 7) : (flat7 l)[j * 7 + k]? = ((pA l j).1.cells (pA l j).2)[k]? := by
  induction l generalizing j with
  | nil => simp at hj
  | cons r l ih =>
    have hl : (r.1.cells r.2).length = 7 := rfl
    cases j with
    | zero =>
      simp only [flat7, List.flatMap_cons, pA]
      rw [List.getElem?_append_left (by rw [hl]; omega)]
      simp
    | succ j =>
      simp only [flat7, List.flatMap_cons] at ih ⊢
      rw [List.getElem?_append_right (by rw [hl]; omega), hl, show (j + 1) * 7 + k - 7 = j * 7 + k from by omega]
      rw [show pA (r :: l) (j + 1) = pA l j from by simp [pA]]
      exact ih j (by simpa using hj)
theorem flat7_one (l : List EP) : ∀ v ∈ flat7 l, v.oneCell' = true := by
  intro v hv
  obtain ⟨r, _, h⟩ := List.mem_flatMap.1 hv
  simp only [ER.cells, List.mem_cons, List.not_mem_nil, or_false] at h
  rcases h with rfl | rfl | rfl | rfl | rfl | rfl | rfl <;> rfl
theorem pA_mem (l : List EP) (j : Nat) (h : j < l.length) : pA l j ∈ l := by
  unfold pA
  rw [List.getD_eq_getElem?_getD, List.getElem?_eq_getElem h]
  exact List.getElem_mem h
theorem pA_snd (l : List EP) (j : Nat) (h : j < l.length) : (pA l j).2 = enA (l.map Prod.snd) j := by
  unfold pA enA
  rw [List.getD_eq_getElem?_getD, List.getD_eq_getElem?_getD, List.getElem?_map, List.getElem?_eq_getElem h]
  rfl
/-- One entry appended to a row of the call's own. -/
theorem wpList_appE {ops : Array Oper} {rest : List Oper} {o : Oper} {a : Act} {w : World} {Q : Exit → Act → World → Prop} (hgd : o.guard = none) (s x : Operand)
    (ho : o.op = .call { callee := .builtin .append, args := #[s, x], argTypes := #[91, 91] })
    (base : Nat) (A : Option Addr) (n c : Nat) (ps : List EP) (hs : a.eval s = .slice A n c) (hown : w.ownsRow base 208 7 (.slice A n c) n (flat7 ps)) (b d : Nat) (p : EP) (hx : a.eval x = .slice (some ⟨b, 0, none⟩) 1 d)
    (hin : w.heap[b]? = some (.cells (p.1.cells p.2).toArray 208 (0, 0))) (hn : n + 1 ≤ 1000000) (hbase : base ≤ w.heap.size)
    (h : ∀ A' c' w', w'.ownsRow base 208 7 (.slice A' (n + 1) c') (n + 1) (flat7 (ps ++ [p])) → w.grownBy w' (Value.slice A n c).ownBlock → wpList Try.prog ops Q rest (a.put o.dst (.slice A' (n + 1) c')) w') : wpList Try.prog ops Q (o :: rest) a w := by
  obtain ⟨i0, hi, hz0, hz1, hz2⟩ := info_parts info208
  have e1 : flat7 [p] = p.1.cells p.2 := by simp [flat7]
  refine wpList_append_own _ hgd s x 91 ho base 208 i0 _ 7 136 Try.underlying91 hi hz0 hz1 hz2 rfl (by decide) (.slice A n c) n (flat7 ps) hs hown ⟨b, 0, none⟩ 1 d (flat7 [p]) hx (by rw [flat7_len]; rfl) ?_ (flat7_one [p]) (by unfold maxLen; omega) (by omega) hbase ?_
  · intro j u hu
    rw [e1] at hu
    rw [Addr.add_lit, Nat.zero_add, cell_of_heap hin, List.getElem?_toArray]
    exact hu
  · intro v' w' h2 h3 _
    rw [← flat7_append] at h2
    have hv : ∃ A c, v' = .slice A (n + 1) c := by
      rcases h2.2 with ⟨rfl, q⟩ | ⟨g, cap, cur, rfl, _⟩
      · omega
      · exact ⟨_, _, rfl⟩
    obtain ⟨A', c', rfl⟩ := hv
    exact h A' c' w' h2 h3
theorem grownBy_below {w w' : World} {r : Option Nat} {B : Nat} (h : w.grownBy w' r) (hr : ∀ b, r = some b → B ≤ b) (hB : B ≤ w.heap.size) : Below B w w' :=
  ⟨h.os, h.tape, h.output, h.size, fun k hk => h.block k (by omega) (fun e => by have := hr k e.symm; omega)⟩
/-- A row of entries, all of it the call's own. -/
def EntsN (w : World) (B : Nat) (A : Option Addr) (n c : Nat) (l : List En) : Prop := ∃ ps : List EP, ps.map Prod.snd = l ∧ ps.length = n ∧ w.ownsRow B 208 7 (.slice A n c) n (flat7 ps) ∧ ∀ p, p ∈ ps → EnN w B p.1 p.2
theorem row7_cells {w : World} {B : Nat} {A : Option Addr} {n m c : Nat} {ps : List EP} (h : w.ownsRow B 208 7 (.slice A n c) n (flat7 ps)) (hm : m ≤ ps.length) : ∀ j, j < m → ∃ g, A = some ⟨g, 0, none⟩ ∧ ∀ k, k < 7 → w.cell? ⟨g, 0 + j * 7 + k, none⟩ = ((pA ps j).1.cells (pA ps j).2)[k]? := by
  intro j hj
  have hl : ps.length = n := by
    have := h.1
    rw [flat7_len] at this
    omega
  rcases h.2 with ⟨e, h0⟩ | ⟨g, cap, cur, e, _⟩
  · omega
  · simp only [Value.slice.injEq] at e
    obtain ⟨rfl, _, rfl⟩ := e
    refine ⟨g, rfl, fun k hk => ?_⟩
    have h1 := flat7_at ps j k (by omega) hk
    have h2 : k < ((pA ps j).1.cells (pA ps j).2).length := hk
    rw [List.getElem?_eq_getElem h2] at h1 ⊢
    have := World.ownsRow.cells h rfl _ _ h1
    rw [Addr.add_lit, ← Nat.add_assoc] at this
    exact this
theorem EntsN.in {w : World} {B : Nat} {A : Option Addr} {n c : Nat} {l : List En} (h : EntsN w B A n c l) (hl : ∀ e, e ∈ l → EnLe e) : EntsIn w A l := by
  obtain ⟨ps, rfl, hn, ho, hp⟩ := h
  intro j hj
  rw [List.length_map] at hj
  obtain ⟨g, rfl, hc⟩ := row7_cells ho (Nat.le_refl _) j hj
  have hm := pA_mem ps j hj
  rw [← pA_snd ps j hj]
  exact ⟨g, 0, (pA ps j).1, rfl, (hp _ hm).at (hl _ (List.mem_map_of_mem hm)), hc⟩

end Go.Proofs.Ytolfdncmlfnbdaa
