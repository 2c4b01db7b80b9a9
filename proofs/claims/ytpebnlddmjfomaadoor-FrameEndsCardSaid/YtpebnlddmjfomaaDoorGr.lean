/- Frames lent, and the rows that remember them. -/
import Derived.Test.YtpebnlddmjfomaaDoorGq
import Derived.Test.YtpebnlddmjfomaaDoorGf
namespace Go.Proofs.YtpebnlddmjfomaaDoor
open Go.RowKit
theorem wpList_app1 {ops : Array Oper} {rest : List Oper} {o : Oper} {a : Act} {w : World} {Q : Exit → Act → World → Prop} (hgd : o.guard = none) (s x : Operand)
    (ho : o.op = .call { callee := .builtin .append, args := #[s, x], argTypes := #[26, 26] })
    (base : Nat) (A : Option Addr) (n c : Nat) (cs : List Value) (hs : a.eval s = .slice A n c) (h1 : w.ownsRow base 23 1 (.slice A n c) n cs)
    (b : Nat) (v : Value) (hv : v.oneCell' = true) (hx : a.eval x = .slice (some ⟨b, 0, none⟩) 1 1) (hc : w.heap[b]? = some (.cells #[v] 23 (0, 0))) (hlen : n ≤ 1000000000) (hbase : base ≤ w.heap.size)
    (hk : ∀ A' c' w', w'.ownsRow base 23 1 (.slice A' (n + 1) c') (n + 1) (cs ++ [v]) → Below base w w' → w.grownBy w' (Value.slice A n c).ownBlock → wpList Tryd.prog ops Q rest (a.put o.dst (.slice A' (n + 1) c')) w') : wpList Tryd.prog ops Q (o :: rest) a w := by
  obtain ⟨i0, hi, hz0, hz1, hz2⟩ := info_parts info23
  refine wpList_append_own_at _ hgd s x 26 ho base 23 i0 (.slice none 0 0) 1 24 Tryd.underlying26 hi hz0 hz1 hz2 rfl (by decide) _ n cs hs h1 ⟨b, 0, none⟩ 1 1 [v] hx rfl ?_ (fun u hu => (List.mem_singleton.1 hu) ▸ hv) (by unfold maxLen; omega) (by omega) hbase ?_
  · intro j u hu
    have hadd : (⟨b, 0, none⟩ : Addr).add j = ⟨b, j, none⟩ := by unfold Addr.add; split <;> simp_all
    rw [hadd, cell_of_heap hc]
    simpa using hu
  · intro v' w' g1 g2 _ _
    have hb : Below base w w' := (Below.refl base w).grown g2 hbase (fun k hk => (World.ownsRow.lt h1 k hk).1)
    rcases g1.2 with ⟨_, h5⟩ | ⟨g', cap', cur, rfl, hr⟩
    · omega
    · exact hk _ _ w' ⟨g1.1, .inr ⟨g', cap', cur, rfl, hr⟩⟩ hb g2
theorem row_blk {w : World} {base e sz n : Nat} {v : Value} {cs : List Value} (h : w.ownsRow base e sz v n cs) : ∀ k, v.ownBlock = some k → ∃ cur, w.heap[k]? = some (.cells cur e (0, 0)) := by
  intro k hk
  rcases h.2 with ⟨e2, _⟩ | ⟨g, cap, cur, e2, _, hg, _⟩
  · rw [e2] at hk; cases hk
  · rw [e2] at hk
    simp only [Value.ownBlock, Option.some.injEq] at hk
    subst hk
    exact ⟨cur, hg⟩
/-- A row of one type keeps where a row of another grows. -/
theorem row_keep {w w' : World} {base e sz n base2 e2 sz2 n2 : Nat} {v v2 : Value} {cs cs2 : List Value} (h : w.ownsRow base e sz v n cs) (h2 : w.ownsRow base2 e2 sz2 v2 n2 cs2) (he : e2 ≠ e) (hg : w.grownBy w' v2.ownBlock) : w'.ownsRow base e sz v n cs :=
  own_stays h fun b hb => hg.block b (World.ownsRow.lt h b hb).2 (fun e => by
    obtain ⟨cur, hc⟩ := row_blk h2 b e.symm
    exact own_ty h hc he hb)
def DatR (w wr : World) (A : Option Addr) (k c : Nat) (l : List Fr) : Prop := ∃ ds, wr.ownsRow w.heap.size 23 1 (.slice A k c) k ds ∧ ∀ j, j < k → ∃ v, ds[j]? = some v ∧ BytesIn w v (atF l j).data
def InR (w wr : World) (A : Option Addr) (k c : Nat) (l : List Fr) : Prop := ∃ cs, wr.ownsRow w.heap.size 28 2 (.slice A k c) k cs ∧ ∀ j, j < k → cs[j * 2]? = some (.int .i64 (atF l j).kind) ∧ ∃ g cap, cs[j * 2 + 1]? = some (.slice (some ⟨g, 0, none⟩) (atF l j).data.length cap) ∧ (atF l j).data.length + 12 ≤ cap ∧ OwnN wr w.heap.size (.slice (some ⟨g, 0, none⟩) ((atF l j).data.length + 12) cap) ((atF l j).data ++ mks 12)
theorem DatR.nil (w wr : World) (l : List Fr) : DatR w wr none 0 0 l := ⟨[], World.ownsRow_nil _ _ _ _, fun _ hj => absurd hj (Nat.not_lt_zero _)⟩
theorem InR.nil (w wr : World) (l : List Fr) : InR w wr none 0 0 l := ⟨[], World.ownsRow_nil _ _ _ _, fun _ hj => absurd hj (Nat.not_lt_zero _)⟩
theorem DatR.ok {w wr w' : World} {A : Option Addr} {k c : Nat} {l : List Fr} (h : DatR w wr A k c l) (o : Ok wr w') : DatR w w' A k c l := by
  obtain ⟨ds, h1, h2⟩ := h
  exact ⟨ds, own_stays h1 fun b hb => o.block b (World.ownsRow.lt h1 b hb).2, h2⟩
theorem InR.ok {w wr w' : World} {A : Option Addr} {k c : Nat} {l : List Fr} (h : InR w wr A k c l) (o : Ok wr w') : InR w w' A k c l := by
  obtain ⟨cs, h1, h2⟩ := h
  exact ⟨cs, row_ok h1 o, fun j hj => by obtain ⟨e0, g, cap, e1, hc, ho⟩ := h2 j hj; exact ⟨e0, g, cap, e1, hc, ho.ok o⟩⟩
theorem DatR.snoc {w w' : World} {A' : Option Addr} {k c' : Nat} {l : List Fr} {v : Value} {ds : List Value} (h2 : ∀ j, j < k → ∃ v, ds[j]? = some v ∧ BytesIn w v (atF l j).data) (hl : ds.length = k) (hv : BytesIn w v (atF l k).data) (g1 : w'.ownsRow w.heap.size 23 1 (.slice A' (k + 1) c') (k + 1) (ds ++ [v])) : DatR w w' A' (k + 1) c' l := by
  refine ⟨_, g1, fun j hj => ?_⟩
  by_cases hjk : j < k
  · obtain ⟨u, e, hu⟩ := h2 j hjk
    exact ⟨u, by rw [List.getElem?_append_left (by omega)]; exact e, hu⟩
  · obtain rfl : j = k := by omega
    exact ⟨v, by rw [List.getElem?_append_right (by omega), hl, Nat.sub_self]; rfl, hv⟩
theorem InR.grown {w wr w' : World} {A : Option Addr} {k c base n : Nat} {l : List Fr} {v : Value} {ds : List Value} (h : InR w wr A k c l) (h2 : wr.ownsRow base 23 1 v n ds) (hg : wr.grownBy w' v.ownBlock) : InR w w' A k c l := by
  obtain ⟨cs, h1, h3⟩ := h
  exact ⟨cs, row_keep h1 h2 (by decide) hg, fun j hj => by obtain ⟨e0, g, cap, e1, hc, ho⟩ := h3 j hj; exact ⟨e0, g, cap, e1, hc, row_keep ho h2 (by decide) hg⟩⟩
theorem DatR.grown {w wr w' : World} {A : Option Addr} {k c base n : Nat} {l : List Fr} {v : Value} {ds : List Value} (h : DatR w wr A k c l) (h2 : wr.ownsRow base 28 2 v n ds) (hg : wr.grownBy w' v.ownBlock) : DatR w w' A k c l := by
  obtain ⟨cs, h1, h3⟩ := h
  exact ⟨cs, row_keep h1 h2 (by decide) hg, h3⟩
theorem InR.snoc {w wr w' : World} {A A' : Option Addr} {k c c' g cap m : Nat} {l : List Fr} {cs : List Value} (h1 : wr.ownsRow w.heap.size 28 2 (.slice A k c) k cs)
    (h2 : ∀ j, j < k → cs[j * 2]? = some (.int .i64 (atF l j).kind) ∧ ∃ g cap, cs[j * 2 + 1]? = some (.slice (some ⟨g, 0, none⟩) (atF l j).data.length cap) ∧ (atF l j).data.length + 12 ≤ cap ∧ OwnN wr w.heap.size (.slice (some ⟨g, 0, none⟩) ((atF l j).data.length + 12) cap) ((atF l j).data ++ mks 12))
    (hm : (atF l k).data.length = m) (hc : m + 12 ≤ cap) (ho : OwnN wr w.heap.size (.slice (some ⟨g, 0, none⟩) (m + 12) cap) ((atF l k).data ++ mks 12))
    (g1 : w'.ownsRow w.heap.size 28 2 (.slice A' (k + 1) c') (k + 1) (cs ++ [.int .i64 (atF l k).kind, .slice (some ⟨g, 0, none⟩) m cap])) (g2 : wr.grownBy w' (Value.slice A k c).ownBlock) : InR w w' A' (k + 1) c' l := by
  subst hm
  have hl : cs.length = k * 2 := h1.1
  refine ⟨_, g1, fun j hj => ?_⟩
  by_cases hjk : j < k
  · obtain ⟨e0, g', cap', e1, hc', ho'⟩ := h2 j hjk
    exact ⟨by rw [List.getElem?_append_left (by omega)]; exact e0, g', cap', by rw [List.getElem?_append_left (by omega)]; exact e1, hc', row_keep ho' h1 (by decide) g2⟩
  · obtain rfl : j = k := by omega
    refine ⟨by rw [List.getElem?_append_right (by omega), hl, Nat.sub_self]; rfl, g, cap, ?_, hc, row_keep ho h1 (by decide) g2⟩
    rw [List.getElem?_append_right (by omega), hl, Nat.add_sub_cancel_left]; rfl
/-- The lent rows of frames are frames. -/
theorem lent_bytes {w : World} {g n cap B : Nat} {zs : List B8} (hn : zs.length = n) (hc : n + 12 ≤ 140737488351232) (ho : OwnN w B (.slice (some ⟨g, 0, none⟩) (n + 12) cap) (zs ++ mks 12)) : BytesIn w (.slice (some ⟨g, 0, none⟩) n cap) zs := by
  have h := bytes_take (N := n) (ho.bytes (by rw [List.length_append, mks_len, hn]; exact hc)) (by rw [List.length_append, hn]; omega)
  have e : (zs ++ mks 12).take n = zs := by rw [← hn]; exact List.take_left
  rw [e] at h
  exact h
theorem InR.at {w wr : World} {A : Option Addr} {k c : Nat} {l : List Fr} (h : InR w wr A k c l) (hl : l.length = k) (hd : ∀ j, j < k → (atF l j).data.length + 12 ≤ 140737488351232) : FramesAt wr A l := fun j hj => by
  obtain ⟨cs, h1, h2⟩ := h
  obtain ⟨e0, g, cap, e1, hc, ho⟩ := h2 j (by omega)
  rcases h1.2 with ⟨_, h5⟩ | ⟨q, cap', cur, e, r⟩
  · omega
  · simp only [Value.slice.injEq] at e
    obtain ⟨rfl, -, rfl⟩ := e
    have hl2 := h1.1
    refine ⟨q, 0, rfl, ?_, _, ?_, lent_bytes rfl (hd j (by omega)) ho⟩
    · rw [Nat.zero_add, World.ownsRow.cellAt h1 (j * 2) (by omega)]; exact e0
    · rw [Nat.zero_add, World.ownsRow.cellAt h1 (j * 2 + 1) (by omega)]; exact e1
end Go.Proofs.YtpebnlddmjfomaaDoor
