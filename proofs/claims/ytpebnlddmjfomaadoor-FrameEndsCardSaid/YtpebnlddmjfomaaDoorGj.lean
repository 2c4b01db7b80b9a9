/- Rows of two cells each, appended to; frames turned. -/
import Derived.Test.YtpebnlddmjfomaaDoorGi
namespace Go.Proofs.YtpebnlddmjfomaaDoor
open Go.RowKit
theorem info45 : (Tryd.prog.info? 45).map (fun i => (i.zero, i.size, i.bytes)) = some (some (.agg #[.int .i64 0, .slice none 0 0]), 2, 32) := by kernel_rfl
theorem cells_in2 {w : World} {b e : Nat} {k : Int} {v : Value} (hc : w.heap[b]? = some (.cells #[.int .i64 k, v] e (0, 0))) : ∀ j u, ([.int .i64 k, v] : List Value)[j]? = some u → w.cell? ((⟨b, 0, none⟩ : Addr).add j) = some u := by
  intro j u hu
  have hadd : (⟨b, 0, none⟩ : Addr).add j = ⟨b, j, none⟩ := by unfold Addr.add; split <;> simp_all
  rw [hadd, cell_of_heap hc]
  simpa using hu
theorem ones2 {k : Int} {v : Value} (hv : v.oneCell' = true) : ∀ u ∈ ([.int .i64 k, v] : List Value), u.oneCell' = true := fun u hu => by
  rcases List.mem_cons.1 hu with rfl | hu
  · rfl
  · obtain rfl : u = v := by simpa using hu
    exact hv
theorem row_form {w' : World} {base e n : Nat} {v' : Value} {cs : List Value} (g1 : w'.ownsRow base e 2 v' (n + 1) cs) : ∃ A' c', v' = .slice A' (n + 1) c' := by
  rcases g1.2 with ⟨_, h5⟩ | ⟨g', cap', cur, rfl, _⟩
  · omega
  · exact ⟨_, _, rfl⟩
theorem wpList_app2 {ops : Array Oper} {rest : List Oper} {o : Oper} {a : Act} {w : World} {Q : Exit → Act → World → Prop} (hgd : o.guard = none) (s x : Operand) (t e : Nat) (hu : Tryd.prog.underlying t = some (.slice e))
    (hif : (Tryd.prog.info? e).map (fun i => (i.zero, i.size, i.bytes)) = some (some (.agg #[.int .i64 0, .slice none 0 0]), 2, 32))
    (ho : o.op = .call { callee := .builtin .append, args := #[s, x], argTypes := #[t, t] })
    (base : Nat) (A : Option Addr) (n c : Nat) (cs : List Value) (hs : a.eval s = .slice A n c) (h1 : w.ownsRow base e 2 (.slice A n c) n cs)
    (b : Nat) (k : Int) (v : Value) (hv : v.oneCell' = true) (hx : a.eval x = .slice (some ⟨b, 0, none⟩) 1 1) (hc : w.heap[b]? = some (.cells #[.int .i64 k, v] e (0, 0))) (hlen : n ≤ 1000000000) (hbase : base ≤ w.heap.size)
    (hk : ∀ A' c' w', w'.ownsRow base e 2 (.slice A' (n + 1) c') (n + 1) (cs ++ [.int .i64 k, v]) → Below base w w' → w.grownBy w' (Value.slice A n c).ownBlock → wpList Tryd.prog ops Q rest (a.put o.dst (.slice A' (n + 1) c')) w') : wpList Tryd.prog ops Q (o :: rest) a w := by
  obtain ⟨i0, hi, hz0, hz1, hz2⟩ := info_parts hif
  refine wpList_append_own_at _ hgd s x t ho base e i0 (.agg #[.int .i64 0, .slice none 0 0]) 2 32 hu hi hz0 hz1 hz2 rfl (by decide) _ n cs hs h1 ⟨b, 0, none⟩ 1 1 [.int .i64 k, v] hx rfl (cells_in2 hc) (ones2 hv) (by unfold maxLen; omega) (by omega) hbase ?_
  intro v' w' g1 g2 _ _
  have hb : Below base w w' := (Below.refl base w).grown g2 hbase (fun k hk => (World.ownsRow.lt h1 k hk).1)
  obtain ⟨A', c', rfl⟩ := row_form g1
  exact hk A' c' w' g1 hb g2
theorem step_app2 {ops : Array Oper} {o : Oper} {a : Act} {w : World} {K : Act → World → Prop} {Q : Exit → Act → World → Prop} {E : Prop} (hgd : o.guard = none) (s x : Operand) (t e : Nat) (hu : Tryd.prog.underlying t = some (.slice e))
    (hif : (Tryd.prog.info? e).map (fun i => (i.zero, i.size, i.bytes)) = some (some (.agg #[.int .i64 0, .slice none 0 0]), 2, 32))
    (ho : o.op = .call { callee := .builtin .append, args := #[s, x], argTypes := #[t, t] })
    (base : Nat) (A : Option Addr) (n c : Nat) (cs : List Value) (hs : a.eval s = .slice A n c) (h1 : w.ownsRow base e 2 (.slice A n c) n cs)
    (b : Nat) (k : Int) (v : Value) (hv : v.oneCell' = true) (hx : a.eval x = .slice (some ⟨b, 0, none⟩) 1 1) (hc : w.heap[b]? = some (.cells #[.int .i64 k, v] e (0, 0))) (hlen : n ≤ 1000000000) (hbase : base ≤ w.heap.size)
    (hk : ∀ A' c' w', w'.ownsRow base e 2 (.slice A' (n + 1) c') (n + 1) (cs ++ [.int .i64 k, v]) → Below base w w' → w.grownBy w' (Value.slice A n c).ownBlock → K (a.put o.dst (.slice A' (n + 1) c')) w') :
    if Region.wanted o (yielded ops a.tmps) = true then Oper.wp Tryd.prog o a w K Q else E := by
  have hw : Region.wanted o (yielded ops a.tmps) = true := by simp [Region.wanted, hgd]
  rw [if_pos hw]
  obtain ⟨i0, hi, hz0, hz1, hz2⟩ := info_parts hif
  obtain ⟨v', w', hr, g1, g2, _, _⟩ := run_append_own_at (P := Tryd.prog) w base t o.type e i0 (.agg #[.int .i64 0, .slice none 0 0]) 2 32 hu hi hz0 hz1 hz2 rfl (by decide) _ n cs h1 ⟨b, 0, none⟩ 1 1 [.int .i64 k, v] rfl (cells_in2 hc) (ones2 hv) (by unfold maxLen; omega) (by omega) hbase
  have hb : Below base w w' := (Below.refl base w).grown g2 hbase (fun k hk => (World.ownsRow.lt h1 k hk).1)
  obtain ⟨A', c', rfl⟩ := row_form g1
  unfold Oper.wp execOp
  simp only [ho, resolve, invoke, builtin, Sem.run_bind, Sem.run_pure, Result.andThen_ok, List.map_toArray, List.map_cons, List.map_nil, hs, hx, hr]
  exact hk A' c' w' g1 hb g2
theorem csat_nil (w : World) : CsAt w [] [] := ⟨rfl, fun _ hu => absurd hu List.not_mem_nil, fun _ hj => absurd hj (Nat.not_lt_zero _)⟩
theorem csat_one {w : World} {k : Int} {v : Value} {f : Fr} (hk : f.kind = k) (hv : v.oneCell' = true) (h : BytesIn w v f.data) : CsAt w [.int .i64 k, v] [f] := by
  refine ⟨rfl, ones2 hv, fun j hj => ?_⟩
  obtain rfl : j = 0 := by simpa using hj
  exact ⟨by rw [← hk]; rfl, v, rfl, h⟩
theorem csat_snoc {w : World} {cs : List Value} {l : List Fr} {k : Int} {v : Value} {f : Fr} (h : CsAt w cs l) (hk : f.kind = k) (hv : v.oneCell' = true) (hb : BytesIn w v f.data) : CsAt w (cs ++ [.int .i64 k, v]) (l ++ [f]) := h.append (csat_one hk hv hb)
/-- Frames of a row whose cells are told. -/
theorem csat_frames {w : World} {base e n c : Nat} {A : Option Addr} {cs : List Value} {l : List Fr} (hn : l.length = n) (h1 : w.ownsRow base e 2 (.slice A n c) n cs) (h : CsAt w cs l) : FramesAt w A l := fun j hj => by
  obtain ⟨e1, v, e2, hb⟩ := h.2.2 j hj
  rcases h1.2 with ⟨_, h5⟩ | ⟨g, cap, cur, e, r⟩
  · omega
  · simp only [Value.slice.injEq] at e
    obtain ⟨rfl, -, rfl⟩ := e
    refine ⟨g, 0, rfl, ?_, v, ?_, hb⟩
    · rw [Nat.zero_add, World.ownsRow.cellAt h1 (j * 2) (by omega)]; exact e1
    · rw [Nat.zero_add, World.ownsRow.cellAt h1 (j * 2 + 1) (by omega)]; exact e2
end Go.Proofs.YtpebnlddmjfomaaDoor
