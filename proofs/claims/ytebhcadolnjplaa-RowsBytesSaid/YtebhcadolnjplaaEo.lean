/- A list of texts appended to a row of the call's own; a list of texts that came in, opened. -/
import Derived.Test.YtebhcadolnjplaaXk
import Derived.Test.YtebhcadolnjplaaEn
import Derived.Test.YtebhcadolnjplaaSs
import Derived.SliceStrings
import Derived.Laws.AppendOwnNone
namespace Go.Proofs.Ytebhcadolnjplaa
open Go.ChangeShapes Go.WideShapes Go.ChangeAt Go.RowKit

/-- The value holds these texts, in a block below n, and they are not too many. -/
def StrsN (n : Nat) (W : World) (sv : Value) (zs : List Str) : Prop :=
  (zs = [] ∧ ∃ A c, sv = .slice A 0 c ∧ (A = none → c = 0)) ∨ ∃ b off cap, sv = .slice (some ⟨b, off, none⟩) zs.length cap ∧ b < n ∧ zs.length ≤ 8796093021952 ∧ ∀ j, j < zs.length → W.cell? ⟨b, off + j, none⟩ = some (.string (at0 zs j))
theorem StrsN.strs {n : Nat} {W : World} {sv : Value} {zs : List Str} : StrsN n W sv zs → Strs n W sv zs
  | .inl ⟨e, A, c, h, _⟩ => .inl ⟨e, A, c, h⟩
  | .inr ⟨b, off, cap, e, hb, _, hc⟩ => .inr ⟨b, off, cap, e, hb, hc⟩
theorem StrsN.below {n : Nat} {A B : World} (h : Below n A B) {sv : Value} {zs : List Str} : StrsN n A sv zs → StrsN n B sv zs
  | .inl e => .inl e
  | .inr ⟨b, off, cap, e, hb, hl, hc⟩ => .inr ⟨b, off, cap, e, hb, hl, fun j hj => (h.cell (p := ⟨b, off + j, none⟩) hb).trans (hc j hj)⟩
theorem StrsN.form {n : Nat} {W : World} {sv : Value} {zs : List Str} (h : StrsN n W sv zs) : ∃ A c, sv = .slice A zs.length c := by
  rcases h with ⟨rfl, A, c, rfl, _⟩ | ⟨b, off, cap, rfl, _⟩
  · exact ⟨_, _, rfl⟩
  · exact ⟨_, _, rfl⟩

def OwnT (w : World) (base : Nat) (v : Value) (xs : List Str) : Prop := w.ownsRow base 9 1 v xs.length (xs.map Value.string)
theorem OwnT.strs {w : World} {base : Nat} {v : Value} {xs : List Str} (h : OwnT w base v xs) : Strs w.heap.size w v xs := by
  have h0 := h
  rcases h.2 with ⟨rfl, h5⟩ | ⟨g, cap, cur, rfl, _, hg, _⟩
  · exact .inl ⟨List.length_eq_zero_iff.1 h5, _, _, rfl⟩
  · refine .inr ⟨g, 0, cap, rfl, (Array.getElem?_eq_some_iff.1 hg).1, fun j hj => ?_⟩
    rw [Nat.zero_add, World.ownsRow.cellAt h0 j (by omega)]
    simp [at0, hj]

theorem wpList_appT {ops : Array Oper} {rest : List Oper} {o : Oper} {a : Act} {w : World} {Q : Exit → Act → World → Prop} (hgd : o.guard = none) (s x : Operand)
    (ho : o.op = .call { callee := .builtin .append, args := #[s, x], argTypes := #[89, 89] })
    (base : Nat) (v : Value) (xs ys : List Str) (vx : Value) (m : Nat) (hs : a.eval s = v) (hx : a.eval x = vx) (hown : OwnT w base v xs) (hy : StrsN m w vx ys)
    (hlen : xs.length ≤ 100) (hbase : base ≤ w.heap.size)
    (h : ∀ A n c w', OwnT w' base (.slice A n c) (xs ++ ys) → Below base w w' → wpList Try.prog ops Q rest (a.put o.dst (.slice A n c)) w') : wpList Try.prog ops Q (o :: rest) a w := by
  obtain ⟨i0, hi, hz0, hz1, hz2⟩ := info_parts info9
  have hlate : ∀ v' w', w'.ownsRow base 9 1 v' (xs.length + ys.length) (xs.map Value.string ++ ys.map Value.string) → w.grownBy w' v.ownBlock → wpList Try.prog ops Q rest (a.put o.dst v') w' := by
    intro v' w' h2 h3
    have hb : Below base w w' := (Below.refl base w).grown h3 hbase (fun k hk => (World.ownsRow.lt hown k hk).1)
    have h2' : OwnT w' base v' (xs ++ ys) := by unfold OwnT; rw [List.map_append, List.length_append]; exact h2
    obtain ⟨A, n, c, rfl⟩ : ∃ A n c, v' = .slice A n c := by
      rcases h2.2 with ⟨rfl, _⟩ | ⟨g', cap', cur, rfl, _⟩
      · exact ⟨_, _, _, rfl⟩
      · exact ⟨_, _, _, rfl⟩
    exact h A n c w' h2' hb
  rcases hy with ⟨rfl, A, c, rfl, hA⟩ | ⟨b, off, c, rfl, _, hm, hc⟩
  · cases A with
    | some ad =>
      refine wpList_append_own _ hgd s x 89 ho base 9 i0 (.string ⟨#[]⟩) 1 16 Try.underlying89 hi hz0 hz1 hz2 rfl (by decide) _ xs.length (xs.map Value.string) hs hown ad 0 c [] hx rfl (fun j u hu => by simp at hu) (fun u hu => by simp at hu) (by unfold maxLen; omega) (by omega) hbase ?_
      intro v' w' h2 h3 _
      exact hlate v' w' h2 h3
    | none =>
      obtain rfl := hA rfl
      refine wpList_append_own_none hgd s x 89 ho base 9 i0 1 Try.underlying89 hi _ xs.length (xs.map Value.string) hs hown hx ?_
      exact hlate v w (by have := hown; unfold OwnT at this; simpa using this) ⟨rfl, rfl, rfl, Nat.le_refl _, fun _ _ _ => rfl⟩
  · refine wpList_append_own _ hgd s x 89 ho base 9 i0 (.string ⟨#[]⟩) 1 16 Try.underlying89 hi hz0 hz1 hz2 rfl (by decide) _ xs.length (xs.map Value.string) hs hown ⟨b, off, none⟩ ys.length c (ys.map Value.string) hx (by simp) ?_ ?_ (by unfold maxLen; omega) (by omega) hbase ?_
    · intro j u hu
      have hj : j < ys.length := by
        by_cases hl : j < ys.length
        · exact hl
        · rw [List.getElem?_eq_none (by simp; omega)] at hu; cases hu
      have e : (⟨b, off, none⟩ : Addr).add j = ⟨b, off + j, none⟩ := by unfold Addr.add; split <;> simp_all
      rw [e, hc j hj, ← hu]
      simp [hj, at0]
    · intro u hu
      obtain ⟨y, _, rfl⟩ := List.mem_map.1 hu
      rfl
    · intro v' w' h2 h3 _
      exact hlate v' w' h2 h3

theorem bytes9 : Try.prog.bytesOf 9 = 16 := by kernel_rfl
set_option maxRecDepth 100000 in
theorem texts_open {H : Type} {enc : TypeId × Value → H} {W : World} {ts : List TypeId} {ds : List (DataW H)} {v : Value} {d : DataW H} {p : List MemPlace} {base : Nat}
    (h : DataW.Trod enc Try.prog W 0 (fun _ => true) true 89 v d p) (hv : Value.okWide Try.prog W .any base 89 v)
    (hsz : (DataW.weightsEach Try.prog ts ds).all (· ≤ reachBytes) = true) (j : Nat) (ht : ts[j]? = some 89) (hd : ds[j]? = some d) : ∃ zs, StrsN W.heap.size W v zs := by
  obtain ⟨a0, len0, cap0, rfl⟩ := okWide_slice Try.underlying89 hv
  obtain ⟨fuel, hf⟩ := h
  rcases open_strings (x := (d, p)) Try.underlying89 Try.underlying9 cells9 (by simpa [Value.cells] using hf) with ⟨hcs, hx⟩ | ⟨a, len, cap, ss, hcs, _, hl, hm, hz, hx, hcell, _⟩
  · simp at hcs
    obtain ⟨rfl, rfl, rfl⟩ := hcs
    exact ⟨[], .inl ⟨rfl, _, _, rfl, fun _ => rfl⟩⟩
  · simp at hcs
    obtain ⟨rfl, rfl, rfl⟩ := hcs
    simp only [if_true] at hz
    have hreach : len0 ≤ 8796093021952 := by
      have hx1 : d = _ := congrArg Prod.fst hx
      have := sized_slice hsz ht (hd.trans (by rw [hx1])) Try.underlying89
      rw [bytes9] at this
      simp only [strs, List.length_map, List.length_take, List.length_drop, reachBytes] at this
      omega
    have hlen : (ss.take len0).length = len0 := by simp; omega
    by_cases h0 : len0 = 0
    · subst h0
      exact ⟨[], .inl ⟨rfl, _, _, rfl, fun e => by cases e⟩⟩
    · obtain ⟨b, off, spot⟩ := a
      have hspot : spot = none := by simpa [Addr.add] using World.cell?_spot (hcell 0 (by omega))
      subst hspot
      have e : ∀ i, (⟨b, off, none⟩ : Addr).add i = ⟨b, off + i, none⟩ := fun i => by unfold Addr.add; split <;> simp_all
      refine ⟨ss.take len0, .inr ⟨b, off, cap0, by rw [hlen], ?_, by rw [hlen]; exact hreach, fun i hi => ?_⟩⟩
      · have := World.block_lt_of_cell? _ _ (hcell 0 (by omega))
        rw [e] at this
        exact this
      · rw [hlen] at hi
        have hc := hcell i (by omega)
        rw [e] at hc
        rw [hc]
        have hi2 : i < ss.length := by omega
        simp [at0, List.getD, hi, hi2]
theorem cnt_take (ps : List Sp) (k : Str) (q : Nat) (h : q < ps.length) : cnt (ps.take (q + 1)) k = cnt (ps.take q) k + (if hasB (at1 ps q) k = true then 1 else 0) := by
  rw [List.take_succ_eq_append_getElem h, cnt, List.countP_append, List.countP_singleton]
  simp [cnt, at1, h]
theorem cnt_all (ps : List Sp) (k : Str) (q : Nat) (h : ps.length ≤ q) : cnt (ps.take q) k = cnt ps k := by rw [List.take_of_length_le h]
theorem at1_mem (ps : List Sp) (q : Nat) (h : q < ps.length) : at1 ps q ∈ ps := by
  simp [at1, h]
end Go.Proofs.Ytebhcadolnjplaa
