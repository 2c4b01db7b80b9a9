/- Texts appended at a step of a region that draws its order. -/
import Derived.Test.YthbbbjkgfdnkhaaDoorBo
import Derived.Deep.AppendLies
import Derived.Deep.RegionHeld3
namespace Go.Proofs.YthbbbjkgfdnkhaaDoor
open Go.RowKit
theorem TxAt.grown {w w' : World} {B : Nat} {A : Option Addr} {n c : Nat} {zs : List Tx} (h : OwnT w B A n c zs) {row : Option Nat} (hg : w.grownBy w' row) (hr : ∀ k, row = some k → k < B) : TxAt w' A zs := fun j hj => by
  obtain ⟨b, off, e, h0⟩ := h.at j hj
  obtain ⟨h1, rfl⟩ := h
  rcases h1.2 with ⟨_, h5⟩ | ⟨g, cap, cur, e2, hb, hgb, _⟩
  · omega
  · simp only [Value.slice.injEq] at e2
    rw [e2.1] at e
    simp only [Option.some.injEq, Addr.mk.injEq, and_true] at e
    obtain ⟨rfl, rfl⟩ := e
    refine ⟨g, 0, e2.1, ?_⟩
    rw [hg.cell_far _ (show g < w.heap.size from (Array.getElem?_eq_some_iff.1 hgb).1) (fun e => by have := hr g e.symm; omega)]
    exact h0
theorem OwnT.below {w : World} {B : Nat} {A : Option Addr} {n c : Nat} {zs : List Tx} (h : OwnT w B A n c zs) : ∀ k, Value.ownBlock (.slice A n c) = some k → k < w.heap.size := fun k hk => by
  obtain ⟨h1, rfl⟩ := h
  exact (World.ownsRow.lt h1 k hk).2
theorem step_appT {ops : Array Oper} {o : Oper} {a : Act} {w : World} {K : Act → World → Prop} {Q : Exit → Act → World → Prop} {E : Prop} (hgd : o.guard = none) (s x : Operand)
    (ho : o.op = .call { callee := .builtin .append, args := #[s, x], argTypes := #[39, 39] })
    (base : Nat) (A : Option Addr) (n c : Nat) (zs : List Tx) (h : Nat) (z : Str) (hs : a.eval s = .slice A n c) (hx : a.eval x = .slice (some ⟨h, 0, none⟩) 1 1) (hown : OwnT w base A n c zs)
    (hc0 : w.cell? ⟨h, 0, none⟩ = some (.string z)) (hlen : zs.length ≤ 1000000) (hbase : base ≤ w.heap.size)
    (hk : ∀ A' c' w', OwnT w' base A' (n + 1) c' (zs ++ [z.data.toList]) → Below base w w' → w.grownBy w' (Value.ownBlock (.slice A n c)) → K (a.put o.dst (.slice A' (n + 1) c')) w') :
    if Region.wanted o (yielded ops a.tmps) = true then Oper.wp Tryd.prog o a w K Q else E := by
  obtain ⟨i0, hi, hz0, hz1, hz2⟩ := info_parts info9
  obtain ⟨hown, rfl⟩ := hown
  refine step_append_lies w hgd s x 39 ho base 9 i0 (.string ⟨#[]⟩) 1 16 Tryd.underlying39 hi hz0 hz1 hz2 rfl (by decide) _ zs.length (zs.map encStr) hs hown ⟨h, 0, none⟩ 1 1 [.string z] hx rfl ?_ ?_ (by decide) (by unfold maxLen; omega) (by omega) hbase _ rfl ?_
  · intro j u hu
    match j, hu with
    | 0, hu =>
      obtain rfl : u = .string z := by simpa using hu.symm
      exact hc0
  · intro u hu
    obtain rfl : u = .string z := by simpa using hu
    rfl
  · intro g cap w1 hown1 hgrow _ _
    have hb : Below base w w1 := (Below.refl base w).grown hgrow hbase (fun k hk => (World.ownsRow.lt hown k hk).1)
    refine hk _ _ w1 ⟨?_, by simp⟩ hb hgrow
    rw [List.map_append, List.length_append, List.map_singleton, enc_str]; exact hown1
theorem step_appTN {ops : Array Oper} {o : Oper} {a : Act} {w : World} {K : Act → World → Prop} {Q : Exit → Act → World → Prop} {E : Prop} (hgd : o.guard = none) (s x : Operand)
    (ho : o.op = .call { callee := .builtin .append, args := #[s, x], argTypes := #[39, 39] })
    (base : Nat) (A : Option Addr) (n c : Nat) (xs : List Tx) (hs : a.eval s = .slice A n c) (hown : OwnT w base A n c xs)
    (A2 : Option Addr) (m c2 : Nat) (ys : List Tx) (hx : a.eval x = .slice A2 m c2) (hm : ys.length = m) (hnil : A2 = none → c2 = 0) (hnews : TxAt w A2 ys) (hlen : xs.length + m ≤ 100000) (hbase : base ≤ w.heap.size)
    (hk : ∀ A' c' w', OwnT w' base A' (n + m) c' (xs ++ ys) → Below base w w' → K (a.put o.dst (.slice A' (n + m) c')) w') :
    if Region.wanted o (yielded ops a.tmps) = true then Oper.wp Tryd.prog o a w K Q else E := by
  have hw : Region.wanted o (yielded ops a.tmps) = true := by simp [Region.wanted, hgd]
  rw [if_pos hw]
  obtain ⟨i0, hi, hz0, hz1, hz2⟩ := info_parts info9
  obtain ⟨hown, rfl⟩ := hown
  have late : ∀ v' w', w'.ownsRow base 9 1 v' (xs.length + m) (xs.map encStr ++ ys.map encStr) → w.grownBy w' (Value.ownBlock (.slice A xs.length c)) → K (a.put o.dst v') w' := by
    intro v' w' h2 h3
    have hb : Below base w w' := (Below.refl base w).grown h3 hbase (fun k hk => (World.ownsRow.lt hown k hk).1)
    rw [← hm, ← List.map_append, ← List.length_append] at h2
    obtain ⟨A', c', rfl⟩ : ∃ A' c', v' = .slice A' (xs.length + m) c' := by
      rcases h2.2 with ⟨rfl, h5⟩ | ⟨g', cap', cur, rfl, _⟩
      · exact ⟨none, 0, by rw [List.length_append] at h5; rw [← hm, h5]⟩
      · exact ⟨_, _, by rw [List.length_append, hm]⟩
    exact hk A' c' w' ⟨h2, by rw [List.length_append, hm]⟩ hb
  unfold Oper.wp execOp
  cases A2 with
  | none =>
    obtain rfl : ys = [] := by
      cases ys with
      | nil => rfl
      | cons y ys => obtain ⟨_, _, e, _⟩ := hnews 0 (by simp); cases e
    obtain rfl : m = 0 := hm.symm
    obtain rfl := hnil rfl
    have hr := run_append_owned_none (P := Tryd.prog) (w := w) base 39 o.type 9 i0 1 Tryd.underlying39 hi _ xs.length (xs.map encStr) hown
    simp only [ho, resolve, invoke, builtin, Sem.run_bind, Sem.run_pure, Result.andThen_ok, List.map_toArray, List.map_cons, List.map_nil, hs, hx, hr]
    exact late _ w (by simpa using hown) ⟨rfl, rfl, rfl, Nat.le_refl _, fun _ _ _ => rfl⟩
  | some ad =>
    have hin : ∀ j u, (ys.map encStr)[j]? = some u → w.cell? (ad.add j) = some u := by
      intro j u hu
      have hj := (List.getElem?_eq_some_iff.1 hu).1
      rw [List.length_map] at hj
      obtain ⟨b, off, e, h0⟩ := hnews j hj
      simp only [Option.some.injEq] at e
      subst e
      have e2 : (⟨b, off, none⟩ : Addr).add j = ⟨b, off + j, none⟩ := by unfold Addr.add; split <;> simp_all
      rw [e2, h0, ← hu]
      simp [hj, List.getD]
    have h1 : ∀ u ∈ ys.map encStr, u.oneCell' = true := fun u hu => by
      obtain ⟨t, _, rfl⟩ := List.mem_map.1 hu
      rfl
    obtain ⟨v', w', hr, h2, h3, _, _⟩ := run_append_own_at (P := Tryd.prog) w base 39 o.type 9 i0 (.string ⟨#[]⟩) 1 16 Tryd.underlying39 hi hz0 hz1 hz2 rfl (by decide) _ xs.length (xs.map encStr) hown ad m c2 (ys.map encStr) (by rw [List.length_map, hm, Nat.mul_one]) hin h1 (by unfold maxLen; omega) (by omega) hbase
    simp only [ho, resolve, invoke, builtin, Sem.run_bind, Sem.run_pure, Result.andThen_ok, List.map_toArray, List.map_cons, List.map_nil, hs, hx, hr]
    exact late v' w' h2 h3
theorem OwnT.nilcap {w : World} {B : Nat} {A : Option Addr} {n c : Nat} {zs : List Tx} (h : OwnT w B A n c zs) (e : A = none) : c = 0 := by
  obtain ⟨h1, _⟩ := h
  rcases h1.2 with ⟨e2, _⟩ | ⟨g, cap, cur, e2, _⟩
  · simp only [Value.slice.injEq] at e2; exact e2.2.2
  · simp only [Value.slice.injEq] at e2; rw [e2.1] at e; cases e
end Go.Proofs.YthbbbjkgfdnkhaaDoor
