/- Texts of any address appended. -/
import Derived.Test.YthbbbjkgfdnkhaaDoorBn
namespace Go.Proofs.YthbbbjkgfdnkhaaDoor
open Go.RowKit
theorem wpList_appTN {ops : Array Oper} {rest : List Oper} {o : Oper} {a : Act} {w : World} {Q : Exit → Act → World → Prop} (hgd : o.guard = none) (s x : Operand)
    (ho : o.op = .call { callee := .builtin .append, args := #[s, x], argTypes := #[39, 39] })
    (base : Nat) (A : Option Addr) (n c : Nat) (xs : List Tx) (hs : a.eval s = .slice A n c) (hown : OwnT w base A n c xs)
    (A2 : Option Addr) (m c2 : Nat) (ys : List Tx) (hx : a.eval x = .slice A2 m c2) (hm : ys.length = m) (hnil : A2 = none → c2 = 0) (hnews : TxAt w A2 ys) (hlen : xs.length + m ≤ 100000) (hbase : base ≤ w.heap.size)
    (hk : ∀ A' c' w', OwnT w' base A' (n + m) c' (xs ++ ys) → Below base w w' → wpList Tryd.prog ops Q rest (a.put o.dst (.slice A' (n + m) c')) w') : wpList Tryd.prog ops Q (o :: rest) a w := by
  obtain ⟨i0, hi, hz0, hz1, hz2⟩ := info_parts info9
  obtain ⟨hown, rfl⟩ := hown
  have late : ∀ v' w', w'.ownsRow base 9 1 v' (xs.length + m) (xs.map encStr ++ ys.map encStr) → w.grownBy w' (Value.ownBlock (.slice A xs.length c)) → wpList Tryd.prog ops Q rest (a.put o.dst v') w' := by
    intro v' w' h2 h3
    have hb : Below base w w' := (Below.refl base w).grown h3 hbase (fun k hk => (World.ownsRow.lt hown k hk).1)
    rw [← hm, ← List.map_append, ← List.length_append] at h2
    obtain ⟨A', c', rfl⟩ : ∃ A' c', v' = .slice A' (xs.length + m) c' := by
      rcases h2.2 with ⟨rfl, h5⟩ | ⟨g', cap', cur, rfl, _⟩
      · exact ⟨none, 0, by rw [List.length_append] at h5; rw [← hm, h5]⟩
      · exact ⟨_, _, by rw [List.length_append, hm]⟩
    exact hk A' c' w' ⟨h2, by rw [List.length_append, hm]⟩ hb
  cases A2 with
  | none =>
    obtain rfl : ys = [] := by
      cases ys with
      | nil => rfl
      | cons y ys => obtain ⟨_, _, e, _⟩ := hnews 0 (by simp); cases e
    obtain rfl : m = 0 := hm.symm
    obtain rfl := hnil rfl
    refine wpList_append_own_none hgd s x 39 ho base 9 i0 1 Tryd.underlying39 hi _ xs.length (xs.map encStr) hs hown hx ?_
    exact late _ w (by simpa using hown) ⟨rfl, rfl, rfl, Nat.le_refl _, fun _ _ _ => rfl⟩
  | some ad =>
    have hin : ∀ j u, (ys.map encStr)[j]? = some u → w.cell? (ad.add j) = some u := by
      intro j u hu
      have hj := (List.getElem?_eq_some_iff.1 hu).1
      rw [List.length_map] at hj
      obtain ⟨b, off, e, h0⟩ := hnews j hj
      simp only [Option.some.injEq] at e
      subst e
      have e2 : (⟨b, off, none⟩ : Addr).add j = ⟨b, off + j, none⟩ := by unfold Addr.add; split <;> simp_all
      rw [e2, h0, ← hu]
      simp [hj, List.getD]
    have h1 : ∀ u ∈ ys.map encStr, u.oneCell' = true := fun u hu => by
      obtain ⟨t, _, rfl⟩ := List.mem_map.1 hu
      rfl
    refine wpList_append_own_at _ hgd s x 39 ho base 9 i0 (.string ⟨#[]⟩) 1 16 Tryd.underlying39 hi hz0 hz1 hz2 rfl (by decide) _ xs.length (xs.map encStr) hs hown ad m c2 (ys.map encStr) hx (by rw [List.length_map, hm, Nat.mul_one]) hin h1 (by unfold maxLen; omega) (by omega) hbase ?_
    intro v' w' h2 h3 _ _
    exact late v' w' h2 h3
end Go.Proofs.YthbbbjkgfdnkhaaDoor
