/- The law SharesTurn, walked. -/
import Derived.Test.YtdabdkedgigjdaaGreatSl
import Derived.Test.YtdabdkedgigjdaaGreatSm
import Derived.Test.YtdabdkedgigjdaaGreatO
namespace Go.Proofs.YtdabdkedgigjdaaGreat
open Go.RowKit

set_option maxRecDepth 100000 in
theorem run_appT (w : World) (ty base m : Nat) (v : Value) (xs ys : List Str) (vx : Value) (hown : OwnT w base v xs) (hy : StrsN m w vx ys) (hlen : xs.length ≤ 100) (hbase : base ≤ w.heap.size) :
    ∃ A n c w', (Builtin.append_ #[27, 27] ty #[v, vx]).run Tryz.prog w = .ok (.slice A n c) w' ∧ OwnT w' base (.slice A n c) (xs ++ ys) ∧ Below base w w' := by
  obtain ⟨i0, hi, hz0, hz1, hz2⟩ := info_parts info9
  have form : ∀ v' w', w'.ownsRow base 9 1 v' (xs.length + ys.length) (xs.map Value.string ++ ys.map Value.string) → ∃ A n c, v' = .slice A n c ∧ OwnT w' base (.slice A n c) (xs ++ ys) := fun v' w' h2 => by
    have h2' : OwnT w' base v' (xs ++ ys) := by unfold OwnT; rw [List.map_append, List.length_append]; exact h2
    rcases h2.2 with ⟨rfl, _⟩ | ⟨g', cap', cur, rfl, _⟩
    · exact ⟨_, _, _, rfl, h2'⟩
    · exact ⟨_, _, _, rfl, h2'⟩
  have some_ : ∀ (ad : Addr) (len c : Nat), vx = .slice (some ad) len c → ys.length = len → (∀ j u, (ys.map Value.string)[j]? = some u → w.cell? (ad.add j) = some u) → len ≤ 8796093021952 →
      ∃ A n c w', (Builtin.append_ #[27, 27] ty #[v, vx]).run Tryz.prog w = .ok (.slice A n c) w' ∧ OwnT w' base (.slice A n c) (xs ++ ys) ∧ Below base w w' := by
    rintro ad len c rfl rfl hn hm
    obtain ⟨v', w', hr, h2, h3, _, _⟩ := run_append_own_at (P := Tryz.prog) w base 27 ty 9 i0 (.string ⟨#[]⟩) 1 16 Tryz.underlying27 hi hz0 hz1 hz2 rfl (by decide) v xs.length (xs.map Value.string) hown ad ys.length c (ys.map Value.string) (by simp) hn
      (fun u hu => by obtain ⟨y, _, rfl⟩ := List.mem_map.1 hu; rfl) (by unfold maxLen; omega) (by omega) hbase
    obtain ⟨A, n, c', rfl, hO⟩ := form v' w' h2
    exact ⟨A, n, c', w', hr, hO, (Below.refl base w).grown h3 hbase (fun k hk => (World.ownsRow.lt hown k hk).1)⟩
  rcases hy with ⟨rfl, A, c, rfl, hA⟩ | ⟨b, off, c, rfl, _, hm, hc⟩
  · cases A with
    | some ad => exact some_ ad 0 c rfl rfl (fun j u hu => by simp at hu) (by omega)
    | none =>
      obtain rfl := hA rfl
      have hrun := run_append_owned_none (P := Tryz.prog) (w := w) base 27 ty 9 i0 1 Tryz.underlying27 hi v xs.length (xs.map Value.string) hown
      obtain ⟨A, n, c', rfl, hO⟩ := form v w (by have h2 : w.ownsRow base 9 1 v xs.length (xs.map Value.string) := hown; simpa using h2)
      exact ⟨A, n, c', w, hrun, hO, Below.refl _ _⟩
  · refine some_ _ _ c rfl rfl (fun j u hu => ?_) hm
    have hj : j < ys.length := by
      by_cases hl : j < ys.length
      · exact hl
      · rw [List.getElem?_eq_none (by simp; omega)] at hu; cases hu
    rw [add_off, hc j hj, ← hu]
    simp [hj, at0]
/-- A list of texts appended, at a step of a region that draws. -/
theorem step_appTs {ops : Array Oper} {o : Oper} {a : Act} {w : World} {K : Act → World → Prop} {Q : Exit → Act → World → Prop} {E : Prop} (hgd : o.guard = none) (s x : Operand)
    (ho : o.op = .call { callee := .builtin .append, args := #[s, x], argTypes := #[27, 27] })
    (base : Nat) (v : Value) (xs ys : List Str) (vx : Value) (m : Nat) (hs : a.eval s = v) (hx : a.eval x = vx) (hown : OwnT w base v xs) (hy : StrsN m w vx ys) (hlen : xs.length ≤ 100) (hbase : base ≤ w.heap.size)
    (hk : ∀ A n c w', OwnT w' base (.slice A n c) (xs ++ ys) → Below base w w' → K (a.put o.dst (.slice A n c)) w') :
    if Region.wanted o (yielded ops a.tmps) = true then Oper.wp Tryz.prog o a w K Q else E := by
  have hw : Region.wanted o (yielded ops a.tmps) = true := by simp [Region.wanted, hgd]
  rw [if_pos hw]
  obtain ⟨A, n, c, w', hr, h2, h3⟩ := run_appT w o.type base m v xs ys vx hown hy hlen hbase
  unfold Oper.wp execOp
  simp only [ho, resolve, invoke, builtin, Sem.run_bind, Sem.run_pure, Result.andThen_ok, List.map_toArray, List.map_cons, List.map_nil, hs, hx, hr]
  exact hk A n c w' h2 h3
theorem two_own (w : World) (a b : Str) : OwnT (w.alloc (.cells #[.string a, .string b] 9)) w.heap.size (.slice (some ⟨w.heap.size, 0, none⟩) 2 2) [a, b] :=
  World.ownsRow_lit w #[.string a, .string b] 2 (Nat.le_refl _) (by decide) rfl
end Go.Proofs.YtdabdkedgigjdaaGreat
