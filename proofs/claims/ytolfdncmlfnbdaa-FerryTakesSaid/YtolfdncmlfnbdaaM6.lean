/- The document's ferry takes a piece of its own crossing, or a beginning. -/
import Derived.Test.YtolfdncmlfnbdaaM5
namespace Go.Proofs.Ytolfdncmlfnbdaa
open Go.RowKit
theorem laid_len (xs ys : List B8) (a : Nat) : (laid xs ys a).length = if a ≤ xs.length ∧ xs.length - a < ys.length then a + ys.length else xs.length := by
  unfold laid
  split
  · rw [List.length_append, List.length_drop]; omega
  · rfl
theorem laid_le (xs ys : List B8) (a L : Nat) (h1 : xs.length ≤ L) (h2 : a + ys.length ≤ L) : (laid xs ys a).length ≤ L := by
  rw [laid_len]; split <;> omega
theorem laid_step (xs ys : List B8) (a k : Nat) (hk : k < ys.length) (ha : a ≤ (laid xs (ys.take k) a).length) :
    (a + k = (laid xs (ys.take k) a).length → laid xs (ys.take (k + 1)) a = laid xs (ys.take k) a ++ [ys.getD k 0#8]) ∧ (a + k ≠ (laid xs (ys.take k) a).length → laid xs (ys.take (k + 1)) a = laid xs (ys.take k) a) := by
  have e1 : (ys.take k).length = k := by rw [List.length_take]; omega
  have e2 : (ys.take (k + 1)).length = k + 1 := by rw [List.length_take]; omega
  rw [laid_len, e1] at ha
  have ha2 : a ≤ xs.length := by split at ha <;> omega
  have hl := laid_len xs (ys.take k) a
  rw [e1] at hl
  rw [hl]
  by_cases h : xs.length - a < k
  · have l0 : laid xs (ys.take k) a = xs ++ (ys.take k).drop (xs.length - a) := if_pos ⟨ha2, by omega⟩
    have l1 : laid xs (ys.take (k + 1)) a = xs ++ (ys.take (k + 1)).drop (xs.length - a) := if_pos ⟨ha2, by omega⟩
    rw [if_pos ⟨ha2, h⟩, l0, l1, take_one ys k hk]
    refine ⟨fun _ => ?_, fun q => absurd rfl q⟩
    rw [List.drop_append_of_le_length (by omega), List.append_assoc]
  · have l0 : laid xs (ys.take k) a = xs := if_neg (fun q => by omega)
    rw [if_neg (fun q => h q.2), l0]
    refine ⟨fun q => ?_, fun q => ?_⟩
    · have l1 : laid xs (ys.take (k + 1)) a = xs ++ (ys.take (k + 1)).drop (xs.length - a) := if_pos ⟨ha2, by omega⟩
      have e3 : (ys.take k).drop (xs.length - a) = [] := List.drop_eq_nil_of_le (by omega)
      rw [l1, take_one ys k hk, List.drop_append_of_le_length (by omega), e3, List.nil_append]
    · exact if_neg (fun z => by omega)
theorem laid_end (xs ys : List B8) (a k : Nat) (h : k = ys.length ∨ (laid xs (ys.take k) a).length < a) : laid xs (ys.take k) a = laid xs ys a := by
  rcases h with rfl | h
  · rw [List.take_length]
  · have h0 : xs.length < a := by rw [laid_len] at h; split at h <;> omega
    unfold laid
    rw [if_neg (fun q => by omega), if_neg (fun q => by omega)]
theorem step_appN1 {ops : Array Oper} {o : Oper} {a : Act} {w : World} {K : Act → World → Prop} {Q : Exit → Act → World → Prop} {E : Prop} (hgd : o.guard = none) (s x : Operand)
    (ho : o.op = .call { callee := .builtin .append, args := #[s, x], argTypes := #[26, 26] }) (base : Nat) (v : Value) (xs : List B8) (y : B8) (h c : Nat) (hs : a.eval s = v) (hx : a.eval x = .slice (some ⟨h, 0, none⟩) 1 c) (hown : OwnN w base v xs)
    (hc0 : w.cell? ⟨h, 0, none⟩ = some (.int .u8 (ub y))) (hlen : xs.length ≤ 1000000) (hbase : base ≤ w.heap.size)
    (hk : ∀ A N c' w', OwnN w' base (.slice A N c') (xs ++ [y]) → N = xs.length + 1 → w.grownBy w' v.ownBlock → ((Value.slice A N c').ownBlock = v.ownBlock ∨ (Value.slice A N c').ownBlock = some w.heap.size) → K (a.put o.dst (.slice A N c')) w') :
    if Region.wanted o (yielded ops a.tmps) = true then Oper.wp Try.prog o a w K Q else E := by
  have hw : Region.wanted o (yielded ops a.tmps) = true := by simp [Region.wanted, hgd]
  rw [if_pos hw]
  obtain ⟨i0, hi, hz0, hz1, hz2⟩ := info_parts info5
  obtain ⟨v', w', hr, h2, h3, _, h5⟩ := run_append_own_at (P := Try.prog) w base 26 o.type 5 i0 (.int .u8 0) 1 1 Try.underlying26 hi hz0 hz1 hz2 rfl (by decide) _ xs.length (xs.map bv) hown ⟨h, 0, none⟩ 1 c [bv y] rfl (by
      intro j u hu
      match j, hu with
      | 0, hu =>
        obtain rfl : u = bv y := by simpa using hu.symm
        exact hc0) (by intro u hu; obtain rfl : u = bv y := by simpa using hu
                       rfl) (by unfold maxLen; omega) (by omega) hbase
  have h2' : OwnN w' base v' (xs ++ [y]) := by unfold OwnN; rw [List.map_append, List.length_append]; exact h2
  obtain ⟨A, c', rfl⟩ := h2'.form
  rw [List.length_append] at h2' hr h5
  unfold Oper.wp execOp
  simp only [ho, resolve, invoke, builtin, Sem.run_bind, Sem.run_pure, Result.andThen_ok, List.map_toArray, List.map_cons, List.map_nil, hs, hx, hr]
  exact hk A _ c' w' h2' rfl h3 h5
theorem RAt.app {p : Nat} {tm i t sz : Int} {u : Bool} {A A' : Option Addr} {n c n' c' : Nat} {xs ys : List B8} {w w2 : World} (h : RAt p tm i t sz u A n c xs w) (ho : OwnN w2 (p + 1) (.slice A' n' c') ys) (hg : w.grownBy w2 (Value.slice A n c).ownBlock) :
    w2.cell? ⟨p, 5, none⟩ = some (.slice A n c) ∧ w2.frozen? ⟨p, 5, none⟩ = false ∧ RAt p tm i t sz u A' n' c' ys (w2.setCell ⟨p, 5, none⟩ (.slice A' n' c')) := by
  have hne : (Value.slice A n c).ownBlock ≠ some p := fun e => by have := h.ownGe p e; omega
  have kb : w2.heap[p]? = w.heap[p]? := hg.block p h.lt (fun e => hne e.symm)
  have kc : ∀ o v, w.cell? ⟨p, o, none⟩ = some v → w2.cell? ⟨p, o, none⟩ = some v := fun o v hc => by rw [World.cell?_of_block (w := w) kb]; exact hc
  have kf : ∀ o, w2.frozen? ⟨p, o, none⟩ = false := fun o => by rw [World.frozen?_of_block (w := w) kb]; exact h.f o
  have d0 := kc _ _ h.c0
  have d1 := kc _ _ h.c1
  have d2 := kc _ _ h.c2
  have d3 := kc _ _ h.c3
  have d4 := kc _ _ h.c4
  have d5 := kc _ _ h.c5
  refine ⟨d5, kf 5, ?_, ?_, ?_, ?_, ?_, ?_, ho.set p 5 _ (by omega), fun j => ?_⟩
  · go_cell
  · go_cell
  · go_cell
  · go_cell
  · go_cell
  · go_cell
  · rw [World.frozen?_setCell]; exact kf j
/-- A piece is taken: these bytes are there now; all of them, or not. -/
def RYes (p : Nat) (tm i t : Int) (L : Nat) (cf : Cfg) (A : Option Addr) (n c : Nat) (W : World) (zs : List B8) (e : Ending) (w' : World) : Prop :=
  (zs.length ≠ L ∧ e = .returned (.tuple #[.int .i64 (zs.length : Int), .bool false, .agg #[.int .i64 0, .int .i64 0, .slice none 0 0, .slice none 0 0, .slice none 0 0, .slice none 0 0, .slice none 0 0]]) ∧
    (∃ A' c', RAt p tm i t (L : Int) true A' zs.length c' zs w' ∧ ∀ j, j < W.heap.size → (Value.slice A' zs.length c').ownBlock = some j → (Value.slice A n c).ownBlock = some j) ∧ Fr p A n c W w') ∨
  (zs.length = L ∧ (∃ (s' : S4) (A' : Option Addr) (c' : Nat), e = .returned (.tuple #[.int .i64 (L : Int), .bool true, .agg #[.int .i64 i, .int .i64 t, .slice s'.A0 s'.n0 s'.c0, .slice s'.A1 s'.n1 s'.c1, .slice s'.A2 s'.n2 s'.c2, .slice s'.A3 s'.n3 s'.c3, .slice A' zs.length c']]) ∧ CfgN w' W.heap.size s' cf ∧ BytesIn w' (.slice A' zs.length c') zs) ∧ RAt p 0 0 0 0 false none 0 0 [] w' ∧ Fr p A n c W w')
/-- While bytes are laid one by one. -/
structure RL (p : Nat) (tm i t : Int) (L : Nat) (A1 : Option Addr) (n1 c1 : Nat) (w4 : World) (zs : List B8) (A2 : Option Addr) (n2 c2 : Nat) (w : World) : Prop where
  at_ : RAt p tm i t (L : Int) true A2 n2 c2 zs w
  fr : Fr p A1 n1 c1 w4 w
  own : ∀ j, j < w4.heap.size → (Value.slice A2 n2 c2).ownBlock = some j → (Value.slice A1 n1 c1).ownBlock = some j
theorem RL.ok {p : Nat} {tm i t : Int} {L : Nat} {A1 : Option Addr} {n1 c1 : Nat} {w4 : World} {zs : List B8} {A2 : Option Addr} {n2 c2 : Nat} {w w' : World} (h : RL p tm i t L A1 n1 c1 w4 zs A2 n2 c2 w) (k : Ok w w') : RL p tm i t L A1 n1 c1 w4 zs A2 n2 c2 w' := ⟨h.at_.ok k, h.fr.ok k, h.own⟩
theorem RL.app {p : Nat} {tm i t : Int} {L : Nat} {A1 : Option Addr} {n1 c1 : Nat} {w4 : World} {zs ys : List B8} {A2 A' : Option Addr} {n2 c2 n' c' : Nat} {w w2 : World} (h : RL p tm i t L A1 n1 c1 w4 zs A2 n2 c2 w) (ho : OwnN w2 (p + 1) (.slice A' n' c') ys) (hg : w.grownBy w2 (Value.slice A2 n2 c2).ownBlock)
    (hb : (Value.slice A' n' c').ownBlock = (Value.slice A2 n2 c2).ownBlock ∨ (Value.slice A' n' c').ownBlock = some w.heap.size) : RL p tm i t L A1 n1 c1 w4 ys A' n' c' (w2.setCell ⟨p, 5, none⟩ (.slice A' n' c')) :=
  ⟨(h.at_.app ho hg).2.2, (Fr.trans h.fr (Fr.grown hg) h.own).set 5 _, fun j hj e => by
    rcases hb with e1 | e1
    · exact h.own j hj (e1 ▸ e)
    · rw [e1] at e
      cases e
      have := h.fr.size
      omega⟩
end Go.Proofs.Ytolfdncmlfnbdaa
