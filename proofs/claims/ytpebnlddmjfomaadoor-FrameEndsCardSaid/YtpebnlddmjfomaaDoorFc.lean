/- Four bytes of a number, heads, whether a frame is right: walked. -/
import Derived.Test.YtpebnlddmjfomaaDoorFb
namespace Go.Proofs.YtpebnlddmjfomaaDoor
open Go.RowKit
theorem four_cells (n : Nat) (hn : n < 4294967296) : ((four n).map bv).toArray = #[.int .u8 ((n : Int) % 256), .int .u8 ((n : Int) / 256 % 256), .int .u8 ((n : Int) / 65536 % 256), .int .u8 ((n : Int) / 16777216)] := by
  have e0 : ub (BitVec.ofNat 8 n) = (n : Int) % 256 := by rw [ub, BitVec.toNat_ofNat]; omega
  have e1 : ub (BitVec.ofNat 8 (n / 256)) = (n : Int) / 256 % 256 := by rw [ub, BitVec.toNat_ofNat]; omega
  have e2 : ub (BitVec.ofNat 8 (n / 65536)) = (n : Int) / 65536 % 256 := by rw [ub, BitVec.toNat_ofNat]; omega
  have e3 : ub (BitVec.ofNat 8 (n / 16777216)) = (n : Int) / 16777216 := by rw [ub, BitVec.toNat_ofNat]; omega
  simp only [four, List.map_cons, List.map_nil, bv, e0, e1, e2, e3]
def FourP (w : World) (n : Nat) (e : Ending) (w' : World) : Prop := e = .returned (.slice (some ⟨w.heap.size, 0, none⟩) 4 4) ∧ w' = w.alloc (.cells ((four n).map bv).toArray 5)
set_option maxHeartbeats 1000000 in
theorem four_w (n : Nat) (hn : n < 4294967296) (w : World) : Calls Tryd.prog 26 #[.int .u32 (n : Int)] w (FourP w n) := by
  have h0 : (0 : Int) ≤ (n : Int) := Int.natCast_nonneg _
  have h1 : (n : Int) < 4294967296 := by omega
  go_enter Tryd.func26, Tryd.ntmps26
  go_wp2_with fail
  go_ret
  exact ⟨rfl, by rw [four_cells n hn]⟩
theorem own_new (w : World) (xs : List B8) (n : Nat) (hn : n = xs.length) (h : n ≤ 1000000000) : OwnN (w.alloc (.cells (xs.map bv).toArray 5)) w.heap.size (.slice (some ⟨w.heap.size, 0, none⟩) n n) xs := by
  subst hn
  refine ⟨by rw [List.length_map, Nat.mul_one], .inr ⟨w.heap.size, xs.length, (xs.map bv).toArray, rfl, Nat.le_refl _, heap_alloc_new w _, Nat.le_refl _, by unfold maxLen; omega, by simp, ?_⟩⟩
  rw [Nat.mul_one, List.take_of_length_le (by simp)]
theorem OwnN.ok {w w' : World} {B : Nat} {v : Value} {xs : List B8} (h : OwnN w B v xs) (k : Ok w w') : OwnN w' B v xs := by
  refine World.ownsRow.kept (row := none) h ⟨k.os, k.tape, k.output, k.size, fun i hi _ => k.block i hi⟩ ?_
  cases Value.ownBlock v with
  | none => exact .inl rfl
  | some b => exact .inr (fun e => by cases e)
theorem OwnN.nil (w : World) (base : Nat) : OwnN w base (.slice none 0 0) [] := World.ownsRow_nil _ _ _ _
theorem OwnN.mono {w : World} {B B' : Nat} {v : Value} {xs : List B8} (h : OwnN w B v xs) (hb : B' ≤ B) : OwnN w B' v xs := by
  refine ⟨h.1, ?_⟩
  rcases h.2 with h2 | ⟨g, cap, cur, e, r1, r2⟩
  · exact .inl h2
  · exact .inr ⟨g, cap, cur, e, Nat.le_trans hb r1, r2⟩
theorem wpList_appG {ops : Array Oper} {rest : List Oper} {o : Oper} {a : Act} {w : World} {Q : Exit → Act → World → Prop} (hgd : o.guard = none) (s x : Operand)
    (ho : o.op = .call { callee := .builtin .append, args := #[s, x], argTypes := #[23, 23] })
    (base : Nat) (v : Value) (xs ys : List B8) (vx : Value) (hs : a.eval s = v) (hx : a.eval x = vx) (hown : OwnN w base v xs) (hy : BytesIn w vx ys)
    (hlen : xs.length + ys.length ≤ 140737488351232) (hbase : base ≤ w.heap.size)
    (h : ∀ A N c w', OwnN w' base (.slice A N c) (xs ++ ys) → Below base w w' → w.grownBy w' v.ownBlock → wpList Tryd.prog ops Q rest (a.put o.dst (.slice A N c)) w') : wpList Tryd.prog ops Q (o :: rest) a w := by
  obtain ⟨i0, hi, hz0, hz1, hz2⟩ := info_parts info5
  have hlate : ∀ v' w', w'.ownsRow base 5 1 v' (xs.length + ys.length) (xs.map bv ++ ys.map bv) → w.grownBy w' v.ownBlock → wpList Tryd.prog ops Q rest (a.put o.dst v') w' := by
    intro v' w' h2 h3
    have hb : Below base w w' := (Below.refl base w).grown h3 hbase (fun k hk => (World.ownsRow.lt hown k hk).1)
    have h2' : OwnN w' base v' (xs ++ ys) := by unfold OwnN; rw [List.map_append, List.length_append]; exact h2
    obtain ⟨A, c, rfl⟩ := h2'.form
    exact h A _ c w' h2' hb h3
  rcases hy with ⟨rfl, A, c, rfl, hA⟩ | ⟨b, off, c, rfl, _, hm, hc⟩
  · cases A with
    | some ad =>
      refine wpList_append_own _ hgd s x 23 ho base 5 i0 (.int .u8 0) 1 1 Tryd.underlying23 hi hz0 hz1 hz2 rfl (by decide) _ xs.length (xs.map bv) hs hown ad 0 c [] hx rfl (fun j u hu => by simp at hu) (fun u hu => by simp at hu) (by unfold maxLen; simp at hlen; omega) (by simp at hlen; omega) hbase ?_
      intro v' w' h2 h3 _
      exact hlate v' w' h2 h3
    | none =>
      obtain rfl := hA rfl
      refine wpList_append_own_none hgd s x 23 ho base 5 i0 1 Tryd.underlying23 hi _ xs.length (xs.map bv) hs hown hx ?_
      exact hlate v w (by have := hown; unfold OwnN at this; simpa using this) ⟨rfl, rfl, rfl, Nat.le_refl _, fun _ _ _ => rfl⟩
  · refine wpList_append_own _ hgd s x 23 ho base 5 i0 (.int .u8 0) 1 1 Tryd.underlying23 hi hz0 hz1 hz2 rfl (by decide) _ xs.length (xs.map bv) hs hown ⟨b, off, none⟩ ys.length c (ys.map bv) hx (by simp) ?_ ?_ (by unfold maxLen; omega) (by omega) hbase ?_
    · intro j u hu
      have hj : j < ys.length := by
        by_cases hl : j < ys.length
        · exact hl
        · rw [List.getElem?_eq_none (by simp; omega)] at hu; cases hu
      have e : (⟨b, off, none⟩ : Addr).add j = ⟨b, off + j, none⟩ := by unfold Addr.add; split <;> simp_all
      rw [e, hc j hj, ← hu]
      simp [hj, bv]
    · intro u hu
      obtain ⟨y, _, rfl⟩ := List.mem_map.1 hu
      rfl
    · intro v' w' h2 h3 _
      exact hlate v' w' h2 h3
theorem step_appB {ops : Array Oper} {o : Oper} {a : Act} {w : World} {K : Act → World → Prop} {Q : Exit → Act → World → Prop} {E : Prop} (hgd : o.guard = none) (s x : Operand)
    (ho : o.op = .call { callee := .builtin .append, args := #[s, x], argTypes := #[23, 23] })
    (base : Nat) (v : Value) (xs ys : List B8) (vx : Value) (hs : a.eval s = v) (hx : a.eval x = vx) (hown : OwnN w base v xs) (hy : BytesIn w vx ys)
    (hlen : xs.length + ys.length ≤ 140737488351232) (hbase : base ≤ w.heap.size)
    (h : ∀ A N c w', OwnN w' base (.slice A N c) (xs ++ ys) → Below base w w' → w.grownBy w' v.ownBlock → K (a.put o.dst (.slice A N c)) w') :
    if Region.wanted o (yielded ops a.tmps) = true then Oper.wp Tryd.prog o a w K Q else E := by
  have hw : Region.wanted o (yielded ops a.tmps) = true := by simp [Region.wanted, hgd]
  rw [if_pos hw]
  obtain ⟨i0, hi, hz0, hz1, hz2⟩ := info_parts info5
  have hlate : ∀ v' w', w'.ownsRow base 5 1 v' (xs.length + ys.length) (xs.map bv ++ ys.map bv) → w.grownBy w' v.ownBlock → K (a.put o.dst v') w' := by
    intro v' w' h2 h3
    have hb : Below base w w' := (Below.refl base w).grown h3 hbase (fun k hk => (World.ownsRow.lt hown k hk).1)
    have h2' : OwnN w' base v' (xs ++ ys) := by unfold OwnN; rw [List.map_append, List.length_append]; exact h2
    obtain ⟨A, c, rfl⟩ := h2'.form
    exact h A _ c w' h2' hb h3
  unfold Oper.wp execOp
  rcases hy with ⟨rfl, A, c, rfl, hA⟩ | ⟨b, off, c, rfl, _, hm, hc⟩
  · cases A with
    | some ad =>
      obtain ⟨v', w', hr, h2, h3, _, _⟩ := run_append_own_at (P := Tryd.prog) w base 23 o.type 5 i0 (.int .u8 0) 1 1 Tryd.underlying23 hi hz0 hz1 hz2 rfl (by decide) _ xs.length (xs.map bv) hown ad 0 c [] rfl (fun j u hu => by simp at hu) (fun u hu => by simp at hu) (by unfold maxLen; simp at hlen; omega) (by simp at hlen; omega) hbase
      simp only [ho, resolve, invoke, builtin, Sem.run_bind, Sem.run_pure, Result.andThen_ok, List.map_toArray, List.map_cons, List.map_nil, hs, hx, hr]
      exact hlate v' w' h2 h3
    | none =>
      obtain rfl := hA rfl
      have hr := run_append_owned_none (P := Tryd.prog) (w := w) base 23 o.type 5 i0 1 Tryd.underlying23 hi _ xs.length (xs.map bv) hown
      simp only [ho, resolve, invoke, builtin, Sem.run_bind, Sem.run_pure, Result.andThen_ok, List.map_toArray, List.map_cons, List.map_nil, hs, hx, hr]
      exact hlate v w (by have := hown; unfold OwnN at this; simpa using this) ⟨rfl, rfl, rfl, Nat.le_refl _, fun _ _ _ => rfl⟩
  · have hin : ∀ j u, (ys.map bv)[j]? = some u → w.cell? ((⟨b, off, none⟩ : Addr).add j) = some u := by
      intro j u hu
      have hj : j < ys.length := by
        by_cases hl : j < ys.length
        · exact hl
        · rw [List.getElem?_eq_none (by simp; omega)] at hu; cases hu
      have e : (⟨b, off, none⟩ : Addr).add j = ⟨b, off + j, none⟩ := by unfold Addr.add; split <;> simp_all
      rw [e, hc j hj, ← hu]
      simp [hj, bv]
    have h1 : ∀ u ∈ ys.map bv, u.oneCell' = true := fun u hu => by
      obtain ⟨y, _, rfl⟩ := List.mem_map.1 hu
      rfl
    obtain ⟨v', w', hr, h2, h3, _, _⟩ := run_append_own_at (P := Tryd.prog) w base 23 o.type 5 i0 (.int .u8 0) 1 1 Tryd.underlying23 hi hz0 hz1 hz2 rfl (by decide) _ xs.length (xs.map bv) hown ⟨b, off, none⟩ ys.length c (ys.map bv) (by simp) hin h1 (by unfold maxLen; omega) (by omega) hbase
    simp only [ho, resolve, invoke, builtin, Sem.run_bind, Sem.run_pure, Result.andThen_ok, List.map_toArray, List.map_cons, List.map_nil, hs, hx, hr]
    exact hlate v' w' h2 h3
theorem OwnN.bytes_grown {w w' : World} {B : Nat} {v : Value} {xs : List B8} (h : OwnN w B v xs) (hm : xs.length ≤ 140737488351232) {row : Option Nat} (hg : w.grownBy w' row) (hr : ∀ k, row = some k → k < B) : BytesIn w' v xs := by
  have h1 := h.bytes hm
  rcases h.2 with ⟨rfl, h0⟩ | ⟨g, cap, cur, rfl, hb, hgb, _⟩
  · exact .inl ⟨List.length_eq_zero_iff.1 h0, _, _, rfl, fun _ => rfl⟩
  · rcases h1 with h1 | ⟨b, o, c, e, hn, hmm, hc⟩
    · exact .inl h1
    · simp only [Value.slice.injEq, Option.some.injEq, Addr.mk.injEq, and_true] at e
      obtain ⟨⟨rfl, rfl⟩, -, rfl⟩ := e
      refine .inr ⟨g, 0, cap, rfl, hn, hmm, fun i hi => ?_⟩
      rw [World.cell?_of_block (hg.block g (Array.getElem?_eq_some_iff.1 hgb).1 (fun e => by have := hr g e.symm; omega))]
      exact hc i hi
theorem OwnN.below {w : World} {B : Nat} {v : Value} {xs : List B8} (h : OwnN w B v xs) : ∀ k, v.ownBlock = some k → B ≤ k ∧ k < w.heap.size := fun k hk => World.ownsRow.lt h k hk
theorem OwnN.not_ty {w : World} {B : Nat} {v : Value} {xs : List B8} (h : OwnN w B v xs) {b ty : Nat} {cs : Array Value} {fz : Nat × Nat} (hb : w.heap[b]? = some (.cells cs ty fz)) (ht : ty ≠ 5) : some b ≠ v.ownBlock := fun e => by
  rcases h.2 with ⟨rfl, _⟩ | ⟨g, cap, cur, rfl, _, hgb, _⟩
  · cases e
  · simp only [Value.ownBlock, Option.some.injEq] at e
    subst e
    rw [hb] at hgb
    simp only [Option.some.injEq, Obj.cells.injEq] at hgb
    exact ht hgb.2.1
def RowP (w : World) (xs : List B8) (e : Ending) (w' : World) : Prop := ∃ A c, e = .returned (.slice A xs.length c) ∧ OwnN w' w.heap.size (.slice A xs.length c) xs ∧ Ok w w'
theorem headB_len (k n : Nat) : (headB k n).length = 5 := rfl
set_option maxHeartbeats 2000000 in
theorem head_w (k n : Nat) (hk : k < 256) (hn : n < 4294967296) (w : World) : Calls Tryd.prog 25 #[.int .i64 (k : Int), .int .i64 (n : Int)] w (RowP w (headB k n)) := by
  have h0 : (0 : Int) ≤ (n : Int) := Int.natCast_nonneg _
  have h1 : (n : Int) < 4294967296 := by omega
  have k0 : (0 : Int) ≤ (k : Int) := Int.natCast_nonneg _
  have k1 : (k : Int) < 256 := by omega
  have ek : (k : Int) = ub (BitVec.ofNat 8 k) := by rw [ub, BitVec.toNat_ofNat]; omega
  have HF := Lib.hid (fun V => four_w n hn V)
  have HO := Lib.hid (own_new w (four n) 4 rfl (by decide))
  have HB : Hid (BytesIn ((w.alloc (.cells ((four n).map bv).toArray 5)).alloc (.cells #[.int .u8 (k : Int)] 5)) (.slice (some ⟨w.heap.size + 1, 0, none⟩) 1 1) [BitVec.ofNat 8 k]) := Lib.hid (bytes_new _ [BitVec.ofNat 8 k] _ _ _ _ _ _ (by simp) rfl (Nat.le_refl _) (show (1 : Nat) ≤ 140737488351232 by decide) (by simp [← ek]))
  clear ek
  go_enter Tryd.func25, Tryd.ntmps25
  go_wp2_with fail
  (with_reducible refine (HF.out w).mono ?_)
  rintro _ _ ⟨rfl, rfl⟩
  have HA : Hid (Ok w (w.alloc (.cells ((four n).map bv).toArray 5))) := Lib.hid ((Ok.refl w).alloc _)
  go_wp2_with (at_builtin; go_must (refine wpList_app rfl (.tmp 7) (.tmp 10) rfl w.heap.size _ (four n) [BitVec.ofNat 8 k] _ rfl rfl (HO.out.ok ((Ok.refl _).alloc _)) HB.out (show (4 + 1 : Nat) ≤ 140737488351232 by decide) (by simp; omega) ?_; intro A c w2 ho2 hb2; have HO2 := Lib.hid ho2; have HB2 := Lib.hid hb2; clear ho2 hb2))
  go_ret
  exact ⟨A, c, rfl, HO2.out, Below.trans (HA.out.alloc _) HB2.out⟩
def rightFB (f : Fr) : Int := if f.kind < 0 then 2 else if 255 < f.kind then 2 else if 262144 < f.data.length then 3 else 0
theorem rightFB_iff (f : Fr) : rightFB f = 0 ↔ RightF f := by
  unfold rightFB RightF
  split
  · constructor
    · intro h; cases h
    · intro h; omega
  · split
    · constructor
      · intro h; cases h
      · intro h; omega
    · split
      · constructor
        · intro h; cases h
        · intro h; omega
      · constructor
        · intro _; omega
        · intro _; rfl
set_option maxHeartbeats 1000000 in
theorem right_w (f : Fr) (A : Option Addr) (n c : Nat) (hn : f.data.length = n) (w : World) : Calls Tryd.prog 24 #[.agg #[.int .i64 f.kind, .slice A n c]] w (Ret w (.int .i64 (rightFB f))) := by
  have hO := Lib.hid ((Ok.refl w).alloc (.cells #[.int .i64 f.kind, .slice A n c] 28))
  unfold rightFB
  rw [hn]
  clear hn
  generalize f.kind = k at *
  by_cases h1 : k < 0
  · have d1 : decide (k < 0) = true := decide_eq_true h1
    rw [if_pos h1]
    clear h1
    go_enter Tryd.func24, Tryd.ntmps24
    go_wp2_with fail
    go_ret
    exact ⟨rfl, hO.out⟩
  · have d1 : decide (k < 0) = false := decide_eq_false h1
    rw [if_neg h1]
    clear h1
    by_cases h2 : 255 < k
    · have d2 : decide (255 < k) = true := decide_eq_true h2
      rw [if_pos h2]
      clear h2
      go_enter Tryd.func24, Tryd.ntmps24
      go_wp2_with fail
      go_ret
      exact ⟨rfl, hO.out⟩
    · have d2 : decide (255 < k) = false := decide_eq_false h2
      rw [if_neg h2]
      clear h2
      by_cases h3 : 262144 < n
      · have d3 : decide ((262144 : Int) < (n : Int)) = true := decide_eq_true (by omega)
        rw [if_pos h3]
        clear h3
        go_enter Tryd.func24, Tryd.ntmps24
        go_wp2_with fail
        go_ret
        exact ⟨rfl, hO.out⟩
      · have d3 : decide ((262144 : Int) < (n : Int)) = false := decide_eq_false (by omega)
        rw [if_neg h3]
        clear h3
        go_enter Tryd.func24, Tryd.ntmps24
        go_wp2_with fail
        go_ret
        exact ⟨rfl, hO.out⟩
end Go.Proofs.YtpebnlddmjfomaaDoor
