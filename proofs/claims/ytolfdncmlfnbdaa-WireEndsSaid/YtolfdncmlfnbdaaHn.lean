/- What the law WireEnds needs besides: numbers in a row of their own, appends that keep the old value, bytes with a bit turned. -/
import Derived.Test.YtolfdncmlfnbdaaHl
import Derived.Test.YtolfdncmlfnbdaaHg
import Derived.Laws.Bits128
namespace Go.Proofs.Ytolfdncmlfnbdaa
open Go.RowKit

theorem Until.two {P : Program} {ops : Array Oper} {Q : Exit → Act → World → Prop} {md : Region.Mode} {S : World → Prop} {j i k : Nat} {oi ok : Oper} {n : Nat} {listed : Array Bool} {a : Act} {w : World} (hr : Region.ready md ops listed = [i, k]) (hoi : ops[i]? = some oi) (hok : ops[k]? = some ok)
    (h : ∀ K : Act → World → Prop, Shut (∀ a w, ((listed.setIfInBounds i true).getD j true = false → S w) → (((listed.setIfInBounds i true).getD j true = false → S w) → Until P md ops Q S j n (listed.setIfInBounds i true) a w) → K a w) →
      if Region.wanted oi (yielded ops a.tmps) = true then Oper.wp P oi a w K Q else K (a.put oi.dst undef) w)
    (h' : ∀ K : Act → World → Prop, Shut (∀ a w, ((listed.setIfInBounds k true).getD j true = false → S w) → (((listed.setIfInBounds k true).getD j true = false → S w) → Until P md ops Q S j n (listed.setIfInBounds k true) a w) → K a w) →
      if Region.wanted ok (yielded ops a.tmps) = true then Oper.wp P ok a w K Q else K (a.put ok.dst undef) w) : Until P md ops Q S j (n + 1) listed a w :=
  ⟨fun h0 => (by rw [hr] at h0; cases h0), fun m hm => by
    rw [hr] at hm
    rcases List.mem_cons.1 hm with rfl | hm
    · exact wpOp_step hoi (fun K' hK => h K' (fun a w hS hW => hK a w ⟨hS, hW hS⟩))
    · obtain rfl := List.mem_singleton.1 hm
      exact wpOp_step hok (fun K' hK => h' K' (fun a w hS hW => hK a w ⟨hS, hW hS⟩))⟩
/-- Numbers in a row of their own. -/
def OwnI (w : World) (B : Nat) (v : Value) (xs : List Int) : Prop := w.ownsRow B 3 1 v xs.length (xs.map (Value.int .i64))
theorem info3n : (Try.prog.info? 3).map (fun i => (i.zero, i.size, i.bytes)) = some (some (.int .i64 0), 1, 8) := by kernel_rfl
theorem OwnI.ok {w w' : World} {B : Nat} {v : Value} {xs : List Int} (h : OwnI w B v xs) (k : Ok w w') : OwnI w' B v xs := own_stays h fun b hb => k.block b (World.ownsRow.lt h b hb).2
theorem OwnI.at {w : World} {B : Nat} {A : Option Addr} {n c : Nat} {xs : List Int} (h : OwnI w B (.slice A n c) xs) (hp : 0 < n) : n = xs.length ∧ n ≤ c ∧ ∃ g, A = some ⟨g, 0, none⟩ ∧ B ≤ g ∧ g < w.heap.size ∧ ∀ j, j < n → w.cell? ⟨g, j, none⟩ = some (.int .i64 (xs.getD j 0)) := by
  rcases h.2 with ⟨e, h0⟩ | ⟨g, cap, cur, e, r1, r2, r3, r4, r5, r6⟩
  · simp only [Value.slice.injEq] at e; omega
  · have e2 := e
    simp only [Value.slice.injEq] at e2
    obtain ⟨rfl, rfl, rfl⟩ := e2
    refine ⟨rfl, r3, g, rfl, r1, (Array.getElem?_eq_some_iff.1 r2).1, fun j hj => ?_⟩
    rw [World.ownsRow.cellAt h j (by omega)]
    simp [hj]
theorem wpList_appI {ops : Array Oper} {rest : List Oper} {o : Oper} {a : Act} {w : World} {Q : Exit → Act → World → Prop} (hgd : o.guard = none) (s x : Operand)
    (ho : o.op = .call { callee := .builtin .append, args := #[s, x], argTypes := #[22, 22] })
    (base : Nat) (A : Option Addr) (n c : Nat) (xs ys : List Int) (h m : Nat) (hs : a.eval s = .slice A n c) (hx : a.eval x = .slice (some ⟨h, 0, none⟩) m m) (hm : ys.length = m) (hn : xs.length = n) (hown : OwnI w base (.slice A n c) xs)
    (hin : w.heap[h]? = some (.cells (ys.map (Value.int .i64)).toArray 3 (0, 0))) (hlen : n + m ≤ 1000000) (hbase : base ≤ w.heap.size)
    (hk : ∀ A' c' w', OwnI w' base (.slice A' (n + m) c') (xs ++ ys) → Below base w w' → wpList Try.prog ops Q rest (a.put o.dst (.slice A' (n + m) c')) w') : wpList Try.prog ops Q (o :: rest) a w := by
  obtain ⟨i0, hi, hz0, hz1, hz2⟩ := info_parts info3n
  subst hn
  refine wpList_append_own _ hgd s x 22 ho base 3 i0 (.int .i64 0) 1 8 Try.underlying22 hi hz0 hz1 hz2 rfl (by decide) _ xs.length (xs.map (Value.int .i64)) hs hown ⟨h, 0, none⟩ m m (ys.map (Value.int .i64)) hx (by simp [hm]) ?_ ?_ (by unfold maxLen; omega) (by omega) hbase ?_
  · intro j u hu
    have hadd : (⟨h, 0, none⟩ : Addr).add j = ⟨h, j, none⟩ := by unfold Addr.add; split <;> simp_all
    rw [hadd, cell_of_heap hin]
    simpa using hu
  · intro u hu
    obtain ⟨y, _, rfl⟩ := List.mem_map.1 hu
    rfl
  · intro v' w' h2 h3 _
    have hb : Below base w w' := (Below.refl base w).grown h3 hbase (fun k hk => (World.ownsRow.lt hown k hk).1)
    obtain ⟨A', c', rfl⟩ : ∃ A' c', v' = .slice A' (xs.length + m) c' := by
      rcases h2.2 with ⟨rfl, h5⟩ | ⟨g', cap', cur, rfl, _⟩
      · exact ⟨none, 0, by rw [h5]⟩
      · exact ⟨_, _, rfl⟩
    refine hk A' c' w' ?_ hb
    unfold OwnI
    rw [List.map_append, List.length_append, hm]
    exact h2
/-- What append of one byte gives: the new list; the old value is as it was. -/
theorem run_appK (w : World) (base ty : Nat) (A : Option Addr) (n c : Nat) (xs : List B8) (y : B8) (h : Nat) (hn : xs.length = n) (hown : OwnN w base (.slice A n c) xs) (hin : w.heap[h]? = some (.cells #[.int .u8 (ub y)] 5 (0, 0))) (hlen : n ≤ 1000000) (hbase : base ≤ w.heap.size) :
    ∃ A' c' w', (Builtin.append_ #[26, 26] ty #[.slice A n c, .slice (some ⟨h, 0, none⟩) 1 1]).run Try.prog w = .ok (.slice A' (n + 1) c') w' ∧ OwnN w' base (.slice A' (n + 1) c') (xs ++ [y]) ∧ OwnN w' base (.slice A n c) xs ∧ Below base w w' ∧ w.grownBy w' (Value.slice A n c).ownBlock := by
  obtain ⟨i0, hi, hz0, hz1, hz2⟩ := info_parts info5
  subst hn
  obtain ⟨v', w', hr, h2, h3, _, h5⟩ := run_append_keep (P := Try.prog) w base 26 ty 5 i0 (.int .u8 0) 1 1 Try.underlying26 hi hz0 hz1 hz2 rfl (by decide) _ xs.length (xs.map bv) hown ⟨h, 0, none⟩ 1 1 [bv y] rfl (fun j u hu => by
    have hadd : (⟨h, 0, none⟩ : Addr).add j = ⟨h, j, none⟩ := by unfold Addr.add; split <;> simp_all
    rw [hadd, cell_of_heap hin]
    simpa [bv] using hu) (fun u hu => by rw [List.mem_singleton.1 hu]; rfl) (by unfold maxLen; omega) (by omega) hbase
  obtain ⟨A', c', rfl⟩ : ∃ A' c', v' = .slice A' (xs.length + 1) c' := by
    rcases h2.2 with ⟨rfl, h6⟩ | ⟨g', cap', cur, rfl, _⟩
    · omega
    · exact ⟨_, _, rfl⟩
  refine ⟨A', c', w', hr, ?_, h5 _ _ _ _ hown rfl (Nat.le_refl _), (Below.refl base w).grown h3 hbase (fun k hk => (World.ownsRow.lt hown k hk).1), h3⟩
  unfold OwnN
  rw [List.map_append, List.length_append]
  exact h2
theorem step_appK {ops : Array Oper} {o : Oper} {a : Act} {w : World} {K : Act → World → Prop} {Q : Exit → Act → World → Prop} {E : Prop} (hgd : Region.wanted o (yielded ops a.tmps) = true) (s x : Operand)
    (ho : o.op = .call { callee := .builtin .append, args := #[s, x], argTypes := #[26, 26] })
    (base : Nat) (A : Option Addr) (n c : Nat) (xs : List B8) (y : B8) (h : Nat) (hs : a.eval s = .slice A n c) (hx : a.eval x = .slice (some ⟨h, 0, none⟩) 1 1) (hn : xs.length = n) (hown : OwnN w base (.slice A n c) xs) (hin : w.heap[h]? = some (.cells #[.int .u8 (ub y)] 5 (0, 0))) (hlen : n ≤ 1000000) (hbase : base ≤ w.heap.size)
    (hk : ∀ A' c' w', OwnN w' base (.slice A' (n + 1) c') (xs ++ [y]) → OwnN w' base (.slice A n c) xs → Below base w w' → w.grownBy w' (Value.slice A n c).ownBlock → K (a.put o.dst (.slice A' (n + 1) c')) w') :
    if Region.wanted o (yielded ops a.tmps) = true then Oper.wp Try.prog o a w K Q else E := by
  rw [if_pos hgd]
  obtain ⟨A', c', w', hr, h1, h2, h3, h4⟩ := run_appK w base o.type A n c xs y h hn hown hin hlen hbase
  unfold Oper.wp execOp
  simp only [ho, resolve, invoke, builtin, Sem.run_bind, Sem.run_pure, Result.andThen_ok, List.map_toArray, List.map_cons, List.map_nil, hs, hx, hr]
  exact hk A' c' w' h1 h2 h3 h4
theorem wpList_appK {ops : Array Oper} {rest : List Oper} {o : Oper} {a : Act} {w : World} {Q : Exit → Act → World → Prop} (hgd : Region.wanted o (yielded ops a.tmps) = true) (s x : Operand)
    (ho : o.op = .call { callee := .builtin .append, args := #[s, x], argTypes := #[26, 26] })
    (base : Nat) (A : Option Addr) (n c : Nat) (xs : List B8) (y : B8) (h : Nat) (hs : a.eval s = .slice A n c) (hx : a.eval x = .slice (some ⟨h, 0, none⟩) 1 1) (hn : xs.length = n) (hown : OwnN w base (.slice A n c) xs) (hin : w.heap[h]? = some (.cells #[.int .u8 (ub y)] 5 (0, 0))) (hlen : n ≤ 1000000) (hbase : base ≤ w.heap.size)
    (hk : ∀ A' c' w', OwnN w' base (.slice A' (n + 1) c') (xs ++ [y]) → OwnN w' base (.slice A n c) xs → Below base w w' → w.grownBy w' (Value.slice A n c).ownBlock → wpList Try.prog ops Q rest (a.put o.dst (.slice A' (n + 1) c')) w') : wpList Try.prog ops Q (o :: rest) a w := by
  refine wpList_step fun K hK => ?_
  exact step_appK hgd s x ho base A n c xs y h hs hx hn hown hin hlen hbase (fun A' c' w' h1 h2 h3 h4 => hK _ _ (hk A' c' w' h1 h2 h3 h4))
theorem u8_back (n : Int) (h0 : 0 ≤ n) (h1 : n < 256) : ∃ y : B8, n = ub y := ⟨BitVec.ofNat 8 n.toNat, by unfold ub; rw [BitVec.toNat_ofNat]; omega⟩
theorem or_rng (y : Int) : 0 ≤ bits .or .u8 y 128 ∧ bits .or .u8 y 128 < 256 := by
  unfold bits
  simp only [IntKind.wrap_u8]
  constructor <;> omega
theorem or_back (y : B8) : ∃ z : B8, bits .or .u8 (ub y) 128 = ub z := u8_back _ (or_rng _).1 (or_rng _).2
theorem and_back (y : B8) : ∃ z : B8, bits .and .u8 (ub y) 127 = ub z := by
  rw [and127b]
  exact u8_back _ (by omega) (by omega)
theorem OwnN.store {w : World} {B g c n : Nat} {xs : List B8} (h : OwnN w B (.slice (some ⟨g, 0, none⟩) n c) xs) (j : Nat) (y : B8) : OwnN (w.setCell ⟨g, j, none⟩ (.int .u8 (ub y))) B (.slice (some ⟨g, 0, none⟩) n c) (xs.set j y) ∧ Below B w (w.setCell ⟨g, j, none⟩ (.int .u8 (ub y))) := by
  obtain rfl := h.len'
  have hg := (h.lt g rfl).1
  refine ⟨?_, (Below.refl _ _).setCell hg _⟩
  have := (World.ownsRow.stored h j (.int .u8 (ub y))).1
  unfold OwnN
  rw [List.length_set, List.map_set]
  exact this

theorem Ok.retn {W w' : World} {e : Ending} (h : e = .returned (.bool true) ∧ Ok W w') : Ret W (.bool true) e w' := h
/-- A few calls in memory. -/
theorem calls1 {V : World} {h : Nat} {a b : Int} (hb : V.heap[h]? = some (.cells #[.int .i64 a, .int .i64 b] 52 (0, 0))) : CallsAt V (some ⟨h, 0, none⟩) [⟨a, b⟩] := fun k hk => by
  refine ⟨h, 0, rfl, ?_⟩
  rw [cell_of_heap hb, cell_of_heap hb]
  match k, hk with
  | 0, _ => exact ⟨rfl, rfl⟩
theorem calls2 {V : World} {h : Nat} {a b c d : Int} (hb : V.heap[h]? = some (.cells #[.int .i64 a, .int .i64 b, .int .i64 c, .int .i64 d] 52 (0, 0))) : CallsAt V (some ⟨h, 0, none⟩) [⟨a, b⟩, ⟨c, d⟩] := fun k hk => by
  refine ⟨h, 0, rfl, ?_⟩
  rw [cell_of_heap hb, cell_of_heap hb]
  match k, hk with
  | 0, _ => exact ⟨rfl, rfl⟩
  | 1, _ => exact ⟨rfl, rfl⟩
theorem calls3 {V : World} {h : Nat} {a b c d e f : Int} (hb : V.heap[h]? = some (.cells #[.int .i64 a, .int .i64 b, .int .i64 c, .int .i64 d, .int .i64 e, .int .i64 f] 52 (0, 0))) : CallsAt V (some ⟨h, 0, none⟩) [⟨a, b⟩, ⟨c, d⟩, ⟨e, f⟩] := fun k hk => by
  refine ⟨h, 0, rfl, ?_⟩
  rw [cell_of_heap hb, cell_of_heap hb]
  match k, hk with
  | 0, _ => exact ⟨rfl, rfl⟩
  | 1, _ => exact ⟨rfl, rfl⟩
  | 2, _ => exact ⟨rfl, rfl⟩
theorem reads1 {V : World} {v : Value} {ys : List B8} {h : Nat} {a b : Int} (hy : BytesIn V v ys) (hb : V.heap[h]? = some (.cells #[.int .i64 a, .int .i64 b] 52 (0, 0))) : Calls Try.prog 4 #[v, .slice (some ⟨h, 0, none⟩) 1 1] V (Ret V (.bool true)) :=
  wireReads_w V ys v [⟨a, b⟩] (some ⟨h, 0, none⟩) 1 1 hy (calls1 hb) rfl (by decide)
theorem reads2 {V : World} {v : Value} {ys : List B8} {h : Nat} {a b c d : Int} (hy : BytesIn V v ys) (hb : V.heap[h]? = some (.cells #[.int .i64 a, .int .i64 b, .int .i64 c, .int .i64 d] 52 (0, 0))) : Calls Try.prog 4 #[v, .slice (some ⟨h, 0, none⟩) 2 2] V (Ret V (.bool true)) :=
  wireReads_w V ys v [⟨a, b⟩, ⟨c, d⟩] (some ⟨h, 0, none⟩) 2 2 hy (calls2 hb) rfl (by decide)
theorem reads3 {V : World} {v : Value} {ys : List B8} {h : Nat} {a b c d e f : Int} (hy : BytesIn V v ys) (hb : V.heap[h]? = some (.cells #[.int .i64 a, .int .i64 b, .int .i64 c, .int .i64 d, .int .i64 e, .int .i64 f] 52 (0, 0))) : Calls Try.prog 4 #[v, .slice (some ⟨h, 0, none⟩) 3 3] V (Ret V (.bool true)) :=
  wireReads_w V ys v [⟨a, b⟩, ⟨c, d⟩, ⟨e, f⟩] (some ⟨h, 0, none⟩) 3 3 hy (calls3 hb) rfl (by decide)
theorem writes1 {V : World} {g k cc : Nat} {x : Int} (h : V.cell? ⟨g, k, none⟩ = some (.int .i64 x)) : Calls Try.prog 3 #[.slice (some ⟨g, k, none⟩) 1 cc, .slice none 0 0, .slice none 0 0, .slice none 0 0] V (Ret V (.bool true)) := by
  refine wireWrites_w V [x] [] [] [] (some ⟨g, k, none⟩) none none none cc 0 0 0 ⟨fun j hj => ⟨g, k, rfl, ?_⟩, fun j hj => absurd hj (Nat.not_lt_zero _), fun j hj => absurd hj (Nat.not_lt_zero _), fun j hj => absurd hj (Nat.not_lt_zero _)⟩ (by simp) (by simp) (by simp) (by simp) (fun j hj => absurd hj (Nat.not_lt_zero _))
  have hj2 : j < 1 := hj
  obtain rfl : j = 0 := by omega
  exact h
theorem writes2 {V : World} {g k m cc hf ht : Nat} {xs : List Int} {s : ByteArray} (hm : xs.length = m) (hmm : m ≤ 100) (hs : s.size ≤ 100) (h : ∀ j, j < m → V.cell? ⟨g, k + j, none⟩ = some (.int .i64 (xs.getD j 0))) (h1 : V.cell? ⟨hf, 0, none⟩ = some (.bool true)) (h2 : V.cell? ⟨ht, 0, none⟩ = some (.string s)) :
    Calls Try.prog 3 #[.slice (some ⟨g, k, none⟩) m cc, .slice (some ⟨hf, 0, none⟩) 1 1, .slice (some ⟨ht, 0, none⟩) 1 1, .slice none 0 0] V (Ret V (.bool true)) := by
  subst hm
  refine wireWrites_w V xs [true] [s] [] (some ⟨g, k, none⟩) (some ⟨hf, 0, none⟩) (some ⟨ht, 0, none⟩) none cc 1 1 0 ⟨fun j hj => ⟨g, k, rfl, h j hj⟩, fun j hj => ⟨hf, 0, rfl, ?_⟩, fun j hj => ⟨ht, 0, rfl, ?_⟩, fun j hj => absurd hj (Nat.not_lt_zero _)⟩ (by omega) (by simp) (by simp) (by simp) (fun j hj => ?_)
  · obtain rfl : j = 0 := by have : j < 1 := hj; omega
    exact h1
  · obtain rfl : j = 0 := by have : j < 1 := hj; omega
    exact h2
  · obtain rfl : j = 0 := by have : j < 1 := hj; omega
    show s.size ≤ _
    omega
/-- What Number tells of any number. -/
def NumAny (W : World) (e : Ending) (w' : World) : Prop := ∃ (b : Bool) (A : Option Addr) (M c : Nat) (ys : List B8), e = .returned (.tuple #[.slice A M c, .bool b]) ∧ ys.length = M ∧ M ≤ 10 ∧ (b = true → 0 < M) ∧ OwnN w' W.heap.size (.slice A M c) ys ∧ Ok W w'
theorem enc_pos (n : Nat) : 0 < (enc n).length := by
  unfold enc
  rw [encF]
  split <;> simp
theorem number_ends (n : Int) (W : World) : Calls Try.prog 37 #[.int .i64 n] W (NumAny W) := by
  by_cases h : n < 0 ∨ 4611686018427387903 < n
  · refine (rnumber_bad n W h).mono ?_
    rintro e w' ⟨rfl, rfl⟩
    exact ⟨false, none, 0, 0, [], rfl, rfl, by omega, (fun h => by cases h), OwnN.nil _ _, Ok.refl _⟩
  · obtain ⟨m, rfl⟩ : ∃ m : Nat, n = m := ⟨n.toNat, by omega⟩
    refine (rnumber_w m (by omega) W).mono ?_
    rintro e w' ⟨A, c, rfl, ho, hk⟩
    exact ⟨true, A, _, c, _, rfl, rfl, enc_len m, fun _ => enc_pos m, ho, hk⟩
end Go.Proofs.Ytolfdncmlfnbdaa
