/- Acts done in two parts: mathematics; slices of acts; reads joined. -/
import Derived.Test.YthbbbjkgfdnkhaaDoorAl
namespace Go.Proofs.YthbbbjkgfdnkhaaDoor
open Go.RowKit
theorem runA_append (s : St) (l l' : List Ac) : runA s (l ++ l') = runA (runA s l) l' := List.foldl_append
theorem stepA_off (rs : List Rd) (is : Bool) (val : Str) (put : Bool) (a : Ac) (ys : List Rd) (p2 : Bool) :
    stepA ⟨rs ++ ys, is, val, put || p2⟩ a = ⟨rs ++ (stepA ⟨ys, is, val, p2⟩ a).rs, (stepA ⟨ys, is, val, p2⟩ a).is, (stepA ⟨ys, is, val, p2⟩ a).val, put || (stepA ⟨ys, is, val, p2⟩ a).put⟩ := by
  unfold stepA
  split
  · simp
  · split
    · simp
    · split
      · simp
      · rfl
theorem runA_off (rs : List Rd) (put : Bool) (l : List Ac) : ∀ (ys : List Rd) (is : Bool) (val : Str) (p2 : Bool),
    runA ⟨rs ++ ys, is, val, put || p2⟩ l = ⟨rs ++ (runA ⟨ys, is, val, p2⟩ l).rs, (runA ⟨ys, is, val, p2⟩ l).is, (runA ⟨ys, is, val, p2⟩ l).val, put || (runA ⟨ys, is, val, p2⟩ l).put⟩ := by
  induction l with
  | nil => intro ys is val p2; rfl
  | cons a l ih =>
    intro ys is val p2
    show runA (stepA ⟨rs ++ ys, is, val, put || p2⟩ a) l = _
    rw [stepA_off rs is val put a ys p2, ih]
    rfl
theorem runA_two (s : St) (l : List Ac) : runA s l = ⟨s.rs ++ (runA ⟨[], s.is, s.val, false⟩ l).rs, (runA ⟨[], s.is, s.val, false⟩ l).is, (runA ⟨[], s.is, s.val, false⟩ l).val, s.put || (runA ⟨[], s.is, s.val, false⟩ l).put⟩ := by
  have h := runA_off s.rs s.put l [] s.is s.val false
  simp only [List.append_nil, Bool.or_false] at h
  exact h
/-- What was not put is as it was; what was put stands. -/
theorem runA_put (l : List Ac) : ∀ s : St, (s.put = true → s.is = true) → ((runA s l).put = true → (runA s l).is = true) ∧ ((runA s l).put = false → (runA s l).is = s.is ∧ (runA s l).val = s.val ∧ s.put = false) := by
  induction l with
  | nil => intro s h; exact ⟨h, fun h2 => ⟨rfl, rfl, h2⟩⟩
  | cons a l ih =>
    intro s h
    have key : ((stepA s a).put = true → (stepA s a).is = true) ∧ ((stepA s a).put = false → (stepA s a).is = s.is ∧ (stepA s a).val = s.val ∧ s.put = false) := by
      unfold stepA
      split
      · exact ⟨h, fun h2 => ⟨rfl, rfl, h2⟩⟩
      · split
        · exact ⟨fun _ => rfl, fun h2 => by cases h2⟩
        · split
          · exact ⟨fun _ => rfl, fun h2 => by cases h2⟩
          · exact ⟨h, fun h2 => ⟨rfl, rfl, h2⟩⟩
    have h3 := ih (stepA s a) key.1
    refine ⟨h3.1, fun h2 => ?_⟩
    obtain ⟨e1, e2, e3⟩ := h3.2 h2
    obtain ⟨f1, f2, f3⟩ := key.2 e3
    exact ⟨e1.trans f1, e2.trans f2, f3⟩
/-- What is told behind. -/
def aft (s : St) : Str := if s.put = true then s.val else ⟨#[]⟩
/-- Where the second part begins. -/
def st1 (is : Bool) (val : Str) (l : List Ac) : St := if (runA (st0 is val) l).put = true then st0 true (runA (st0 is val) l).val else st0 is val
theorem st1_is (is : Bool) (val : Str) (l : List Ac) : st1 is val l = ⟨[], (runA (st0 is val) l).is, (runA (st0 is val) l).val, false⟩ := by
  have h := runA_put l (st0 is val) (fun h => by cases h)
  unfold st1
  cases hp : (runA (st0 is val) l).put with
  | true => rw [if_pos rfl, h.1 hp]; rfl
  | false =>
    obtain ⟨e1, e2, _⟩ := h.2 hp
    rw [if_neg (by decide), e1, e2]; rfl
/-- All at once does what the two parts do. -/
theorem runA_parts (is : Bool) (val : Str) (l : List Ac) (k : Nat) : runA (st0 is val) l = ⟨(runA (st0 is val) (l.take k)).rs ++ (runA (st1 is val (l.take k)) (l.drop k)).rs, (runA (st1 is val (l.take k)) (l.drop k)).is, (runA (st1 is val (l.take k)) (l.drop k)).val, (runA (st0 is val) (l.take k)).put || (runA (st1 is val (l.take k)) (l.drop k)).put⟩ := by
  conv => lhs; rw [← List.take_append_drop k l, runA_append, runA_two]
  rw [← st1_is]
theorem parts_aft (is : Bool) (val : Str) (l : List Ac) (k : Nat) (a b : St) (ha : runA (st0 is val) (l.take k) = a) (hb : runA (st1 is val (l.take k)) (l.drop k) = b) :
    (b.put = true → aft (runA (st0 is val) l) = aft b) ∧ (b.put = false → a.put = true → aft (runA (st0 is val) l) = aft a) ∧ (b.put = false → a.put = false → aft (runA (st0 is val) l) = ⟨#[]⟩) := by
  have hp := runA_parts is val l k
  have h2 := runA_put (l.drop k) (st1 is val (l.take k)) (fun h => by rw [st1_is] at h; cases h)
  rw [ha, hb] at hp
  rw [hb] at h2
  unfold aft
  rw [hp]
  refine ⟨fun h => ?_, fun h h3 => ?_, fun h h3 => ?_⟩
  · simp [h]
  · obtain ⟨_, e, _⟩ := h2.2 h
    simp only [h, h3, Bool.or_false, if_true]
    rw [e, st1_is, ha]
  · simp [h, h3]
/-- Slices of acts. -/
theorem atA_take (l : List Ac) (k j : Nat) (h : j < k) : atA (l.take k) j = atA l j := by simp [atA, List.getD, h]
theorem atA_drop (l : List Ac) (k j : Nat) : atA (l.drop k) j = atA l (k + j) := by simp [atA, List.getD]
theorem el22 : Tryd.prog.elem 22 = 52 := by kernel_rfl
theorem un22 : Tryd.prog.underlying 22 = some (.slice (Tryd.prog.elem 22)) := by rw [el22]; exact Tryd.underlying22
theorem add_off (b o i : Nat) : (⟨b, o, none⟩ : Addr).add i = ⟨b, o + i, none⟩ := by unfold Addr.add; split <;> simp_all
theorem slice_low (w : World) (A : Option Addr) (n c : Nat) (l : List Ac) (hn : l.length = n) (hc : n ≤ c) (hI : ActsAt w A l) (k : Nat) (hk : k ≤ n) :
    ∃ A', (∀ wx : World, (Instr.slice 22 (.slice A n c) none (some (.int .i64 (k : Int))) none).run Tryd.prog wx = .ok (.slice A' k c) wx) ∧ ActsAt w A' (l.take k) := by
  refine ⟨if c = 0 then A else A.map (·.add (0 * 4)), fun wx => ?_, fun j hj => ?_⟩
  · rw [run_slice_h wx 22 A n c un22 .i64 (k : Int) (Int.natCast_nonneg _) (by omega)]
    rw [el22, Tryd.sizeOf52]
    simp [Result.andThen, sliced]
  · have hj2 : j < k := by rw [List.length_take] at hj; omega
    obtain ⟨b, off, rfl, h0, h1, h2, h3⟩ := hI j (by omega)
    rw [atA_take l k j hj2]
    refine ⟨b, off, ?_, h0, h1, h2, h3⟩
    split
    · rfl
    · rw [Option.map_some, add_off]; rfl
theorem slice_high (w : World) (A : Option Addr) (n c : Nat) (l : List Ac) (hn : l.length = n) (hc : n ≤ c) (hI : ActsAt w A l) (k : Nat) (hk : k ≤ n) :
    ∃ A', (∀ wx : World, (Instr.slice 22 (.slice A n c) (some (.int .i64 (k : Int))) none none).run Tryd.prog wx = .ok (.slice A' (n - k) (c - k)) wx) ∧ ActsAt w A' (l.drop k) := by
  refine ⟨if c = k then A else A.map (·.add (k * 4)), fun wx => ?_, fun j hj => ?_⟩
  · rw [run_slice_l wx 22 A n c un22 .i64 (k : Int) (Int.natCast_nonneg _) (by omega)]
    rw [el22, Tryd.sizeOf52]
    simp [Result.andThen, sliced]
  · have hj2 : j < n - k := by rw [List.length_drop] at hj; omega
    obtain ⟨b, off, rfl, h0, h1, h2, h3⟩ := hI (k + j) (by omega)
    rw [atA_drop l k j]
    have e : off + (k + j) * 4 = off + k * 4 + j * 4 := by omega
    rw [e] at h0 h1 h2 h3
    refine ⟨b, off + k * 4, ?_, h0, h1, h2, h3⟩
    rw [if_neg (by omega), Option.map_some, add_off]
/-- Reads appended to reads of the call's own. -/
theorem wpList_appRs {ops : Array Oper} {rest : List Oper} {o : Oper} {a : Act} {w : World} {Q : Exit → Act → World → Prop} (hgd : o.guard = none) (s x : Operand)
    (ho : o.op = .call { callee := .builtin .append, args := #[s, x], argTypes := #[28, 28] })
    (base : Nat) (A : Option Addr) (n c : Nat) (xs : List Rd) (hs : a.eval s = .slice A n c) (hown : OwnR w base A n c xs)
    (B : Option Addr) (m d : Nat) (ys : List Rd) (base2 : Nat) (hx : a.eval x = .slice B m d) (hown2 : OwnR w base2 B m d ys) (hA : A ≠ none) (hlen : xs.length ≤ 100000) (hlen2 : ys.length ≤ 100000) (hbase : base ≤ w.heap.size)
    (hk : ∀ A' c' w', A' ≠ none → OwnR w' base A' (n + m) c' (xs ++ ys) → Below base w w' → wpList Tryd.prog ops Q rest (a.put o.dst (.slice A' (n + m) c')) w') : wpList Tryd.prog ops Q (o :: rest) a w := by
  obtain ⟨i0, hi, hz0, hz1, hz2⟩ := info_parts info57
  obtain ⟨hown, rfl⟩ := hown
  obtain ⟨hown2, rfl⟩ := hown2
  rcases hown2.2 with ⟨e5, h5⟩ | ⟨g, cap, cur, e, _⟩
  · simp only [Value.slice.injEq] at e5
    obtain ⟨rfl, -, rfl⟩ := e5
    have hy : ys = [] := List.eq_nil_of_length_eq_zero h5
    subst hy
    refine wpList_plain hgd fun K hK => ?_
    have h6 := hk A c w hA ⟨by rw [List.append_nil]; exact hown, by simp⟩ (Below.refl _ _)
    have hr : (Builtin.append_ #[28, 28] o.type #[.slice A xs.length c, .slice none ([] : List Rd).length 0]).run Tryd.prog w = .ok (.slice A xs.length c) w := by
      rcases hown.2 with ⟨e6, _⟩ | ⟨g, cap, cur, e6, _, _, hnc, _⟩
      · simp only [Value.slice.injEq] at e6
        exact absurd e6.1 hA
      · simp only [Value.slice.injEq] at e6
        obtain ⟨rfl, -, rfl⟩ := e6
        simp [Builtin.append_, run_underlying Tryd.underlying28, sizeOf, typeInfo, hi, Builtin.lenOf, Builtin.firstCells, hnc, storeCells]
    unfold Oper.wp execOp
    simp only [ho, resolve, invoke, builtin, Sem.run_bind, Sem.run_pure, Result.andThen_ok, List.map_toArray, List.map_cons, List.map_nil, hs, hx, hr]
    exact hK _ _ h6
  · simp only [Value.slice.injEq] at e
    obtain ⟨rfl, -, rfl⟩ := e
    refine wpList_append_own_at _ hgd s x 28 ho base 57 i0 (.agg #[.string ⟨#[]⟩, .bool false, .string ⟨#[]⟩]) 3 40 Tryd.underlying28 hi hz0 hz1 hz2 rfl (by decide) _ xs.length (flat3 xs) hs hown ⟨g, 0, none⟩ ys.length _ (flat3 ys) hx (flat3_len ys) ?_ (flat3_one ys) (by unfold maxLen; omega) (by omega) hbase ?_
    · intro j u hu
      have hj := (List.getElem?_eq_some_iff.1 hu).1
      rw [flat3_len] at hj
      rw [add_off, Nat.zero_add, World.ownsRow.cellAt hown2 j hj]
      exact hu
    intro v' w' h2 h3 h4 _
    have hb : Below base w w' := (Below.refl base w).grown h3 hbase (fun k hk => (World.ownsRow.lt hown k hk).1)
    rw [← flat3_append] at h2
    rcases h2.2 with ⟨rfl, h5⟩ | ⟨g', cap', cur, rfl, _⟩
    · have h6 := (h4.1 rfl).1
      simp only [Value.slice.injEq] at h6
      exact absurd h6.1 hA
    · exact hk _ _ w' (by simp) ⟨by rw [List.length_append]; exact h2, by simp⟩ hb
end Go.Proofs.YthbbbjkgfdnkhaaDoor
