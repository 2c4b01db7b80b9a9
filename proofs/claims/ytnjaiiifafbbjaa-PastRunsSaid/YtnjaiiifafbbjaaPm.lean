/- Rows of names: what is owned, appended; parts of a row. -/
import Derived.Test.YtnjaiiifafbbjaaPl
import Derived.Maps.AppendAt
namespace Go.Proofs.Ytnjaiiifafbbjaa
open Go.RowKit

def flatN (xs : List Nm) : List Value := (xs.map fun x => [Value.int .i64 x.c, Value.int .i64 x.n]).flatten
theorem flatN_len (xs : List Nm) : (flatN xs).length = xs.length * 2 := by
  induction xs with
  | nil => rfl
  | cons a l ih => simp only [flatN, List.map_cons, List.flatten_cons, List.length_append, List.length_cons, List.length_nil] at *; omega
theorem flatN_append (xs ys : List Nm) : flatN (xs ++ ys) = flatN xs ++ flatN ys := by simp [flatN]
theorem flatN_cons (x : Nm) (xs : List Nm) : flatN (x :: xs) = .int .i64 x.c :: .int .i64 x.n :: flatN xs := by simp [flatN]
theorem flatN_one : ∀ (xs : List Nm) (u : Value), u ∈ flatN xs → u.oneCell' = true := by
  intro xs u hu
  simp only [flatN, List.mem_flatten, List.mem_map] at hu
  obtain ⟨l, ⟨s, _, rfl⟩, hu⟩ := hu
  simp only [List.mem_cons, List.not_mem_nil, or_false] at hu
  rcases hu with rfl | rfl <;> rfl
theorem flatN_get : ∀ (xs : List Nm) (j : Nat), j < xs.length → (flatN xs)[j * 2]? = some (.int .i64 (atN xs j).c) ∧ (flatN xs)[j * 2 + 1]? = some (.int .i64 (atN xs j).n)
  | [], j, h => absurd h (Nat.not_lt_zero _)
  | x :: xs, 0, _ => by simp [flatN_cons, atN]
  | x :: xs, j + 1, h => by
    have := flatN_get xs j (by simpa using h)
    rw [flatN_cons, show (j + 1) * 2 = j * 2 + 1 + 1 from by omega]
    simpa [atN] using this
theorem add_off (b o i : Nat) : (⟨b, o, none⟩ : Addr).add i = ⟨b, o + i, none⟩ := by unfold Addr.add; split <;> simp_all
theorem NamesAt.inn {w : World} {ad : Addr} {xs : List Nm} (h : NamesAt w (some ad) xs) : ∀ j u, (flatN xs)[j]? = some u → w.cell? (ad.add j) = some u := by
  intro j u hu
  have hl := (List.getElem?_eq_some_iff.1 hu).1
  rw [flatN_len] at hl
  obtain ⟨q, r, hr, rfl⟩ : ∃ q r, r < 2 ∧ j = q * 2 + r := ⟨j / 2, j % 2, Nat.mod_lt _ (by decide), by omega⟩
  have hq : q < xs.length := by omega
  obtain ⟨b', off', e, c0, c1⟩ := h q hq
  obtain rfl := Option.some.inj e
  obtain ⟨f0, f1⟩ := flatN_get xs q hq
  rw [add_off]
  match r, hr with
  | 0, _ => rw [Nat.add_zero] at hu ⊢; rw [c0, ← f0, hu]
  | 1, _ => rw [← Nat.add_assoc, c1, ← f1, hu]
theorem NamesAt.take {w : World} {A : Option Addr} {xs : List Nm} (h : NamesAt w A xs) (q : Nat) : NamesAt w A (xs.take q) := fun j hj => by
  rw [List.length_take] at hj
  obtain ⟨b, off, e, c0, c1⟩ := h j (by omega)
  have ea : atN (xs.take q) j = atN xs j := by simp [atN, show j < q from by omega]
  exact ⟨b, off, e, by rw [ea]; exact c0, by rw [ea]; exact c1⟩
theorem NamesAt.drop {w : World} {b off : Nat} {xs : List Nm} (h : NamesAt w (some ⟨b, off, none⟩) xs) (q : Nat) : NamesAt w (some ⟨b, off + q * 2, none⟩) (xs.drop q) := fun j hj => by
  rw [List.length_drop] at hj
  obtain ⟨b', off', e, c0, c1⟩ := h (q + j) (by omega)
  have ea : atN (xs.drop q) j = atN xs (q + j) := by simp [atN]
  simp only [Option.some.injEq, Addr.mk.injEq, and_true] at e
  obtain ⟨rfl, rfl⟩ := e
  refine ⟨b, _, rfl, ?_, ?_⟩
  · rw [ea, ← c0]; congr 2; omega
  · rw [ea, ← c1]; congr 2; omega
theorem NamesAt.empty (w : World) (A : Option Addr) : NamesAt w A [] := fun _ h => absurd h (Nat.not_lt_zero _)
theorem info115 : (Try.prog.info? 115).map (fun i => (i.zero, i.size, i.bytes)) = some (some (.agg #[.int .i64 0, .int .i64 0]), 2, 16) := by kernel_rfl
/-- A row of names of the call's own; it may be nil. -/
def OwnNm (w : World) (base : Nat) (A : Option Addr) (n c : Nat) (xs : List Nm) : Prop := w.ownsRow base 115 2 (.slice A n c) xs.length (flatN xs) ∧ n = xs.length
theorem OwnNm.alloc {w : World} {B : Nat} {A : Option Addr} {n c : Nat} {xs : List Nm} (h : OwnNm w B A n c xs) (o : Obj) : OwnNm (w.alloc o) B A n c xs := ⟨h.1.alloc o, h.2⟩
theorem OwnNm.ok {w w' : World} {B : Nat} {A : Option Addr} {n c : Nat} {xs : List Nm} (h : OwnNm w B A n c xs) (k : Ok w w') : OwnNm w' B A n c xs := by
  refine ⟨h.1.kept (row := none) ⟨k.os, k.tape, k.output, k.size, fun i hi _ => k.block i hi⟩ ?_, h.2⟩
  cases Value.ownBlock (.slice A n c) with
  | none => exact .inl rfl
  | some b => exact .inr (fun e => by cases e)
theorem OwnNm.at {w : World} {B : Nat} {A : Option Addr} {n c : Nat} {xs : List Nm} (h : OwnNm w B A n c xs) : NamesAt w A xs ∧ ∀ b off, A = some ⟨b, off, none⟩ → B ≤ b := by
  obtain ⟨h1, rfl⟩ := h
  rcases h1.2 with ⟨e, h5⟩ | ⟨g, cap, cur, e, r⟩
  · simp only [Value.slice.injEq] at e
    obtain ⟨rfl, -, -⟩ := e
    exact ⟨fun j hj => by omega, fun b off e => by cases e⟩
  · obtain ⟨rfl, -, rfl⟩ : A = some ⟨g, 0, none⟩ ∧ True ∧ c = cap := by
      simp only [Value.slice.injEq] at e
      exact ⟨e.1, trivial, e.2.2⟩
    refine ⟨fun j hj => ?_, fun b off e => by simp only [Option.some.injEq, Addr.mk.injEq] at e; rw [← e.1]; exact r.1⟩
    obtain ⟨f0, f1⟩ := flatN_get xs j hj
    refine ⟨g, 0, rfl, ?_, ?_⟩
    · rw [Nat.zero_add, World.ownsRow.cellAt h1 (j * 2) (by omega), f0]
    · rw [Nat.zero_add, World.ownsRow.cellAt h1 (j * 2 + 1) (by omega), f1]
/-- Names appended. -/
theorem wpList_appN {ops : Array Oper} {rest : List Oper} {o : Oper} {a : Act} {w : World} {Q : Exit → Act → World → Prop} (hgd : o.guard = none) (s x : Operand)
    (ho : o.op = .call { callee := .builtin .append, args := #[s, x], argTypes := #[89, 89] })
    (base : Nat) (A : Option Addr) (n c : Nat) (xs : List Nm) (hs : a.eval s = .slice A n c) (hown : OwnNm w base A n c xs)
    (A2 : Option Addr) (m c2 : Nat) (ys : List Nm) (hx : a.eval x = .slice A2 m c2) (hm : ys.length = m) (hnil : A2 = none → c2 = 0) (hnews : NamesAt w A2 ys) (hlen : xs.length + m ≤ 100000) (hbase : base ≤ w.heap.size)
    (hk : ∀ A' c' w', OwnNm w' base A' (n + m) c' (xs ++ ys) → Below base w w' → wpList Try.prog ops Q rest (a.put o.dst (.slice A' (n + m) c')) w') : wpList Try.prog ops Q (o :: rest) a w := by
  obtain ⟨i0, hi, hz0, hz1, hz2⟩ := info_parts info115
  obtain ⟨hown, rfl⟩ := hown
  have late : ∀ v' w', w'.ownsRow base 115 2 v' (xs.length + m) (flatN xs ++ flatN ys) → w.grownBy w' (Value.ownBlock (.slice A xs.length c)) → wpList Try.prog ops Q rest (a.put o.dst v') w' := by
    intro v' w' h2 h3
    have hb : Below base w w' := (Below.refl base w).grown h3 hbase (fun k hk => (World.ownsRow.lt hown k hk).1)
    rw [← hm, ← flatN_append, ← List.length_append] at h2
    obtain ⟨A', c', rfl⟩ : ∃ A' c', v' = .slice A' (xs.length + m) c' := by
      rcases h2.2 with ⟨rfl, h5⟩ | ⟨g', cap', cur, rfl, _⟩
      · exact ⟨none, 0, by rw [List.length_append] at h5; rw [← hm, h5]⟩
      · exact ⟨_, _, by rw [List.length_append, hm]⟩
    exact hk A' c' w' ⟨h2, by rw [List.length_append, hm]⟩ hb
  cases A2 with
  | none =>
    obtain rfl : ys = [] := by
      cases ys with
      | nil => rfl
      | cons y ys => obtain ⟨_, _, e, _⟩ := hnews 0 (by simp); cases e
    obtain rfl : m = 0 := hm.symm
    obtain rfl := hnil rfl
    refine wpList_append_own_none hgd s x 89 ho base 115 i0 2 Try.underlying89 hi _ xs.length (flatN xs) hs hown hx ?_
    exact late _ w (by simpa [flatN] using hown) ⟨rfl, rfl, rfl, Nat.le_refl _, fun _ _ _ => rfl⟩
  | some ad =>
    refine wpList_append_own_at _ hgd s x 89 ho base 115 i0 (.agg #[.int .i64 0, .int .i64 0]) 2 16 Try.underlying89 hi hz0 hz1 hz2 rfl (by decide) _ xs.length (flatN xs) hs hown ad m c2 (flatN ys) hx (by rw [flatN_len, hm]) hnews.inn (flatN_one ys) (by unfold maxLen; omega) (by omega) hbase ?_
    intro v' w' h2 h3 _ _
    exact late v' w' h2 h3
/-- An empty row, made here. -/
theorem OwnNm.made (w : World) : OwnNm (w.alloc (.cells #[] 115)) w.heap.size (some ⟨w.heap.size, 0, none⟩) 0 0 [] := by
  exact ⟨⟨rfl, .inr ⟨w.heap.size, 0, #[], rfl, Nat.le_refl _, heap_alloc_new w _, Nat.le_refl _, by unfold maxLen; omega, rfl, rfl⟩⟩, rfl⟩
end Go.Proofs.Ytnjaiiifafbbjaa
