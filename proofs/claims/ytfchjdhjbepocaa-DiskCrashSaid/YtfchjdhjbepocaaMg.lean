/- What waits, some of it taken out in place. -/
import Derived.Test.YtfchjdhjbepocaaMf
namespace Go.Proofs.Ytfchjdhjbepocaa
open Go Go.RowKit

theorem grown_trans {a b d : World} {r : Option Nat} (h : a.grownBy b r) (k : b.grownBy d r) : a.grownBy d r :=
  ⟨k.os.trans h.os, k.tape.trans h.tape, k.output.trans h.output, Nat.le_trans h.size k.size, fun j hj hn => (k.block j (Nat.lt_of_lt_of_le hj h.size) hn).trans (h.block j hj hn)⟩
theorem grown_ok {a b : World} {r : Option Nat} (h : Ok a b) : a.grownBy b r := ⟨h.os, h.tape, h.output, h.size, fun j hj _ => h.block j hj⟩
theorem grown_cell {a b : World} {r : Option Nat} (k : a.grownBy b r) {g o : Nat} {v : Value} (h : a.cell? ⟨g, o, none⟩ = some v) (hn : some g ≠ r) : b.cell? ⟨g, o, none⟩ = some v := by
  rw [World.cell?_of_block (w := a) (k.block g (World.block_lt_of_cell? _ _ h) hn)]; exact h
theorem grown_setRow (w : World) (g : Nat) (cs : Array Value) : w.grownBy (w.setRow g cs) (some g) := ⟨rfl, rfl, rfl, by simp, fun k _ hk => setRow_other w g k _ (fun e => hk (by rw [e]))⟩
theorem two_new (w : World) (a b : Value) (t : TypeId) : (w.alloc (.cells #[a, b] t)).cell? ⟨w.heap.size, 0, none⟩ = some a ∧ (w.alloc (.cells #[a, b] t)).cell? ⟨w.heap.size, 1, none⟩ = some b := by
  have h := heap_alloc_new w (.cells #[a, b] t)
  constructor
  · unfold World.cell?; simp only [h]; rfl
  · unfold World.cell?; simp only [h]; rfl
/-- n of them at A. -/
def OwnQ (w : World) (A : Option Addr) (n c : Nat) (l : List Pc) : Prop := l.length = n ∧ w.ownsRow 0 105 2 (.slice A n c) n (pcs l)
theorem OwnQ.of {w : World} {s : Sl} {l : List Pc} (h : OwnPc w s l) : OwnQ w s.A s.n s.c l := by
  have e : s.n = l.length := by
    rcases h.2 with ⟨e, q⟩ | ⟨g, cap, cur, e, _⟩
    · simp only [Sl.v, Value.slice.injEq] at e; omega
    · simp only [Sl.v, Value.slice.injEq] at e; exact e.2.1
  refine ⟨e.symm, ?_⟩
  have h' := h
  unfold OwnPc Sl.v at h'
  rw [← e] at h'
  exact h'
theorem OwnQ.pc {w : World} {A : Option Addr} {n c : Nat} {l : List Pc} (h : OwnQ w A n c l) : OwnPc w ⟨A, n, c⟩ l := by
  obtain ⟨rfl, h⟩ := h
  exact h
theorem OwnQ.kept {w w' : World} {A : Option Addr} {n c : Nat} {l : List Pc} (h : OwnQ w A n c l) (k : ∀ a, A = some a → w'.heap[a.block]? = w.heap[a.block]?) : OwnQ w' A n c l := by
  refine ⟨h.1, blk_eq h.2 fun g e => ?_⟩
  cases A with
  | none => cases e
  | some a => cases e; exact k a rfl
theorem OwnQ.ok {w w' : World} {A : Option Addr} {n c : Nat} {l : List Pc} (h : OwnQ w A n c l) (k : Ok w w') : OwnQ w' A n c l := by
  refine ⟨h.1, blk_eq h.2 fun g e => k.block g (owns_lt h.2 e)⟩
theorem OwnQ.nc {w : World} {A : Option Addr} {n c : Nat} {l : List Pc} (h : OwnQ w A n c l) : (A = none ∧ n = 0 ∧ c = 0) ∨ ∃ g, A = some ⟨g, 0, none⟩ := by
  rcases h.2.2 with ⟨e, q⟩ | ⟨g, cap, cur, e, _⟩
  · simp only [Value.slice.injEq] at e; exact .inl ⟨e.1, q, e.2.2⟩
  · simp only [Value.slice.injEq] at e; exact .inr ⟨g, e.1⟩
theorem OwnQ.cell2 {w : World} {g n c : Nat} {l : List Pc} (h : OwnQ w (some ⟨g, 0, none⟩) n c l) (j : Nat) (hj : j < n) : w.cell? ⟨g, j * 2, none⟩ = some (.string (pcA l j).1) ∧ w.cell? ⟨g, j * 2 + 1, none⟩ = some (.int .i64 ((pcA l j).2 : Int)) := by
  have k := pcs_at l j (by rw [h.1]; exact hj)
  rw [World.ownsRow.cellAt h.2 (j * 2) (by omega), World.ownsRow.cellAt h.2 (j * 2 + 1) (by omega)]
  exact k
theorem OwnQ.froz {w : World} {g n c : Nat} {l : List Pc} (h : OwnQ w (some ⟨g, 0, none⟩) n c l) (j : Nat) : w.frozen? ⟨g, j, none⟩ = false := World.ownsRow.frozenAt h.2 j
theorem pcA_mem (l : List Pc) (j : Nat) (h : j < l.length) : pcA l j ∈ l := by
  unfold pcA
  rw [List.getD_eq_getElem?_getD, List.getElem?_eq_getElem h]
  exact List.getElem_mem h
theorem mem_pcA (l : List Pc) (x : Pc) : x ∈ l ↔ ∃ j, j < l.length ∧ pcA l j = x := by
  constructor
  · intro h
    obtain ⟨j, hj, rfl⟩ := List.mem_iff_getElem.1 h
    exact ⟨j, hj, by unfold pcA; rw [List.getD_eq_getElem?_getD, List.getElem?_eq_getElem hj]; rfl⟩
  · rintro ⟨j, hj, rfl⟩
    exact pcA_mem l j hj
theorem take_one (xs : List Pc) (k : Nat) (h : k < xs.length) : xs.take (k + 1) = xs.take k ++ [pcA xs k] := by
  rw [List.take_add_one, List.getElem?_eq_getElem h]
  unfold pcA
  rw [List.getD_eq_getElem?_getD, List.getElem?_eq_getElem h]
  rfl
theorem pcA_set (l : List Pc) (k : Nat) (r : Pc) (hk : k < l.length) (j : Nat) : pcA (l.set k r) j = if j = k then r else pcA l j := by
  unfold pcA
  simp only [List.getD_eq_getElem?_getD, List.getElem?_set]
  by_cases e : j = k
  · subst e; simp [hk]
  · rw [if_neg e, if_neg (fun q => e q.symm)]
theorem pcs_take (l : List Pc) (i : Nat) (h : i ≤ l.length) : pcs (l.take i) = (pcs l).take (i * 2) := by
  have e := pcs_append (l.take i) (l.drop i)
  rw [List.take_append_drop] at e
  have hl : (pcs (l.take i)).length = i * 2 := by rw [pcs_len, List.length_take]; omega
  rw [e, ← hl, List.take_left]
theorem pcs_set (l : List Pc) (k : Nat) (a : Str) (b : Nat) : ((pcs l).set (k * 2) (.string a)).set (k * 2 + 1) (.int .i64 (b : Int)) = pcs (l.set k (a, b)) := by
  induction l generalizing k with
  | nil => rfl
  | cons r l ih =>
    have e : pcs (r :: l) = .string r.1 :: .int .i64 (r.2 : Int) :: pcs l := rfl
    cases k with
    | zero => rw [e]; rfl
    | succ k =>
      have h2 := ih k
      rw [e, List.set_cons_succ, show (k + 1) * 2 = k * 2 + 1 + 1 from by omega, List.set_cons_succ, List.set_cons_succ, List.set_cons_succ, List.set_cons_succ, h2]
      rfl
theorem OwnQ.set {w : World} {g n c : Nat} {l : List Pc} (h : OwnQ w (some ⟨g, 0, none⟩) n c l) (k : Nat) (a : Str) (b : Nat) :
    OwnQ ((w.setCell ⟨g, k * 2, none⟩ (.string a)).setCell ⟨g, k * 2 + 1, none⟩ (.int .i64 (b : Int))) (some ⟨g, 0, none⟩) n c (l.set k (a, b)) := by
  refine ⟨by rw [List.length_set]; exact h.1, ?_⟩
  rw [← pcs_set]
  exact (World.ownsRow.stored (World.ownsRow.stored h.2 _ _).1 _ _).1
def stay (q : Pc → Bool) (l : List Pc) : List Pc := l.filter fun r => !q r
theorem stay_succ (q : Pc → Bool) (l : List Pc) (m : Nat) (h : m < l.length) : stay q (l.take (m + 1)) = stay q (l.take m) ++ if q (pcA l m) then [] else [pcA l m] := by
  unfold stay
  rw [take_one l m h, List.filter_append]
  congr 1
  cases hq : q (pcA l m) <;> simp [hq]
theorem stay_all (q : Pc → Bool) (l : List Pc) (m : Nat) (hm : m ≤ l.length) (h : ∀ j, j < m → q (pcA l j) = false) : stay q (l.take m) = l.take m := by
  unfold stay
  rw [List.filter_eq_self]
  intro x hx
  obtain ⟨j, hj, rfl⟩ := (mem_pcA _ _).1 hx
  rw [List.length_take] at hj
  have e : pcA (l.take m) j = pcA l j := by
    unfold pcA
    simp only [List.getD_eq_getElem?_getD]
    rw [List.getElem?_take, if_pos (by omega)]
  rw [e, h j (by omega)]
  rfl
theorem stay_len (q : Pc → Bool) (l : List Pc) (n : Nat) (hn : l.length = n) : stay q (l.take n) = stay q l := by rw [List.take_of_length_le (by omega)]
/-- What DeleteFunc leaves. -/
def DelP (A : Option Addr) (n c : Nat) (zs : List Pc) (w : World) (e : Ending) (w' : World) : Prop :=
  e = .returned (.slice A zs.length c) ∧ OwnQ w' A zs.length c zs ∧ w.grownBy w' (Value.slice A n c).ownBlock
/-- m have been looked at, k of them kept, ys is what lies there. -/
structure DelQ (q : Pc → Bool) (l : List Pc) (g n c m k : Nat) (w wr : World) (ys : List Pc) : Prop where
  le : m ≤ n
  lt : k < m
  len : ys.length = n
  cnt : (stay q (l.take m)).length = k
  low : ys.take k = stay q (l.take m)
  high : ∀ j, k ≤ j → pcA ys j = pcA l j ∨ j < m
  own : OwnQ wr (some ⟨g, 0, none⟩) n c ys
  kp : w.grownBy wr (some g)
theorem DelQ.ok {q : Pc → Bool} {l ys : List Pc} {g n c m k : Nat} {w wr w' : World} (h : DelQ q l g n c m k w wr ys) (o : Ok wr w') : DelQ q l g n c m k w w' ys :=
  { h with own := h.own.ok o, kp := grown_trans h.kp (grown_ok o) }
theorem DelQ.skip {q : Pc → Bool} {l ys : List Pc} {g n c m k : Nat} {w wr : World} (h : DelQ q l g n c m k w wr ys) (hn : l.length = n) (hm : m < n) (hq : q (pcA l m) = true) : DelQ q l g n c (m + 1) k w wr ys := by
  have e := stay_succ q l m (by omega)
  rw [hq, if_pos rfl, List.append_nil] at e
  exact { h with le := hm, lt := by have := h.lt; omega, cnt := by rw [e]; exact h.cnt, low := by rw [e]; exact h.low, high := fun j hj => (h.high j hj).imp id fun r => by omega }
theorem DelQ.keep {q : Pc → Bool} {l ys : List Pc} {g n c m k : Nat} {w wr : World} (h : DelQ q l g n c m k w wr ys) (hn : l.length = n) (hm : m < n) (hq : q (pcA l m) = false) :
    DelQ q l g n c (m + 1) (k + 1) w ((wr.setCell ⟨g, k * 2, none⟩ (.string (pcA l m).1)).setCell ⟨g, k * 2 + 1, none⟩ (.int .i64 ((pcA l m).2 : Int))) (ys.set k ((pcA l m).1, (pcA l m).2)) := by
  have e := stay_succ q l m (by omega)
  rw [hq, if_neg (by decide)] at e
  have hk := h.lt
  have hl := h.len
  refine ⟨hm, by omega, by rw [List.length_set]; exact hl, by rw [e, List.length_append, h.cnt]; rfl, ?_, fun j hj => ?_, h.own.set k _ _, ?_⟩
  · rw [e, ← h.low, List.take_add_one, List.take_set_of_le (Nat.le_refl _)]
    congr 1
    rw [List.getElem?_set_self (by omega)]
    rfl
  · rw [pcA_set ys k _ (by omega), if_neg (by omega)]
    exact (h.high j (by omega)).imp id fun r => by omega
  · refine grown_trans h.kp ⟨rfl, rfl, rfl, by simp, fun j hj hn => ?_⟩
    rw [Below.heap_setCell _ ⟨g, k * 2 + 1, none⟩ _ j (fun q => hn (by rw [q])), Below.heap_setCell _ ⟨g, k * 2, none⟩ _ j (fun q => hn (by rw [q]))]
def splice (cur : List Value) (o : Nat) (zs : List Value) : List Value := cur.take o ++ zs ++ cur.drop (o + zs.length)
theorem length_splice (cur : List Value) (o : Nat) (zs : List Value) (h : o + zs.length ≤ cur.length) : (splice cur o zs).length = cur.length := by
  unfold splice
  simp only [List.length_append, List.length_take, List.length_drop]
  omega
/-- The first k of them, the rest cleared. -/
theorem OwnQ.cut {w : World} {g n c : Nat} {l : List Pc} (h : OwnQ w (some ⟨g, 0, none⟩) n c l) (k : Nat) (hk : k ≤ n) (cur : List Value) (hg : w.heap[g]? = some (.cells cur.toArray 105 (0, 0))) (zs : List Value) (hz : zs.length = (n - k) * 2) :
    OwnQ (w.setRow g (splice cur (k * 2) zs).toArray) (some ⟨g, 0, none⟩) k c (l.take k) := by
  have hl := h.1
  rcases h.2.2 with ⟨e, _⟩ | ⟨g', cap, cur', e, hb', hg', h1, h2, h3, h4⟩
  · cases e
  simp only [Value.slice.injEq, Option.some.injEq, Addr.mk.injEq] at e
  obtain ⟨⟨rfl, -, -⟩, -, rfl⟩ := e
  rw [hg] at hg'
  simp only [Option.some.injEq, Obj.cells.injEq, and_true] at hg'
  subst hg'
  simp only [List.size_toArray] at h3 h4
  refine ⟨by rw [List.length_take]; omega, by rw [pcs_len, List.length_take]; omega, .inr ⟨g, c, _, rfl, hb', setRow_heap w g _ _ 105 _ hg, by omega, h2, ?_, ?_⟩⟩
  · rw [List.size_toArray, length_splice _ _ _ (by omega)]; exact h3
  · show List.take (k * 2) (splice cur (k * 2) zs) = _
    unfold splice
    rw [List.append_assoc, List.take_append_of_le_length (by rw [List.length_take]; omega), List.take_take, Nat.min_self, pcs_take l k (by omega), ← h4, List.take_take, Nat.min_eq_left (by omega)]
end Go.Proofs.Ytfchjdhjbepocaa
