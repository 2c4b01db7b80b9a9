/- Rows: a list without the rows that are meant. -/
import Derived.Test.YtebhcadolnjplaaSi
namespace Go.Proofs.Ytebhcadolnjplaa
open Go.RowKit

def stay (s : Sp) (l : List Rw) : List Rw := l.filter fun r => !hasB s r.key
theorem stay_succ (s : Sp) (l : List Rw) (m : Nat) (h : m < l.length) : stay s (l.take (m + 1)) = stay s (l.take m) ++ if hasB s (rwA l m).key then [] else [rwA l m] := by
  unfold stay
  rw [take_one l m h, List.filter_append]
  congr 1
  cases hq : hasB s (rwA l m).key <;> simp [hq]
theorem stay_all (s : Sp) (l : List Rw) (m : Nat) (hm : m ≤ l.length) (h : ∀ j, j < m → hasB s (rwA l j).key = false) : stay s (l.take m) = l.take m := by
  unfold stay
  rw [List.filter_eq_self]
  intro x hx
  obtain ⟨j, hj, rfl⟩ := (mem_rwA _ _).1 hx
  rw [List.length_take] at hj
  have e : rwA (l.take m) j = rwA l j := by
    unfold rwA
    simp only [List.getD_eq_getElem?_getD]
    rw [List.getElem?_take, if_pos (by omega)]
  rw [e, h j (by omega)]
  rfl
/-- What DeleteFunc leaves. -/
def DelRP (B : Nat) (A : Option Addr) (n c : Nat) (zs : List Rw) (w : World) (e : Ending) (w' : World) : Prop :=
  e = .returned (.slice A zs.length c) ∧ OwnR w' B A zs.length c zs ∧ w.grownBy w' (Value.slice A n c).ownBlock
/-- m have been looked at, k of them kept, ys is what lies there. -/
structure DelR (s : Sp) (l : List Rw) (B g n c m k : Nat) (w wr : World) (ys : List Rw) : Prop where
  le : m ≤ n
  lt : k < m
  len : ys.length = n
  cnt : (stay s (l.take m)).length = k
  low : ys.take k = stay s (l.take m)
  high : ∀ j, k ≤ j → rwA ys j = rwA l j
  own : OwnR wr B (some ⟨g, 0, none⟩) n c ys
  kp : w.grownBy wr (some g)
theorem DelR.ok {s : Sp} {l ys : List Rw} {B g n c m k : Nat} {w wr w' : World} (h : DelR s l B g n c m k w wr ys) (o : Ok wr w') : DelR s l B g n c m k w w' ys :=
  { h with own := h.own.ok o, kp := grown_trans h.kp (grown_ok o) }
theorem DelR.skip {s : Sp} {l ys : List Rw} {B g n c m k : Nat} {w wr : World} (h : DelR s l B g n c m k w wr ys) (hn : l.length = n) (hm : m < n) (hq : hasB s (rwA l m).key = true) : DelR s l B g n c (m + 1) k w wr ys := by
  have e := stay_succ s l m (by omega)
  rw [hq, if_pos rfl, List.append_nil] at e
  exact { h with le := hm, lt := by have := h.lt; omega, cnt := by rw [e]; exact h.cnt, low := by rw [e]; exact h.low }
theorem DelR.keep {s : Sp} {l ys : List Rw} {B g n c m k : Nat} {w wr : World} (h : DelR s l B g n c m k w wr ys) (hn : l.length = n) (hm : m < n) (hq : hasB s (rwA l m).key = false) :
    DelR s l B g n c (m + 1) (k + 1) w ((wr.setCell ⟨g, k * 2, none⟩ (.string (rwA l m).key)).setCell ⟨g, k * 2 + 1, none⟩ (.string (rwA l m).val)) (ys.set k ⟨(rwA l m).key, (rwA l m).val⟩) := by
  have e := stay_succ s l m (by omega)
  rw [hq, if_neg (by decide)] at e
  have hk := h.lt
  have hl := h.len
  refine ⟨hm, by omega, by rw [List.length_set]; exact hl, by rw [e, List.length_append, h.cnt]; rfl, ?_, fun j hj => ?_, h.own.set k _ _, ?_⟩
  · rw [e, ← h.low, List.take_add_one, List.take_set_of_le (Nat.le_refl _)]
    congr 1
    rw [List.getElem?_set_self (by omega)]
    rfl
  · rw [← h.high j (by omega), rwA_set ys k _ (by omega), if_neg (by omega)]
  · refine grown_trans h.kp ⟨rfl, rfl, rfl, by simp, fun j hj hn => ?_⟩
    rw [Below.heap_setCell _ ⟨g, k * 2 + 1, none⟩ _ j (fun q => hn (by rw [q])), Below.heap_setCell _ ⟨g, k * 2, none⟩ _ j (fun q => hn (by rw [q]))]
/-- The first k of them, the rest cleared. -/
theorem OwnR.cut {w : World} {B g n c : Nat} {l : List Rw} (h : OwnR w B (some ⟨g, 0, none⟩) n c l) (k : Nat) (hk : k ≤ n) (cur : List Value) (hg : w.heap[g]? = some (.cells cur.toArray 105 (0, 0))) (zs : List Value) (hz : zs.length = (n - k) * 2) :
    OwnR (w.setRow g (splice cur (k * 2) zs).toArray) B (some ⟨g, 0, none⟩) k c (l.take k) := by
  have hl := h.1
  rcases h.2.2 with ⟨e, _⟩ | ⟨g', cap, cur', e, hb', hg', h1, h2, h3, h4⟩
  · cases e
  simp only [Value.slice.injEq, Option.some.injEq, Addr.mk.injEq] at e
  obtain ⟨⟨rfl, -, -⟩, -, rfl⟩ := e
  rw [hg] at hg'
  simp only [Option.some.injEq, Obj.cells.injEq, and_true] at hg'
  subst hg'
  simp only [List.size_toArray] at h3 h4
  refine ⟨by rw [List.length_take]; omega, by rw [flat2_len, List.length_take]; omega, .inr ⟨g, c, _, rfl, hb', setRow_heap w g _ _ 105 _ hg, by omega, h2, ?_, ?_⟩⟩
  · rw [List.size_toArray, length_splice _ _ _ (by omega)]; exact h3
  · show List.take (k * 2) (splice cur (k * 2) zs) = _
    unfold splice
    rw [List.take_append_of_le_length (by rw [List.length_take]; omega), List.take_take, Nat.min_self, flat2_take l k (by omega), ← h4, List.take_take, Nat.min_eq_left (by omega)]
end Go.Proofs.Ytebhcadolnjplaa
