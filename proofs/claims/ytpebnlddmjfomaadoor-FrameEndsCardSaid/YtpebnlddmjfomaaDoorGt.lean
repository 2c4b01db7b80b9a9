/- All results lie apart: two rows and the rows of frames. -/
import Derived.Test.YtpebnlddmjfomaaDoorGr
namespace Go.Proofs.YtpebnlddmjfomaaDoor
open Go.RowKit
def pick3 {α : Type} (a b : α) (f : Nat → α) : Nat → α
  | 0 => a
  | 1 => b
  | j + 2 => f j
def lst3 (a b : Value) (f : Nat → Value) (k : Nat) : List Value := a :: b :: (List.range k).map f
theorem lst3_len (a b : Value) (f : Nat → Value) (k : Nat) : (lst3 a b f k).length = 2 + k := by simp [lst3]; omega
theorem lst3_succ (a b : Value) (f : Nat → Value) (k : Nat) : lst3 a b f (k + 1) = lst3 a b f k ++ [f k] := by simp [lst3, List.range_succ]
theorem lst3_get (a b : Value) (f : Nat → Value) (k j : Nat) (h : j < 2 + k) : (lst3 a b f k)[j]? = some (pick3 a b f j) := by
  match j, h with
  | 0, _ => rfl
  | 1, _ => rfl
  | j + 2, h =>
    have : j < k := by omega
    simp [lst3, pick3, this]
theorem row_two (w : World) (a b : Value) : (w.alloc (.cells #[a, b] 23)).ownsRow w.heap.size 23 1 (.slice (some ⟨w.heap.size, 0, none⟩) 2 2) 2 [a, b] :=
  ⟨rfl, .inr ⟨w.heap.size, 2, #[a, b], rfl, Nat.le_refl _, heap_alloc_new w _, Nat.le_refl _, by decide, rfl, rfl⟩⟩
theorem row_cell1 {w : World} {base n c : Nat} {A : Option Addr} {cs : List Value} (h : w.ownsRow base 23 1 (.slice A n c) n cs) (j : Nat) (hj : j < n) : ∃ b off, A = some ⟨b, off, none⟩ ∧ w.cell? ⟨b, off + j, none⟩ = cs[j]? := by
  rcases h.2 with ⟨_, h5⟩ | ⟨g, cap, cur, e, r⟩
  · omega
  · have e2 := e
    simp only [Value.slice.injEq] at e2
    obtain ⟨rfl, -, rfl⟩ := e2
    have hl := h.1
    exact ⟨g, 0, rfl, by rw [Nat.zero_add, World.ownsRow.cellAt h j (by omega)]⟩
/-- The data of a frame of a row. -/
def dvs (cs : List Value) (j : Nat) : Value := (cs[j * 2 + 1]?).getD (.slice none 0 0)
theorem OwnC.data {e : Nat} {w : World} {base db n c : Nat} {A : Option Addr} {xs : List Fr} {cs : List Value} (h : OwnC e w base db A n c xs cs) (j : Nat) (hj : j < xs.length) : cs[j * 2 + 1]? = some (dvs cs j) ∧ OwnN w db (dvs cs j) (atF xs j).data ∧ (∃ g, A = some ⟨g, 0, none⟩ ∧ w.cell? ⟨g, j * 2 + 1, none⟩ = some (dvs cs j)) ∧ (atF xs j).data.length ≤ 140737488351232 := by
  obtain ⟨hn, h1, h2⟩ := h
  obtain ⟨e1, v, e2, ho, hl⟩ := h2 j hj
  have ev : dvs cs j = v := by unfold dvs; rw [e2]; rfl
  rw [ev]
  refine ⟨e2, ho, ?_, hl⟩
  rcases h1.2 with ⟨_, h5⟩ | ⟨g, cap, cur, e, r⟩
  · omega
  · have e3 := e
    simp only [Value.slice.injEq] at e3
    obtain ⟨rfl, -, rfl⟩ := e3
    have hl2 := h1.1
    exact ⟨g, rfl, by rw [World.ownsRow.cellAt h1 (j * 2 + 1) (by omega)]; exact e2⟩
theorem own0 {w : World} {B : Nat} {v : Value} {xs : List B8} (h : OwnN w B v xs) : w.ownsRow 0 5 1 v xs.length (xs.map bv) := h.mono (Nat.zero_le _)
theorem fl_all {W : World} {Bs N1 N2 k : Nat} {s u : Value} {pm pu : List B8} {dv : Nat → Value} {cont : Nat → List B8} (hs : OwnN W Bs s pm) (hsl : ∀ b, s.ownBlock = some b → b < N1) (hu : OwnN W N1 u pu) (hul : ∀ b, u.ownBlock = some b → b < N2) (hd : ∀ j, j < k → OwnN W N2 (dv j) (cont j)) (h12 : N1 ≤ N2)
    (hdis : ∀ i j b, i < j → j < k → (dv i).ownBlock = some b → (dv j).ownBlock ≠ some b) : Fl 5 1 (2 + k) (pick3 s u dv) (fun j => (pick3 pm pu cont j).length) (fun j => (pick3 pm pu cont j).map bv) 0 (pick3 s u dv) (fun j => (pick3 pm pu cont j).length) (fun j => (pick3 pm pu cont j).map bv) W := by
  refine ⟨fun j hj => ?_, fun j hj => absurd hj (Nat.not_lt_zero _), Nat.zero_le _, fun i j b hi hj h1 h2 => ?_⟩
  · match j, hj with
    | 0, _ => exact own0 hs
    | 1, _ => exact own0 hu
    | j + 2, hj => exact own0 (hd j (by omega))
  · have e1 : (pick3 s u dv i).ownBlock = some b := by
      rcases h1 with q | ⟨q, _⟩
      · exact q
      · exact absurd q (Nat.not_lt_zero _)
    have e2 : (pick3 s u dv j).ownBlock = some b := by
      rcases h2 with q | ⟨q, _⟩
      · exact q
      · exact absurd q (Nat.not_lt_zero _)
    clear h1 h2
    match i, j, hi, hj, e1, e2 with
    | 0, 0, _, _, _, _ => rfl
    | 1, 1, _, _, _, _ => rfl
    | 0, 1, _, _, e1, e2 => exact absurd (hsl b e1) (by have := (hu.below b e2).1; omega)
    | 1, 0, _, _, e1, e2 => exact absurd (hsl b e2) (by have := (hu.below b e1).1; omega)
    | 0, j + 2, _, hj, e1, e2 => exact absurd (hsl b e1) (by have := ((hd j (by omega)).below b e2).1; omega)
    | i + 2, 0, hi, _, e1, e2 => exact absurd (hsl b e2) (by have := ((hd i (by omega)).below b e1).1; omega)
    | 1, j + 2, _, hj, e1, e2 => exact absurd (hul b e1) (by have := ((hd j (by omega)).below b e2).1; omega)
    | i + 2, 1, hi, _, e1, e2 => exact absurd (hul b e2) (by have := ((hd i (by omega)).below b e1).1; omega)
    | i + 2, j + 2, hi, hj, e1, e2 =>
      rcases Nat.lt_trichotomy i j with h | h | h
      · exact absurd e2 (hdis i j b h (by omega) e1)
      · rw [h]
      · exact absurd e1 (hdis j i b h (by omega) e2)
/-- What lies under a mark stays, where only blocks over it turn. -/
theorem Kv.low {W w' : World} {vs : Nat → Value} {m N : Nat} (h : Kv vs m W w') (hv : ∀ j b, j < m → (vs j).ownBlock = some b → N ≤ b) (hN : N ≤ W.heap.size) : Below N W w' :=
  ⟨h.os, h.tape, h.output, h.size, fun b hb => h.block b (by omega) (fun j hj e => by have := hv j b hj e; omega)⟩
theorem pick3_lo {W : World} {Bs N1 N2 k N : Nat} {s u : Value} {pm pu : List B8} {dv : Nat → Value} {cont : Nat → List B8} (hs : OwnN W Bs s pm) (hu : OwnN W N1 u pu) (hd : ∀ j, j < k → OwnN W N2 (dv j) (cont j)) (h1 : N ≤ Bs) (h2 : N ≤ N1) (h3 : N ≤ N2) : ∀ j b, j < 2 + k → (pick3 s u dv j).ownBlock = some b → N ≤ b := fun j b hj e => by
  match j, hj, e with
  | 0, _, e => exact Nat.le_trans h1 (hs.below b e).1
  | 1, _, e => exact Nat.le_trans h2 (hu.below b e).1
  | j + 2, hj, e => exact Nat.le_trans h3 ((hd j (by omega)).below b e).1
theorem pick3_mid {W : World} {N1 N2 M k : Nat} {s u : Value} {dv : Nat → Value} {cont : Nat → List B8} (hsl : ∀ b, s.ownBlock = some b → b < N1) (hul : ∀ b, u.ownBlock = some b → b < M) (h1 : N1 ≤ M) (hd : ∀ j, j < k → OwnN W N2 (dv j) (cont j)) : ∀ j b, j < 2 + k → M ≤ b → b < N2 → (pick3 s u dv j).ownBlock ≠ some b := fun j b hj hM hN e => by
  match j, hj, e with
  | 0, _, e => exact absurd (hsl b e) (by omega)
  | 1, _, e => exact absurd (hul b e) (by omega)
  | j + 2, hj, e => exact absurd ((hd j (by omega)).below b e).1 (by omega)
theorem InR.cellat {w wr : World} {A : Option Addr} {n c : Nat} {l : List Fr} (h : InR w wr A n c l) (j : Nat) (hj : j < n) : ∃ q off g cap, A = some ⟨q, off, none⟩ ∧ wr.cell? ⟨q, off + j * 2 + 1, none⟩ = some (.slice (some ⟨g, 0, none⟩) (atF l j).data.length cap) ∧ (atF l j).data.length + 12 ≤ cap ∧ OwnN wr w.heap.size (.slice (some ⟨g, 0, none⟩) ((atF l j).data.length + 12) cap) ((atF l j).data ++ mks 12) := by
  obtain ⟨cs, h1, h2⟩ := h
  obtain ⟨e0, g, cap, e1, hc, ho⟩ := h2 j hj
  rcases h1.2 with ⟨_, h5⟩ | ⟨q, cap', cur, e, r⟩
  · omega
  · have e3 := e
    simp only [Value.slice.injEq] at e3
    obtain ⟨rfl, -, rfl⟩ := e3
    have hl2 := h1.1
    exact ⟨q, 0, g, cap, rfl, by rw [Nat.zero_add, World.ownsRow.cellAt h1 (j * 2 + 1) (by omega)]; exact e1, hc, ho⟩
theorem DatR.cellat {w wr : World} {A : Option Addr} {n c : Nat} {l : List Fr} (h : DatR w wr A n c l) (j : Nat) (hj : j < n) : ∃ q off v, A = some ⟨q, off, none⟩ ∧ wr.cell? ⟨q, off + j, none⟩ = some v ∧ BytesIn w v (atF l j).data := by
  obtain ⟨ds, h1, h2⟩ := h
  obtain ⟨v, e1, hb⟩ := h2 j hj
  obtain ⟨q, off, e, hc⟩ := row_cell1 h1 j hj
  exact ⟨q, off, v, e, hc.trans e1, hb⟩
theorem got_data {bs r : List B8} {ys : List Fr} (h : Got bs ys r) (j : Nat) (hj : j < ys.length) : (atF ys j).data.length ≤ bs.length := by
  have h1 := put_take ys j hj
  have h2 := put_take_len ys (j + 1)
  have h3 := h.2.1
  rw [h1, List.length_append, bytesF_len] at h2
  rw [h3, List.length_append]
  omega
end Go.Proofs.YtpebnlddmjfomaaDoor
