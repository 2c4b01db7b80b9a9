/- Lists that lie apart, each with marks of its own: what stands while they are marked, and grown. No program is imported. -/
import Derived.Test.YtebhcadolnjplaaGreatYb
import Derived.Laws.OwnMore
import Derived.Below
namespace Go.Proofs.YtebhcadolnjplaaGreat
open Go Go.RowKit

def mkL (cs : Nat → Nat → List Value) (k n : Nat) : List Value := (List.range n).flatMap (cs k)
theorem mkL_succ (cs : Nat → Nat → List Value) (k n : Nat) : mkL cs k (n + 1) = mkL cs k n ++ cs k n := by
  simp [mkL, List.range_succ]
theorem mkL_zero (cs : Nat → Nat → List Value) (k : Nat) : mkL cs k 0 = [] := rfl
theorem mkL_len {cs : Nat → Nat → List Value} {sz : Nat} (h : ∀ k i, (cs k i).length = sz) (k n : Nat) : (mkL cs k n).length = n * sz := by
  induction n with
  | zero => simp [mkL]
  | succ n ih => rw [mkL_succ, List.length_append, ih, h, Nat.succ_mul]
/-- Which blocks a list has: where it lies, and where what it has grown to lies. -/
def Has (vs : Nat → Value) (K : Nat) (gs : Nat → Value) (j b : Nat) : Prop := (vs j).ownBlock = some b ∨ (j < K ∧ (gs j).ownBlock = some b)
structure Fl (e sz m : Nat) (vs : Nat → Value) (ns : Nat → Nat) (C : Nat → List Value) (K : Nat) (gs : Nat → Value) (qs : Nat → Nat) (D : Nat → List Value) (w : World) : Prop where
  own : ∀ j, j < m → w.ownsRow 0 e sz (vs j) (ns j) (C j)
  grown : ∀ j, j < K → w.ownsRow 0 e sz (gs j) (qs j) (D j)
  le : K ≤ m
  sep : ∀ i j b, i < m → j < m → Has vs K gs i b → Has vs K gs j b → i = j
section
variable {e sz m : Nat} {vs : Nat → Value} {ns : Nat → Nat} {C : Nat → List Value} {K : Nat} {gs : Nat → Value} {qs : Nat → Nat} {D : Nat → List Value} {w w' : World}
theorem own_stays {base n : Nat} {v : Value} {xs : List Value} (h : w.ownsRow base e sz v n xs) (k : ∀ b, v.ownBlock = some b → w'.heap[b]? = w.heap[b]?) : w'.ownsRow base e sz v n xs := by
  refine ⟨h.1, ?_⟩
  rcases h.2 with q | ⟨g, cap, cur, rfl, r1, r2, r3⟩
  · exact .inl q
  · exact .inr ⟨g, cap, cur, rfl, r1, by rw [k g rfl]; exact r2, r3⟩
theorem own_ty {base n : Nat} {v : Value} {xs : List Value} (h : w.ownsRow base e sz v n xs) {b ty : Nat} {cs : Array Value} {fz : Nat × Nat} (hb : w.heap[b]? = some (.cells cs ty fz)) (ht : ty ≠ e) : v.ownBlock ≠ some b := by
  rcases h.2 with ⟨rfl, _⟩ | ⟨g, cap, cur, rfl, r1, r2, r3⟩
  · intro h; cases h
  · intro h
    have : g = b := by simpa [Value.ownBlock] using h
    subst this
    rw [hb] at r2
    simp only [Option.some.injEq, Obj.cells.injEq] at r2
    exact ht r2.2.1
theorem Fl.has_lt (h : Fl e sz m vs ns C K gs qs D w) {j b : Nat} (hj : j < m) (hb : Has vs K gs j b) : b < w.heap.size := by
  rcases hb with q | ⟨hk, q⟩
  · exact ((h.own j hj).lt b q).2
  · exact ((h.grown j hk).lt b q).2
theorem Fl.stays (h : Fl e sz m vs ns C K gs qs D w) (k : ∀ j b, j < m → Has vs K gs j b → w'.heap[b]? = w.heap[b]?) : Fl e sz m vs ns C K gs qs D w' :=
  ⟨fun j hj => own_stays (h.own j hj) fun b q => k j b hj (.inl q), fun j hj => own_stays (h.grown j hj) fun b q => k j b (Nat.lt_of_lt_of_le hj h.le) (.inr ⟨hj, q⟩), h.le, h.sep⟩
theorem Fl.below (h : Fl e sz m vs ns C K gs qs D w) (k : Below w.heap.size w w') : Fl e sz m vs ns C K gs qs D w' :=
  h.stays fun _ _ hj hb => k.block _ (h.has_lt hj hb)
theorem Fl.drop (h : Fl e sz m vs ns C K gs qs D w) (gs' : Nat → Value) (qs' : Nat → Nat) (D' : Nat → List Value) : Fl e sz m vs ns C 0 gs' qs' D' w :=
  ⟨h.own, fun j hj => absurd hj (Nat.not_lt_zero _), Nat.zero_le _, fun i j b hi hj h1 h2 => h.sep i j b hi hj (by
    rcases h1 with q | ⟨q, _⟩
    · exact .inl q
    · exact absurd q (Nat.not_lt_zero _)) (by
    rcases h2 with q | ⟨q, _⟩
    · exact .inl q
    · exact absurd q (Nat.not_lt_zero _))⟩
/-- No block of cells of another type is one of theirs. -/
theorem Fl.has_ty (h : Fl e sz m vs ns C K gs qs D w) {j b ty : Nat} {cs : Array Value} {fz : Nat × Nat} (hj : j < m) (hb : w.heap[b]? = some (.cells cs ty fz)) (ht : ty ≠ e) : ¬ Has vs K gs j b := by
  rintro (q | ⟨hk, q⟩)
  · exact own_ty (h.own j hj) hb ht q
  · exact own_ty (h.grown j hk) hb ht q
/-- A cell of one of the lists is written, before any has grown. -/
theorem Fl.store (h : Fl e sz m vs ns C 0 gs qs D w) {k g n c : Nat} (hk : k < m) (hv : vs k = .slice (some ⟨g, 0, none⟩) n c) (hn : ns k = n) (q : Nat) (u : Value) (C' : Nat → List Value) (hC : ∀ j, C' j = if j = k then (C k).set q u else C j) : Fl e sz m vs ns C' 0 gs qs D (w.setCell ⟨g, q, none⟩ u) := by
  refine ⟨fun j hj => ?_, fun j hj => absurd hj (Nat.not_lt_zero _), Nat.zero_le _, h.sep⟩
  rw [hC]
  by_cases hjk : j = k
  · subst hjk
    rw [if_pos rfl]
    have := h.own j hj
    rw [hv, hn] at this ⊢
    exact (World.ownsRow.stored this q u).1
  · rw [if_neg hjk]
    refine own_stays (h.own j hj) fun b hb => heap_setCell_other w ⟨g, q, none⟩ b u ?_
    intro e2
    exact hjk (h.sep j k b hj hk (.inl hb) (.inl (by rw [hv, e2]; rfl)))
/-- Behind an append onto the list that is growing. -/
theorem Fl.app (h : Fl e sz m vs ns C K gs qs D w) {k : Nat} (hk : k < m) (hkK : K ≤ k) {g v' : Value} {q : Nat} (hq : ns k ≤ q)
    (ha : ∀ j b, j < m → j ≠ k → Has vs K gs j b → g.ownBlock ≠ some b)
    (hgr : w.grownBy w' g.ownBlock) (hat : v'.ownBlock = g.ownBlock ∨ v'.ownBlock = some w.heap.size)
    (hkeep : ∀ b k u zs, w.ownsRow b e sz u k zs → u.ownBlock = g.ownBlock → k ≤ q → w'.ownsRow b e sz u k zs) :
    Fl e sz m vs ns C K gs qs D w' ∧ ∀ j b, j < m → j ≠ k → Has vs K gs j b → v'.ownBlock ≠ some b := by
  refine ⟨⟨fun j hj => ?_, fun j hj => ?_, h.le, h.sep⟩, fun j b hj hjk hb => ?_⟩
  · by_cases hjk : j = k
    · subst hjk
      by_cases he : (vs j).ownBlock = g.ownBlock
      · exact hkeep _ _ _ _ (h.own j hj) he hq
      · exact own_stays (h.own j hj) fun b hb => hgr.block b ((h.own j hj).lt b hb).2 (by rw [← hb]; exact he)
    · exact own_stays (h.own j hj) fun b hb => hgr.block b ((h.own j hj).lt b hb).2 (fun e2 => ha j b hj hjk (.inl hb) e2.symm)
  · have hjm := Nat.lt_of_lt_of_le hj h.le
    exact own_stays (h.grown j hj) fun b hb => hgr.block b ((h.grown j hj).lt b hb).2 (fun e2 => ha j b hjm (by omega) (.inr ⟨hj, hb⟩) e2.symm)
  · rcases hat with q | q
    · rw [q]; exact ha j b hj hjk hb
    · rw [q]
      intro e2
      have := h.has_lt hj hb
      simp only [Option.some.injEq] at e2
      omega
/-- The list that has grown is laid by. -/
theorem Fl.next (h : Fl e sz m vs ns C K gs qs D w) (hk : K < m) {g : Value} {q : Nat} {xs : List Value} (hg : w.ownsRow 0 e sz g q xs)
    (ha : ∀ j b, j < m → j ≠ K → Has vs K gs j b → g.ownBlock ≠ some b) :
    Fl e sz m vs ns C (K + 1) (fun j => if j = K then g else gs j) (fun j => if j = K then q else qs j) (fun j => if j = K then xs else D j) w := by
  have hh : ∀ j b, Has vs (K + 1) (fun j => if j = K then g else gs j) j b → Has vs K gs j b ∨ (j = K ∧ g.ownBlock = some b) := by
    rintro j b (q | ⟨hj, q⟩)
    · exact .inl (.inl q)
    · by_cases hjK : j = K
      · simp only [if_pos hjK] at q
        exact .inr ⟨hjK, q⟩
      · simp only [if_neg hjK] at q
        exact .inl (.inr ⟨by omega, q⟩)
  refine ⟨h.own, fun j hj => ?_, hk, fun i j b hi hj h1 h2 => ?_⟩
  · by_cases hjK : j = K
    · simp only [if_pos hjK]; exact hg
    · simp only [if_neg hjK]; exact h.grown j (by omega)
  · rcases hh i b h1 with q1 | ⟨rfl, q1⟩
    · rcases hh j b h2 with q2 | ⟨rfl, q2⟩
      · exact h.sep i j b hi hj q1 q2
      · by_cases hij : i = j
        · exact hij
        · exact absurd q2 (ha i b hi hij q1)
    · rcases hh j b h2 with q2 | ⟨rfl, q2⟩
      · by_cases hij : i = j
        · exact hij
        · exact absurd q1 (ha j b hj (Ne.symm hij) q2)
      · rfl
/-- What of the first world has not turned: all but the lists' own blocks. -/
structure Kv (vs : Nat → Value) (m : Nat) (W w : World) : Prop where
  os : w.os = W.os
  tape : w.tape = W.tape
  output : w.output = W.output
  size : W.heap.size ≤ w.heap.size
  block : ∀ b, b < W.heap.size → (∀ j, j < m → (vs j).ownBlock ≠ some b) → w.heap[b]? = W.heap[b]?
theorem Kv.refl (W : World) : Kv vs m W W := ⟨rfl, rfl, rfl, Nat.le_refl _, fun _ _ _ => rfl⟩
theorem Kv.trans {a b c : World} (h : Kv vs m a b) (k : Kv vs m b c) : Kv vs m a c :=
  ⟨k.os.trans h.os, k.tape.trans h.tape, k.output.trans h.output, Nat.le_trans h.size k.size, fun i hi hn => (k.block i (Nat.lt_of_lt_of_le hi h.size) hn).trans (h.block i hi hn)⟩
theorem Kv.below {a b c : World} (h : Kv vs m a b) (k : Below b.heap.size b c) : Kv vs m a c :=
  h.trans ⟨k.os, k.tape, k.output, k.size, fun i hi _ => k.block i hi⟩
theorem Kv.store {W : World} (h : Kv vs m W w) {k g : Nat} {n c : Nat} (hk : k < m) (hv : vs k = .slice (some ⟨g, 0, none⟩) n c) (q : Nat) (u : Value) : Kv vs m W (w.setCell ⟨g, q, none⟩ u) :=
  h.trans ⟨rfl, rfl, rfl, by simp [World.setCell], fun b _ hn => heap_setCell_other w ⟨g, q, none⟩ b u (fun e => hn k hk (by rw [hv, e]; rfl))⟩
theorem Kv.far {W : World} (h : Kv vs m W w) (g q : Nat) (u : Value) (hg : W.heap.size ≤ g) : Kv vs m W (w.setCell ⟨g, q, none⟩ u) :=
  ⟨h.os, h.tape, h.output, by rw [World.size_setCell]; exact h.size, fun b hb hn => by rw [heap_setCell_other w ⟨g, q, none⟩ b u (by show b ≠ g; omega)]; exact h.block b hb hn⟩
theorem Kv.app {W : World} (h : Kv vs m W w) {g : Value} {k : Nat} (hk : k < m) (hgr : w.grownBy w' g.ownBlock) (hf : ∀ b, g.ownBlock = some b → b < W.heap.size → (vs k).ownBlock = some b) : Kv vs m W w' :=
  ⟨hgr.os.trans h.os, hgr.tape.trans h.tape, hgr.output.trans h.output, Nat.le_trans h.size hgr.size, fun b hb hn => (hgr.block b (Nat.lt_of_lt_of_le hb h.size) (fun e => hn k hk (hf b e.symm hb))).trans (h.block b hb hn)⟩
theorem Kv.cell {W : World} (h : Kv vs m W w) {b o : Nat} {v : Value} (hc : W.cell? ⟨b, o, none⟩ = some v) (hn : ∀ j, j < m → (vs j).ownBlock ≠ some b) : w.cell? ⟨b, o, none⟩ = some v := by
  rw [World.cell?_of_block (a := ⟨b, o, none⟩) (h.block b (World.block_lt_of_cell? _ _ hc) hn)]; exact hc
end
end Go.Proofs.YtebhcadolnjplaaGreat
