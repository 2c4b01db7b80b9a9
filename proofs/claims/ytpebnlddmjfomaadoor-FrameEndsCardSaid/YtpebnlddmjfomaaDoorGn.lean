/- Frames of bytes, by definition. -/
import Derived.Test.YtpebnlddmjfomaaDoorGm
namespace Go.Proofs.YtpebnlddmjfomaaDoor
open Go.RowKit
/-- A row of frames of the call's own (row from base on, data from db on), its cells told. -/
def OwnC (e : Nat) (w : World) (base db : Nat) (A : Option Addr) (n c : Nat) (xs : List Fr) (cs : List Value) : Prop :=
  n = xs.length ∧ w.ownsRow base e 2 (.slice A n c) n cs ∧ ∀ j, j < xs.length → cs[j * 2]? = some (.int .i64 (atF xs j).kind) ∧ ∃ v, cs[j * 2 + 1]? = some v ∧ OwnN w db v (atF xs j).data ∧ (atF xs j).data.length ≤ 140737488351232
/-- No two rows of data share a block. -/
def Dis (cs : List Value) : Prop := ∀ i j vi vj b, i < j → cs[i * 2 + 1]? = some vi → cs[j * 2 + 1]? = some vj → vi.ownBlock = some b → vj.ownBlock ≠ some b
theorem dis_nil : Dis [] := fun _ _ _ _ _ _ h => by simp at h
theorem OwnC.nil (e : Nat) (w : World) (base db : Nat) : OwnC e w base db none 0 0 [] [] := ⟨rfl, World.ownsRow_nil _ _ _ _, fun _ hj => absurd hj (Nat.not_lt_zero _)⟩
theorem OwnC.len {e : Nat} {w : World} {base db n c : Nat} {A : Option Addr} {xs : List Fr} {cs : List Value} (h : OwnC e w base db A n c xs cs) : cs.length = n * 2 := h.2.1.1
theorem OwnC.ok {e : Nat} {w w' : World} {base db n c : Nat} {A : Option Addr} {xs : List Fr} {cs : List Value} (h : OwnC e w base db A n c xs cs) (k : Ok w w') : OwnC e w' base db A n c xs cs :=
  ⟨h.1, row_ok h.2.1 k, fun j hj => by obtain ⟨e1, v, e2, ho, hl⟩ := h.2.2 j hj; exact ⟨e1, v, e2, ho.ok k, hl⟩⟩
theorem OwnC.at {e : Nat} {w : World} {base db n c : Nat} {A : Option Addr} {xs : List Fr} {cs : List Value} (h : OwnC e w base db A n c xs cs) : FramesAt w A xs := fun j hj => by
  obtain ⟨hn, h1, h2⟩ := h
  obtain ⟨e1, v, e2, ho, hl⟩ := h2 j hj
  rcases h1.2 with ⟨_, h5⟩ | ⟨g, cap, cur, e, r⟩
  · omega
  · simp only [Value.slice.injEq] at e
    obtain ⟨rfl, -, rfl⟩ := e
    have hl2 := h1.1
    refine ⟨g, 0, rfl, ?_, v, ?_, ho.bytes hl⟩
    · rw [Nat.zero_add, World.ownsRow.cellAt h1 (j * 2) (by omega)]; exact e1
    · rw [Nat.zero_add, World.ownsRow.cellAt h1 (j * 2 + 1) (by omega)]; exact e2
theorem row_ty {w : World} {base e n : Nat} {v : Value} {cs : List Value} (h : w.ownsRow base e 2 v n cs) (he : e ≠ 5) {u : Value} {ys : List B8} {B : Nat} (hu : OwnN w B u ys) : ∀ k, v.ownBlock = some k → some k ≠ u.ownBlock := by
  intro k hk
  rcases h.2 with ⟨e2, _⟩ | ⟨g, cap, cur, e2, _, hg, _⟩
  · rw [e2] at hk; cases hk
  · rw [e2] at hk
    simp only [Value.ownBlock, Option.some.injEq] at hk
    subst hk
    exact hu.not_ty hg he
theorem OwnC.snoc {e : Nat} {w w' : World} {base db n c c' : Nat} {A A' : Option Addr} {xs : List Fr} {cs : List Value} {f : Fr} {v : Value} (h : OwnC e w base db A n c xs cs) (he : e ≠ 5) (hv : OwnN w db v f.data) (hfl : f.data.length ≤ 140737488351232)
    (g1 : w'.ownsRow base e 2 (.slice A' (n + 1) c') (n + 1) (cs ++ [.int .i64 f.kind, v])) (g2 : w.grownBy w' (Value.slice A n c).ownBlock) : OwnC e w' base db A' (n + 1) c' (xs ++ [f]) (cs ++ [.int .i64 f.kind, v]) := by
  have hl1 : cs.length = n * 2 := h.2.1.1
  obtain ⟨hn, h1, h2⟩ := h
  refine ⟨by simp [hn], g1, fun j hj => ?_⟩
  rw [List.length_append, List.length_singleton] at hj
  by_cases hjl : j < xs.length
  · obtain ⟨e1, u, e2, hu, hul⟩ := h2 j hjl
    have ea : atF (xs ++ [f]) j = atF xs j := by simp [atF, List.getD, List.getElem?_append_left hjl]
    rw [ea]
    exact ⟨by rw [List.getElem?_append_left (by omega)]; exact e1, u, by rw [List.getElem?_append_left (by omega)]; exact e2, hu.kept g2 (fun k hk => row_ty h1 he hu k hk), hul⟩
  · obtain rfl : j = xs.length := by omega
    have ea : atF (xs ++ [f]) xs.length = f := by simp [atF, List.getD]
    rw [ea]
    have e0 : xs.length * 2 = cs.length := by omega
    refine ⟨?_, v, ?_, hv.kept g2 (fun k hk => row_ty h1 he hv k hk), hfl⟩
    · rw [e0, List.getElem?_append_right (Nat.le_refl _), Nat.sub_self]; rfl
    · rw [e0, List.getElem?_append_right (by omega), Nat.add_sub_cancel_left]; rfl
theorem Dis.snoc {cs : List Value} {n : Nat} {k : Int} {v : Value} (h : Dis cs) (hl : cs.length = n * 2) (hf : ∀ i vi b, cs[i * 2 + 1]? = some vi → vi.ownBlock = some b → v.ownBlock ≠ some b) : Dis (cs ++ [.int .i64 k, v]) := by
  intro i j vi vj b hij hi hj hb
  have hjl : j * 2 + 1 < (cs ++ [Value.int .i64 k, v]).length := (List.getElem?_eq_some_iff.1 hj).1
  rw [List.length_append, hl] at hjl
  simp only [List.length_cons, List.length_nil] at hjl
  rw [List.getElem?_append_left (by omega)] at hi
  by_cases hjn : j < n
  · rw [List.getElem?_append_left (by omega)] at hj
    exact h i j vi vj b hij hi hj hb
  · obtain rfl : j = n := by omega
    rw [List.getElem?_append_right (by omega), hl, show j * 2 + 1 - j * 2 = 1 by omega] at hj
    obtain rfl : v = vj := by simpa using hj
    exact hf i vi b hi hb
theorem set2_heap {V : World} {g ty : Nat} {x0 y0 x y : Value} (h : V.heap[g]? = some (.cells #[x0, y0] ty (0, 0))) : ((V.setCell ⟨g, 0, none⟩ x).setCell ⟨g, 1, none⟩ y).heap[g]? = some (.cells #[x, y] ty (0, 0)) := by
  simp [World.setCell, Array.getElem?_modify, h]
theorem OwnN.far {V : World} {B g ty : Nat} {v : Value} {ys : List B8} {cs : Array Value} (h : OwnN V B v ys) (hg : V.heap[g]? = some (.cells cs ty (0, 0))) (ht : ty ≠ 5) (x y : Value) : OwnN ((V.setCell ⟨g, 0, none⟩ x).setCell ⟨g, 1, none⟩ y) B v ys := by
  refine own_stays h fun b hb => ?_
  have hne : b ≠ g := fun e => h.not_ty hg ht (by rw [hb, e])
  rw [heap_setCell_other _ ⟨g, 1, none⟩ b _ hne, heap_setCell_other _ ⟨g, 0, none⟩ b _ hne]
theorem OwnC.far {e : Nat} {V : World} {base db n c g ty : Nat} {A : Option Addr} {xs : List Fr} {cs : List Value} {cg : Array Value} (h : OwnC e V base db A n c xs cs) (hb : g < base) (hg : V.heap[g]? = some (.cells cg ty (0, 0))) (ht : ty ≠ 5) (x y : Value) : OwnC e ((V.setCell ⟨g, 0, none⟩ x).setCell ⟨g, 1, none⟩ y) base db A n c xs cs := by
  refine ⟨h.1, own_stays h.2.1 fun b hbk => ?_, fun j hj => ?_⟩
  · have hne : b ≠ g := by have := (World.ownsRow.lt h.2.1 b hbk).1; omega
    rw [heap_setCell_other _ ⟨g, 1, none⟩ b _ hne, heap_setCell_other _ ⟨g, 0, none⟩ b _ hne]
  · obtain ⟨e1, v, e2, ho, hl⟩ := h.2.2 j hj
    exact ⟨e1, v, e2, ho.far hg ht x y, hl⟩
theorem high_cut (A : Option Addr) (n c q : Nat) (xs : List B8) (hx : xs.length = n) (hq : q ≤ n) : ∃ A9 c9, (∀ wx, (Instr.slice 23 (.slice A n c) (some (.int .i64 (q : Int))) none none).run Tryd.prog wx = .ok (.slice A9 (n - q) c9) wx) ∧ ∀ w, BytesIn w (.slice A n c) xs → BytesIn w (.slice A9 (n - q) c9) (xs.drop q) :=
  ⟨_, _, fun wx => high23 A n c q hq wx, fun _ h => bytes_drop h (by omega)⟩
end Go.Proofs.YtpebnlddmjfomaaDoor
