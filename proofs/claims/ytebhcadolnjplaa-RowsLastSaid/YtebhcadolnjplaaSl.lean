/- Rows: the rows that a span has, taken out of a table. -/
import Derived.Test.YtebhcadolnjplaaSk
namespace Go.Proofs.Ytebhcadolnjplaa
open Go.RowKit

/-- Nothing old has changed but the block p and that of r. -/
structure K2 (p : Nat) (r : Option Nat) (w w' : World) : Prop where
  os : w'.os = w.os
  tape : w'.tape = w.tape
  output : w'.output = w.output
  size : w.heap.size ≤ w'.heap.size
  block : ∀ k, k < w.heap.size → k ≠ p → some k ≠ r → w'.heap[k]? = w.heap[k]?
theorem OwnR.k2 {p : Nat} {r : Option Nat} {w w' : World} {B : Nat} {A : Option Addr} {n c : Nat} {l : List Rw} (h : OwnR w B A n c l) (k : K2 p r w w') (hp : ∀ a, A = some a → a.block ≠ p ∧ some a.block ≠ r) : OwnR w' B A n c l :=
  ⟨h.1, h.2.1, by
    rcases h.2.2 with q | ⟨g, cap, cur, e1, e2, e3, e4⟩
    · exact .inl q
    · simp only [Value.slice.injEq] at e1
      obtain ⟨h1, h2⟩ := hp _ e1.1
      exact .inr ⟨g, cap, cur, by rw [e1.1, e1.2.2], e2, by rw [k.block g (Array.getElem?_eq_some_iff.1 e3).1 h1 h2]; exact e3, e4⟩⟩
def DropP (s : Sp) (p : Nat) (A : Option Addr) (n c : Nat) (l : List Rw) (W : World) (e : Ending) (w' : World) : Prop :=
  e = .returned (.tuple #[]) ∧ TabAt p A (stay s l).length c (stay s l) w' ∧ K2 p (Value.slice A n c).ownBlock W w'
set_option maxRecDepth 100000 in
theorem drop_f (s : Sp) (z p : Nat) (A : Option Addr) (n c : Nat) (l : List Rw) (W : World) (h : TabAt p A n c l W) (hn : n ≤ 1000) (z0 : W.cell? ⟨z, 0, none⟩ = some (.string s.lo)) (z1 : W.cell? ⟨z, 1, none⟩ = some (.string s.hi)) (hz : ∀ a, A = some a → z ≠ a.block) :
    Calls Try.prog 88 #[.pointer (some ⟨p, 0, none⟩), .func (.func 137) #[] #[.pointer (some ⟨z, 0, none⟩)]] W (DropP s p A n c l W) := by
  have c0 := h.c0
  have hd := delR_f s z 0 A n c l W h.own (Nat.le_trans hn (by decide)) z0 z1 hz
  have HT := Lib.hid h
  have HPO : Hid (some p ≠ (Value.slice A n c).ownBlock) := Lib.hid (fun e => by
    cases A with
    | none => cases e
    | some a => simp only [Value.ownBlock, Option.some.injEq] at e; exact h.ne a rfl e.symm)
  clear h hn z0 z1 hz
  go_enter Try.func88, Try.ntmps88
  go_wp2_with fail
  refine hd.mono ?_
  clear hd
  rintro _ w1 ⟨rfl, hown, hg⟩
  have HOWN := Lib.hid hown
  have HG := Lib.hid hg
  clear hown hg
  have d0 := HG.out.cell c0 HPO.out
  have HC1 : Hid (w1.cell? ⟨p, 1, none⟩ = some (.bool true)) := Lib.hid (HG.out.cell HT.out.c1 HPO.out)
  have HF : Hid (∀ j, w1.frozen? ⟨p, j, none⟩ = false) := Lib.hid (fun j => by
    rw [World.frozen?_of_block (w := W) (HG.out.block p HT.out.lt HPO.out)]; exact HT.out.f j)
  have f0 := HF.out 0
  clear c0
  go_wp2_with fail
  refine bodyPost_end (v := .tuple #[]) (by simp [results, Try.results88, go_sem]; try rfl) rfl ?_
  refine ⟨rfl, ⟨World.cell?_setCell_same _ _ _ d0, ?_, ?_, ?_, HT.out.ne⟩, ⟨HG.out.os, HG.out.tape, HG.out.output, by simp only [World.size_setCell]; exact HG.out.size, fun j hj h1 h2 => ?_⟩⟩
  · rw [World.cell?_setCell_other _ _ _ _ (fun e => by simp at e)]; exact HC1.out
  · intro j
    rw [World.frozen?_setCell]; exact HF.out j
  · refine ⟨HOWN.out.1, HOWN.out.2.1, ?_⟩
    rcases HOWN.out.2.2 with q | ⟨g, cap, cur, e1, e2, e3, e4⟩
    · exact .inl q
    · have hgp : g ≠ p := by
        simp only [Value.slice.injEq] at e1
        exact HT.out.ne _ e1.1
      exact .inr ⟨g, cap, cur, e1, e2, by rw [Below.heap_setCell _ ⟨p, 0, none⟩ _ g hgp]; exact e3, e4⟩
  · rw [Below.heap_setCell _ ⟨p, 0, none⟩ _ j h1]; exact HG.out.block j hj h2
end Go.Proofs.Ytebhcadolnjplaa
