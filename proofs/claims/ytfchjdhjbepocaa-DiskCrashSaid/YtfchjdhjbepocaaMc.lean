/- A disk in memory: its struct, its map, its files' bytes, what waits. -/
import Derived.Test.YtfchjdhjbepocaaMb
import Derived.WalkKit
import Derived.WalkSpells
import Derived.WalkLawsBesides
import Derived.RegionTactic
import Derived.ChangeAlike
import Derived.BigRegion
import Derived.Deep.QuietTactic
import Derived.BigQuiet
import Derived.Lib.Hide
import Derived.Laws.AppendOwnNone
import Derived.Laws.OwnMore
import Derived.Deep.Onto
import Derived.Below
namespace Go.Proofs.Ytfchjdhjbepocaa
open Go.RowKit

def ub (b : B8) : Int := b.toNat
theorem ub_lo (b : B8) : 0 ≤ ub b := Int.natCast_nonneg _
theorem ub_hi (b : B8) : ub b < 256 := by have := b.isLt; unfold ub; omega
def bv (b : B8) : Value := .int .u8 (ub b)
theorem ub_eq (a b : B8) : (ub a == ub b) = (a == b) := by
  by_cases h : a = b
  · subst h; rw [beq_self_eq_true, beq_self_eq_true]
  · have : ub a ≠ ub b := fun e => h (BitVec.eq_of_toNat_eq (by unfold ub at e; omega))
    rw [beq_eq_false_iff_ne.2 this, beq_eq_false_iff_ne.2 h]
/-- Below the blocks of w nothing has turned. -/
def Ok (w w' : World) : Prop := Below w.heap.size w w'
theorem Ok.refl (w : World) : Ok w w := Below.refl _ _
theorem Ok.drew {w w' : World} (h : Ok w w') : Ok w w'.drew := Below.drew h
theorem Ok.alloc {w w' : World} (h : Ok w w') (o : Obj) : Ok w (w'.alloc o) := Below.alloc h (Below.size h) o
theorem Ok.call {w w' w'' : World} (h : Ok w w') (k : Below w'.heap.size w' w'') : Ok w w'' := Below.trans h (k.mono (Below.size h))
theorem Ok.trans {w w' w'' : World} (h : Ok w w') (k : Ok w' w'') : Ok w w'' := h.call k
theorem Ok.cell {w w' : World} {a : Addr} {v : Value} (h : Ok w w') (hc : w.cell? a = some v) : w'.cell? a = some v := by
  rw [Below.cell h (World.block_lt_of_cell? _ _ hc)]; exact hc
theorem ok_le {w w' : World} (h : Ok w w') : w.heap.size ≤ w'.heap.size := Below.size h
theorem ok_blk {w w' : World} (h : Ok w w') {b : Nat} {o : Obj} (hb : w.heap[b]? = some o) : w'.heap[b]? = some o := (h.block b (Array.getElem?_eq_some_iff.1 hb).1).trans hb
theorem ok_grown {w w' : World} {r : Option Nat} (k : w.grownBy w' r) (hr : ∀ j, r = some j → w.heap.size ≤ j) : Ok w w' := ⟨k.os, k.tape, k.output, k.size, fun j hj => k.block j hj (fun e => by have := hr j e.symm; omega)⟩
abbrev Ret (w : World) (v : Value) : Ending → World → Prop := fun e w' => e = .returned v ∧ Ok w w'
/-- What lies in the blocks of S may turn; what w has else stays. -/
structure Kp (S : Nat → Prop) (w w' : World) : Prop where
  os : w'.os = w.os
  tape : w'.tape = w.tape
  output : w'.output = w.output
  size : w.heap.size ≤ w'.heap.size
  block : ∀ j, j < w.heap.size → ¬ S j → w'.heap[j]? = w.heap[j]?
theorem Kp.refl (S : Nat → Prop) (w : World) : Kp S w w := ⟨rfl, rfl, rfl, Nat.le_refl _, fun _ _ _ => rfl⟩
theorem Kp.of {S : Nat → Prop} {w w' : World} (k : Ok w w') : Kp S w w' := ⟨k.os, k.tape, k.output, k.size, fun j hj _ => k.block j hj⟩
theorem Kp.then {S S' : Nat → Prop} {a b d : World} (h : Kp S a b) (k : Kp S' b d) (hs : ∀ j, j < a.heap.size → S' j → S j) : Kp S a d :=
  ⟨k.os.trans h.os, k.tape.trans h.tape, k.output.trans h.output, Nat.le_trans h.size k.size, fun j hj hn =>
    (k.block j (Nat.lt_of_lt_of_le hj h.size) (fun e => hn (hs j hj e))).trans (h.block j hj hn)⟩
theorem Kp.ok {S : Nat → Prop} {a b d : World} (h : Kp S a b) (k : Ok b d) : Kp S a d := h.then (Kp.of (S := S) k) (fun _ _ e => e)
theorem Kp.set {S : Nat → Prop} {a b : World} (h : Kp S a b) {p : Nat} (hp : a.heap.size ≤ p ∨ S p) (o : Nat) (v : Value) : Kp S a (b.setCell ⟨p, o, none⟩ v) :=
  ⟨h.os, h.tape, h.output, by simpa [World.setCell] using h.size, fun j hj hn => by
    rw [heap_setCell_other b ⟨p, o, none⟩ j v (by show j ≠ p; intro e; subst e; rcases hp with q | q; exact absurd hj (by omega); exact hn q)]; exact h.block j hj hn⟩
theorem Kp.grown {S : Nat → Prop} {a b : World} {row : Option Nat} (k : a.grownBy b row) (hr : ∀ j, row = some j → S j ∨ a.heap.size ≤ j) : Kp S a b :=
  ⟨k.os, k.tape, k.output, k.size, fun j hj hn => k.block j hj (fun e => by rcases hr j e.symm with q | q; exact hn q; omega)⟩
theorem Kp.mono {S S' : Nat → Prop} {a b : World} (k : Kp S a b) (h : ∀ j, j < a.heap.size → S j → S' j) : Kp S' a b := ⟨k.os, k.tape, k.output, k.size, fun j hj hn => k.block j hj fun e => hn (h j hj e)⟩
theorem Kp.toOk {S : Nat → Prop} {a b : World} (k : Kp S a b) (h : ∀ j, S j → a.heap.size ≤ j) : Ok a b := ⟨k.os, k.tape, k.output, k.size, fun j hj => k.block j hj fun e => by have := h j e; omega⟩
theorem Kp.cell {S : Nat → Prop} {a b : World} (h : Kp S a b) {g o : Nat} {v : Value} (hc : a.cell? ⟨g, o, none⟩ = some v) (hn : ¬ S g) : b.cell? ⟨g, o, none⟩ = some v := by
  rw [World.cell?_of_block (w := a) (h.block g (World.block_lt_of_cell? _ _ hc) hn)]; exact hc

/-- A row of bytes of the call's own. -/
def OwnN (w : World) (v : Value) (xs : List B8) : Prop := w.ownsRow 0 5 1 v xs.length (xs.map bv)
structure Sl where
  A : Option Addr
  n : Nat
  c : Nat
def Sl.v (s : Sl) : Value := .slice s.A s.n s.c
def sl0 : Sl := ⟨none, 0, 0⟩
def pcs (l : List Pc) : List Value := l.flatMap fun p => [.string p.1, .int .i64 (p.2 : Int)]
def OwnPc (w : World) (s : Sl) (l : List Pc) : Prop := w.ownsRow 0 105 2 s.v l.length (pcs l)
def sep (u v : Value) : Prop := ∀ j, u.ownBlock = some j → v.ownBlock ≠ some j
theorem sep.symm {u v : Value} (h : sep u v) : sep v u := fun j hj e => h j e hj
def All2 {α β : Type} (R : α → β → Prop) : List α → List β → Prop
  | [], [] => True
  | a :: l, b :: m => R a b ∧ All2 R l m
  | [], _ :: _ => False
  | _ :: _, [] => False
/-- Files in memory, each in a block of its own. -/
structure FilesIn (w : World) (vs : Tb Sl) (fs : Tb (List B8)) : Prop where
  each : All2 (fun (v : Str × Sl) (f : Str × List B8) => v.1 = f.1 ∧ OwnN w v.2.v f.2) vs fs
  apart : vs.Pairwise fun a b => sep a.2.v b.2.v
def mvs (vs : Tb Sl) : Tb Value := vs.map fun q => (q.1, q.2.v)
/-- A disk at block p. -/
structure DkAt (p : Nat) (D : Dk) (pv : Sl) (mb : Nat) (vs : Tb Sl) (w : World) : Prop where
  st : w.heap[p]? = some (.cells #[pv.v, .int .i64 D.size, .map (some mb)] 57 (0, 0))
  ps : OwnPc w pv D.ps
  mp : MapV w mb (mvs vs)
  fs : FilesIn w vs D.fs
  inv : D.Inv
def Blk (p : Nat) (pv : Sl) (mb : Nat) (vs : Tb Sl) (b : Nat) : Prop := b = p ∨ b = mb ∨ pv.v.ownBlock = some b ∨ ∃ q, q ∈ vs ∧ q.2.v.ownBlock = some b
def DkS (p : Nat) (D : Dk) (S : Nat → Prop) (w : World) : Prop := ∃ pv mb vs, DkAt p D pv mb vs w ∧ ∀ b, Blk p pv mb vs b → S b
def New (S : Nat → Prop) (w : World) (b : Nat) : Prop := S b ∨ w.heap.size ≤ b

theorem blk_eq {w w' : World} {e sz n : Nat} {v : Value} {xs : List Value} {B : Nat} (h : w.ownsRow B e sz v n xs) (k : ∀ g, v.ownBlock = some g → w'.heap[g]? = w.heap[g]?) : w'.ownsRow B e sz v n xs := by
  refine ⟨h.1, ?_⟩
  rcases h.2 with q | ⟨g, cap, cur, rfl, hb, hg, rest⟩
  · exact .inl q
  · exact .inr ⟨g, cap, cur, rfl, hb, (k g rfl).trans hg, rest⟩
theorem owns_ty {w : World} {e sz n B g : Nat} {v : Value} {xs : List Value} (h : w.ownsRow B e sz v n xs) (hv : v.ownBlock = some g) : ∃ cur, w.heap[g]? = some (.cells cur e (0, 0)) := by
  rcases h.2 with ⟨rfl, _⟩ | ⟨g', cap, cur, rfl, _, hg, _⟩
  · cases hv
  · cases hv; exact ⟨cur, hg⟩
theorem owns_lt {w : World} {e sz n B g : Nat} {v : Value} {xs : List Value} (h : w.ownsRow B e sz v n xs) (hv : v.ownBlock = some g) : g < w.heap.size := by
  obtain ⟨cur, hg⟩ := owns_ty h hv
  exact (Array.getElem?_eq_some_iff.1 hg).1
theorem All2.mono {α β : Type} {R R' : α → β → Prop} : ∀ {l : List α} {m : List β}, All2 R l m → (∀ a, a ∈ l → ∀ b, R a b → R' a b) → All2 R' l m
  | [], [], _, _ => trivial
  | a :: _, _ :: _, h, k => ⟨k a (List.mem_cons_self ..) _ h.1, All2.mono h.2 fun x hx => k x (List.mem_cons_of_mem _ hx)⟩
  | [], _ :: _, h, _ => h
  | _ :: _, [], h, _ => h
theorem All2.find {α β : Type} {R : α → β → Prop} : ∀ {l : List α} {m : List β}, All2 R l m → ∀ {a}, a ∈ l → ∃ b, b ∈ m ∧ R a b
  | a :: l, b :: m, h, x, hx => by
    rcases List.mem_cons.1 hx with rfl | hx
    · exact ⟨b, List.mem_cons_self .., h.1⟩
    · obtain ⟨c, hc, r⟩ := h.2.find hx
      exact ⟨c, List.mem_cons_of_mem _ hc, r⟩
  | [], _, _, _, hx => by cases hx
  | _ :: _, [], h, _, _ => h.elim
theorem FilesIn.kept {w w' : World} {vs : Tb Sl} {fs : Tb (List B8)} (h : FilesIn w vs fs) (k : ∀ q, q ∈ vs → ∀ g, q.2.v.ownBlock = some g → w'.heap[g]? = w.heap[g]?) : FilesIn w' vs fs :=
  ⟨h.each.mono fun a ha _ hab => ⟨hab.1, blk_eq hab.2 (k a ha)⟩, h.apart⟩
theorem FilesIn.own {w : World} {vs : Tb Sl} {fs : Tb (List B8)} (h : FilesIn w vs fs) {q : Str × Sl} (hq : q ∈ vs) : ∃ f, f ∈ fs ∧ q.1 = f.1 ∧ OwnN w q.2.v f.2 := h.each.find hq
theorem DkAt.kept {p : Nat} {D : Dk} {pv : Sl} {mb : Nat} {vs : Tb Sl} {w w' : World} (h : DkAt p D pv mb vs w) (k : ∀ b, Blk p pv mb vs b → w'.heap[b]? = w.heap[b]?) : DkAt p D pv mb vs w' :=
  ⟨(k p (.inl rfl)).trans h.st, blk_eq h.ps fun g e => k g (.inr (.inr (.inl e))), h.mp.block (k mb (.inr (.inl rfl))), h.fs.kept fun q hq g e => k g (.inr (.inr (.inr ⟨q, hq, e⟩))), h.inv⟩
theorem DkAt.lt {p : Nat} {D : Dk} {pv : Sl} {mb : Nat} {vs : Tb Sl} {w : World} (h : DkAt p D pv mb vs w) {b : Nat} (hb : Blk p pv mb vs b) : b < w.heap.size := by
  rcases hb with rfl | rfl | e | ⟨q, hq, e⟩
  · exact (Array.getElem?_eq_some_iff.1 h.st).1
  · exact h.mp.lt
  · exact owns_lt h.ps e
  · obtain ⟨f, _, _, ho⟩ := h.fs.own hq
    exact owns_lt ho e
theorem DkAt.ok {p : Nat} {D : Dk} {pv : Sl} {mb : Nat} {vs : Tb Sl} {w w' : World} (h : DkAt p D pv mb vs w) (k : Ok w w') : DkAt p D pv mb vs w' := h.kept fun b hb => k.block b (h.lt hb)
theorem DkS.ok {p : Nat} {D : Dk} {S : Nat → Prop} {w w' : World} (h : DkS p D S w) (k : Ok w w') : DkS p D S w' := by
  obtain ⟨pv, mb, vs, h, hs⟩ := h
  exact ⟨pv, mb, vs, h.ok k, hs⟩
theorem DkS.off {p : Nat} {D : Dk} {S S' : Nat → Prop} {w w' : World} (h : DkS p D S w) (k : Kp S' w w') (ha : ∀ b, S b → ¬ S' b) : DkS p D S w' := by
  obtain ⟨pv, mb, vs, h, hs⟩ := h
  exact ⟨pv, mb, vs, h.kept fun b hb => k.block b (h.lt hb) (ha b (hs b hb)), hs⟩
theorem DkS.mono {p : Nat} {D : Dk} {S S' : Nat → Prop} {w : World} (h : DkS p D S w) (k : ∀ b, S b → S' b) : DkS p D S' w := by
  obtain ⟨pv, mb, vs, h, hs⟩ := h
  exact ⟨pv, mb, vs, h, fun b hb => k b (hs b hb)⟩
theorem pcs_len (l : List Pc) : (pcs l).length = l.length * 2 := by
  induction l with
  | nil => rfl
  | cons p l ih => simp only [pcs, List.flatMap_cons, List.length_append, List.length_cons, List.length_nil] at ih ⊢; omega
theorem pcs_append (a b : List Pc) : pcs (a ++ b) = pcs a ++ pcs b := by simp [pcs]
def pc0 : Pc := (ByteArray.empty, 0)
def pcA (l : List Pc) (j : Nat) : Pc := l.getD j pc0
theorem pcs_at (l : List Pc) (j : Nat) (hj : j < l.length) : (pcs l)[j * 2]? = some (.string (pcA l j).1) ∧ (pcs l)[j * 2 + 1]? = some (.int .i64 ((pcA l j).2 : Int)) := by
  induction l generalizing j with
  | nil => simp at hj
  | cons p l ih =>
    cases j with
    | zero => exact ⟨rfl, rfl⟩
    | succ j =>
      have h := ih j (by simpa using hj)
      have e : pcs (p :: l) = .string p.1 :: .int .i64 (p.2 : Int) :: pcs l := rfl
      rw [e, show (j + 1) * 2 = j * 2 + 1 + 1 from by omega]
      refine ⟨?_, ?_⟩
      · rw [List.getElem?_cons_succ, List.getElem?_cons_succ]; exact h.1
      · rw [List.getElem?_cons_succ, List.getElem?_cons_succ]; exact h.2
/-- Reading what waits. -/
theorem OwnPc.cells {w : World} {A : Option Addr} {n c : Nat} {l : List Pc} (h : OwnPc w ⟨A, n, c⟩ l) : n = l.length ∧ (l.length = 0 ∨ ∃ g, A = some ⟨g, 0, none⟩ ∧ ∀ j, j < l.length → w.cell? ⟨g, j * 2, none⟩ = some (.string (pcA l j).1) ∧ w.cell? ⟨g, j * 2 + 1, none⟩ = some (.int .i64 ((pcA l j).2 : Int))) := by
  have h0 := h
  unfold OwnPc Sl.v at h
  rcases h.2 with ⟨e, q⟩ | ⟨g, cap, cur, e, _, hg, hn, _⟩
  · simp only [Value.slice.injEq] at e
    exact ⟨by omega, .inl q⟩
  · simp only [Value.slice.injEq] at e
    obtain ⟨rfl, rfl, rfl⟩ := e
    refine ⟨rfl, .inr ⟨g, rfl, fun j hj => ?_⟩⟩
    have k := pcs_at l j hj
    rw [World.ownsRow.cellAt h (j * 2) (by show j * 2 < l.length * 2; omega), World.ownsRow.cellAt h (j * 2 + 1) (by show j * 2 + 1 < l.length * 2; omega)]
    exact k
end Go.Proofs.Ytfchjdhjbepocaa
