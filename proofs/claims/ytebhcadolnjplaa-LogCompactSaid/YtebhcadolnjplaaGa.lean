/- Entries and logs in memory; what a change keeps. -/
import Derived.Test.YtebhcadolnjplaaFb
import Derived.Test.YtebhcadolnjplaaFa
import Derived.Maps.AppendAt
import Derived.Deep.MidRow
import Derived.Deep.DeepCutAuto
import Derived.Handy
import Derived.Maps.RangeWalk
namespace Go.Proofs.Ytebhcadolnjplaa
open Go.RowKit

/-- But for the blocks of S, what was there is as it was. -/
structure Kp (S : Nat → Prop) (w w' : World) : Prop where
  os : w'.os = w.os
  tape : w'.tape = w.tape
  output : w'.output = w.output
  size : w.heap.size ≤ w'.heap.size
  block : ∀ k, k < w.heap.size → ¬ S k → w'.heap[k]? = w.heap[k]?
theorem Kp.refl (S : Nat → Prop) (w : World) : Kp S w w := ⟨rfl, rfl, rfl, Nat.le_refl _, fun _ _ _ => rfl⟩
theorem Kp.of {S : Nat → Prop} {w w' : World} (k : Ok w w') : Kp S w w' := ⟨k.os, k.tape, k.output, k.size, fun j hj _ => k.block j hj⟩
theorem Kp.then {S S' : Nat → Prop} {a b d : World} (h : Kp S a b) (k : Kp S' b d) (hs : ∀ j, j < a.heap.size → S' j → S j) : Kp S a d :=
  ⟨k.os.trans h.os, k.tape.trans h.tape, k.output.trans h.output, Nat.le_trans h.size k.size, fun j hj hn =>
    (k.block j (Nat.lt_of_lt_of_le hj h.size) (fun e => hn (hs j hj e))).trans (h.block j hj hn)⟩
theorem Kp.ok {S : Nat → Prop} {a b d : World} (h : Kp S a b) (k : Ok b d) : Kp S a d := h.then (Kp.of (S := S) k) (fun _ _ e => e)
theorem Kp.set {S : Nat → Prop} {a b : World} (h : Kp S a b) {p : Nat} (hp : a.heap.size ≤ p ∨ S p) (o : Nat) (v : Value) : Kp S a (b.setCell ⟨p, o, none⟩ v) :=
  ⟨h.os, h.tape, h.output, by simpa [World.setCell] using h.size, fun j hj hn => by
    rw [heap_setCell_other b ⟨p, o, none⟩ j v (by show j ≠ p; intro e; subst e; rcases hp with q | q; exact absurd hj (by omega); exact hn q)]; exact h.block j hj hn⟩
theorem Kp.grown {S : Nat → Prop} {a b : World} {row : Option Nat} (k : a.grownBy b row) (hr : ∀ j, row = some j → S j) : Kp S a b :=
  ⟨k.os, k.tape, k.output, k.size, fun j hj hn => k.block j hj (fun e => hn (hr j e.symm))⟩
theorem Kp.below {S : Nat → Prop} {B : Nat} {a b : World} (k : Kp S a b) (hB : B ≤ a.heap.size) (hs : ∀ j, S j → B ≤ j) : Below B a b :=
  ⟨k.os, k.tape, k.output, k.size, fun j hj => k.block j (by omega) (fun e => by have := hs j e; omega)⟩
theorem Kp.cell {S : Nat → Prop} {a b : World} (h : Kp S a b) {g o : Nat} {v : Value} (hc : a.cell? ⟨g, o, none⟩ = some v) (hn : ¬ S g) : b.cell? ⟨g, o, none⟩ = some v := by
  rw [World.cell?_of_block (w := a) (h.block g (World.block_lt_of_cell? _ _ hc) hn)]; exact hc

/-- Where something lies, it lies in no block of S. -/
def Off (S : Nat → Prop) (v : Value) : Prop := ∀ b o n c, v = .slice (some ⟨b, o, none⟩) n c → 0 < n → ¬ S b
theorem Off.mono {S S' : Nat → Prop} {v : Value} (h : Off S v) (k : ∀ b, S' b → S b) : Off S' v := fun b o n c e h0 hs => h b o n c e h0 (k b hs)
theorem BytesIn.kp {S : Nat → Prop} {w w' : World} {v : Value} {xs : List B8} (h : BytesIn w v xs) (k : Kp S w w') (ho : Off S v) : BytesIn w' v xs := by
  rcases h with h | ⟨b, o, c, rfl, h1, h2, h3⟩
  · exact .inl h
  · exact .inr ⟨b, o, c, rfl, h1, h2, fun i hi => k.cell (h3 i hi) (ho b o _ c rfl (by omega))⟩
theorem InI.kp {S : Nat → Prop} {w w' : World} {v : Value} {xs : List Int} (h : InI w v xs) (k : Kp S w w') (ho : Off S v) : InI w' v xs := by
  rcases h with h | ⟨b, o, c, rfl, h1, h2, h3⟩
  · exact .inl h
  · exact .inr ⟨b, o, c, rfl, h1, h2, fun i hi => k.cell (h3 i hi) (ho b o _ c rfl (by omega))⟩
theorem BytesIn.lt {w : World} {v : Value} {xs : List B8} (h : BytesIn w v xs) {b o n c : Nat} (e : v = .slice (some ⟨b, o, none⟩) n c) (h0 : 0 < n) : b < w.heap.size := by
  rcases h with ⟨rfl, A, c', rfl, _⟩ | ⟨b', o', c', rfl, _, _, h3⟩
  · simp only [Value.slice.injEq] at e; omega
  · simp only [Value.slice.injEq, Option.some.injEq, Addr.mk.injEq] at e
    obtain ⟨⟨rfl, rfl, _⟩, rfl, rfl⟩ := e
    exact World.block_lt_of_cell? _ _ (h3 0 h0)
theorem InI.lt {w : World} {v : Value} {xs : List Int} (h : InI w v xs) {b o n c : Nat} (e : v = .slice (some ⟨b, o, none⟩) n c) (h0 : 0 < n) : b < w.heap.size := by
  rcases h with ⟨rfl, A, c', rfl, _⟩ | ⟨b', o', c', rfl, _, _, h3⟩
  · simp only [Value.slice.injEq] at e; omega
  · simp only [Value.slice.injEq, Option.some.injEq, Addr.mk.injEq] at e
    obtain ⟨⟨rfl, rfl, _⟩, rfl, rfl⟩ := e
    exact World.block_lt_of_cell? _ _ (h3 0 h0)
theorem OwnZ.off {w : World} {B : Nat} {v : Value} {xs : List Int} (h : OwnZ w B v xs) {S : Nat → Prop} (hs : ∀ b, S b → b < B) : Off S v := fun b o n c e _ hb => by
  have := (World.ownsRow.lt h b (by rw [e]; rfl)).1
  have := hs b hb
  omega
theorem OwnN.off {w : World} {B : Nat} {v : Value} {xs : List B8} (h : OwnN w B v xs) {S : Nat → Prop} (hs : ∀ b, S b → b < B) : Off S v := fun b o n c e _ hb => by
  have := (World.ownsRow.lt h b (by rw [e]; rfl)).1
  have := hs b hb
  omega

/-- An entry. -/
structure En where
  term : Int
  kind : Int
  cmd : List B8
  cfg : Cfg
/-- The cells of an entry. -/
structure ER where
  term : Int
  kind : Int
  A : Option Addr
  n : Nat
  c : Nat
  s : S4
def ER.cells (r : ER) : List Value := [.int .i64 r.term, .int .u8 r.kind, .slice r.A r.n r.c, .slice r.s.A0 r.s.n0 r.s.c0, .slice r.s.A1 r.s.n1 r.s.c1, .slice r.s.A2 r.s.n2 r.s.c2, .slice r.s.A3 r.s.n3 r.s.c3]
structure CfgOff (S : Nat → Prop) (s : S4) : Prop where
  o0 : Off S (.slice s.A0 s.n0 s.c0)
  o1 : Off S (.slice s.A1 s.n1 s.c1)
  o2 : Off S (.slice s.A2 s.n2 s.c2)
  o3 : Off S (.slice s.A3 s.n3 s.c3)
/-- These cells are that entry; what it holds lies in no block of S. -/
structure EnAt (S : Nat → Prop) (w : World) (r : ER) (e : En) : Prop where
  term : r.term = e.term
  kind : r.kind = e.kind
  cmd : BytesIn w (.slice r.A r.n r.c) e.cmd
  cfg : CfgAt w r.s e.cfg
  oc : Off S (.slice r.A r.n r.c)
  og : CfgOff S r.s
theorem CfgAt.kp {S : Nat → Prop} {w w' : World} {s : S4} {c : Cfg} (h : CfgAt w s c) (k : Kp S w w') (o : CfgOff S s) : CfgAt w' s c :=
  ⟨h.h0.kp k o.o0, h.h1.kp k o.o1, h.h2.kp k o.o2, h.h3.kp k o.o3⟩
theorem EnAt.kp {S S' : Nat → Prop} {w w' : World} {r : ER} {e : En} (h : EnAt S w r e) (k : Kp S' w w') (hs : ∀ b, S' b → S b) : EnAt S w' r e :=
  ⟨h.term, h.kind, h.cmd.kp k (h.oc.mono hs), h.cfg.kp k ⟨h.og.o0.mono hs, h.og.o1.mono hs, h.og.o2.mono hs, h.og.o3.mono hs⟩, h.oc, h.og⟩
theorem EnAt.ok {S : Nat → Prop} {w w' : World} {r : ER} {e : En} (h : EnAt S w r e) (k : Ok w w') : EnAt S w' r e := h.kp (S' := fun _ => False) (Kp.of k) (fun _ f => f.elim)
/-- Blocks that are not there yet may be added. -/
theorem EnAt.more {S S' : Nat → Prop} {w : World} {r : ER} {e : En} (h : EnAt S w r e) (hs : ∀ b, S' b → S b ∨ w.heap.size ≤ b) : EnAt S' w r e := by
  have hi : ∀ {v : Value} {xs : List Int}, InI w v xs → Off S v → Off S' v := fun hv ho b o n c e h0 hb => by
    rcases hs b hb with q | q
    · exact ho b o n c e h0 q
    · have := hv.lt e h0; omega
  refine ⟨h.term, h.kind, h.cmd, h.cfg, fun b o n c e h0 hb => ?_, ⟨hi h.cfg.h0 h.og.o0, hi h.cfg.h1 h.og.o1, hi h.cfg.h2 h.og.o2, hi h.cfg.h3 h.og.o3⟩⟩
  rcases hs b hb with q | q
  · exact h.oc b o n c e h0 q
  · have := h.cmd.lt e h0; omega
def en0 : En := ⟨0, 0, [], ⟨[], [], [], []⟩⟩
def er0 : ER := ⟨0, 0, none, 0, 0, ⟨none, 0, 0, none, 0, 0, none, 0, 0, none, 0, 0⟩⟩
def enA (l : List En) (j : Nat) : En := l.getD j en0
def erA (l : List ER) (j : Nat) : ER := l.getD j er0
theorem EnAt.zero (S : Nat → Prop) (w : World) : EnAt S w er0 en0 := by
  have hi : InI w (.slice none 0 0) [] := InI.nil w
  have ho : Off S (.slice none 0 0) := fun b o n c e => by simp at e
  exact ⟨rfl, rfl, BytesIn.nil w, ⟨hi, hi, hi, hi⟩, ho, ⟨ho, ho, ho, ho⟩⟩
def flat7 (l : List ER) : List Value := l.flatMap ER.cells
theorem flat7_append (a b : List ER) : flat7 (a ++ b) = flat7 a ++ flat7 b := by simp [flat7]
theorem flat7_len (l : List ER) : (flat7 l).length = l.length * 7 := by
  induction l with
  | nil => rfl
  | cons r l ih => simp only [flat7, List.flatMap_cons, List.length_append, List.length_cons] at ih ⊢; rw [ih]; simp [ER.cells]; omega
theorem flat7_take (l : List ER) (k : Nat) : flat7 (l.take k) = (flat7 l).take (k * 7) := by
  induction l generalizing k with
  | nil => simp [flat7]
  | cons r l ih =>
    cases k with
    | zero => simp [flat7]
    | succ k =>
      have e : (k + 1) * 7 = r.cells.length + k * 7 := by simp [ER.cells]; omega
      simp only [flat7, List.take_succ_cons, List.flatMap_cons] at ih ⊢
      rw [e, List.take_append, ih]
      simp only [Nat.add_sub_cancel_left]
      have q : List.take (r.cells.length + k * 7) r.cells = r.cells := List.take_of_length_le (by omega)
      rw [q]
theorem flat7_at (l : List ER) (j k : Nat) (hj : j < l.length) (hk : k < 7) : (flat7 l)[j * 7 + k]? = (erA l j).cells[k]? := by
  induction l generalizing j with
  | nil => simp at hj
  | cons r l ih =>
    have hl : r.cells.length = 7 := rfl
    cases j with
    | zero =>
      simp only [flat7, List.flatMap_cons, erA]
      rw [List.getElem?_append_left (by rw [hl]; omega)]
      simp
    | succ j =>
      simp only [flat7, List.flatMap_cons] at ih ⊢
      rw [List.getElem?_append_right (by rw [hl]; omega), hl, show (j + 1) * 7 + k - 7 = j * 7 + k from by omega]
      rw [show erA (r :: l) (j + 1) = erA l j from by simp [erA]]
      exact ih j (by simpa using hj)
theorem flat7_one (l : List ER) : ∀ v ∈ flat7 l, v.oneCell' = true := by
  intro v hv
  obtain ⟨r, _, h⟩ := List.mem_flatMap.1 hv
  simp only [ER.cells, List.mem_cons, List.not_mem_nil, or_false] at h
  rcases h with rfl | rfl | rfl | rfl | rfl | rfl | rfl <;> rfl
end Go.Proofs.Ytebhcadolnjplaa
