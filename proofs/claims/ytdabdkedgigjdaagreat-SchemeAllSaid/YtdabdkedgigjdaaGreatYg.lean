/- A step of a handoff. -/
import Derived.Test.YtdabdkedgigjdaaGreatYd
import Derived.Test.YtdabdkedgigjdaaGreatYf
import Derived.Deep.RegionHeld3
namespace Go.Proofs.YtdabdkedgigjdaaGreat
open Go.RowKit

/-- What a step tells. -/
def StepQ (w : World) (ep : Int) (xs : List Sh) (x : Sc) (to : Int) : Ending → World → Prop :=
  if (scB x && sharesB ep xs) = false then StepP w 2 sc0 0 [] else if x.st = to then StepP w 0 x ep xs else if goesB x.st to = false then StepP w 26 sc0 0 [] else if to = 4 then TurnP w ep xs x else StepP w 0 { x with st := to } ep xs
theorem TurnP.laid {w : World} {ep : Int} {xs : List Sh} {x : Sc} {e : Ending} {w' : World} (h : TurnP w ep xs x e w') : ∃ k y ep' ys, StepP w k y ep' ys e w' ∧ ∀ w0 : World, StepP w0 k y ep' ys = TurnP w0 ep xs x := by
  unfold TurnP at h
  split at h
  · rename_i h1
    exact ⟨_, _, _, _, h, fun w0 => by unfold TurnP; rw [if_pos h1]⟩
  · rename_i h1
    exact ⟨_, _, _, _, h, fun w0 => by unfold TurnP; rw [if_neg h1]⟩
theorem scs_one (w : World) (x : Sc) : ScsAt (w.alloc (.cells #[.int .i64 x.num, .string x.sp.lo, .string x.sp.hi, .int .i64 x.fr, .int .i64 x.to, .int .i64 x.ep, .int .i64 x.un, .int .u8 x.st] 52)) (some ⟨w.heap.size, 0, none⟩) [x] := fun j hj => by
  have hj2 : j < 1 := hj
  obtain rfl : j = 0 := by omega
  refine ⟨_, _, rfl, ?_⟩
  show ScIn _ _ 0 x
  unfold ScIn
  refine ⟨?_, ?_, ?_, ?_, ?_, ?_, ?_, ?_⟩ <;> go_cell

def cellOf (w : World) (g o : Nat) : Value := (w.cell? ⟨g, o, none⟩).getD undef
theorem cellOf_some {w : World} {g o : Nat} (h : ∃ u, w.cell? ⟨g, o, none⟩ = some u) : w.cell? ⟨g, o, none⟩ = some (cellOf w g o) := by
  obtain ⟨u, h⟩ := h
  unfold cellOf; rw [h]; rfl
/-- What stands while the last region of a step is gone through. -/
structure Pk (p : Nat) (x : Sc) (ep : Int) (v : Value) (w : World) : Prop where
  x : Sc8 w p x
  s0 : w.cell? ⟨p + 1, 0, none⟩ = some (.int .i64 ep)
  s1 : w.cell? ⟨p + 1, 1, none⟩ = some v
  r : ∀ j, j < 8 → ∃ u, w.cell? ⟨p + 1 + 1, j, none⟩ = some u
  t : ∀ j, j < 2 → ∃ u, w.cell? ⟨p + 1 + 1 + 1, j, none⟩ = some u
  fr : Fz w (p + 1 + 1) 8
  ft : Fz w (p + 1 + 1 + 1) 2
theorem Pk.ok {p : Nat} {x : Sc} {ep : Int} {v : Value} {w w' : World} (h : Pk p x ep v w) (k : Ok w w') : Pk p x ep v w' where
  x := h.x.ok k
  s0 := Ok.cell k h.s0
  s1 := Ok.cell k h.s1
  r := fun j hj => by obtain ⟨u, hu⟩ := h.r j hj; exact ⟨u, Ok.cell k hu⟩
  t := fun j hj => by obtain ⟨u, hu⟩ := h.t j hj; exact ⟨u, Ok.cell k hu⟩
  fr := by obtain ⟨u, hu⟩ := h.r 0 (by decide); exact h.fr.ok hu k
  ft := by obtain ⟨u, hu⟩ := h.t 0 (by decide); exact h.ft.ok hu k
theorem frz8 {W : World} {p b n : Nat} {y : Sc} (h : Fz W b n) : Fz (put8 W p y) b n := fun j hj => by unfold put8; simp only [World.frozen?_setCell]; exact h j hj
theorem frz2 {W : World} {p b n : Nat} {u v : Value} (h : Fz W b n) : Fz (put2 W p u v) b n := fun j hj => by unfold put2; simp only [World.frozen?_setCell]; exact h j hj
theorem ex_set {W : World} {p b i j : Nat} {v : Value} (h : ∃ u, W.cell? ⟨b, j, none⟩ = some u) : ∃ u, (W.setCell ⟨p, i, none⟩ v).cell? ⟨b, j, none⟩ = some u := by
  obtain ⟨u, hu⟩ := h
  by_cases hb : b = p
  · subst hb; exact ⟨_, cell_set _ _ i j _ _ hu⟩
  · exact ⟨u, other hb hu⟩
theorem Pk.put8 {p : Nat} {x y : Sc} {ep : Int} {v : Value} {w : World} (h : Pk p x ep v w) : Pk p x ep v (put8 w (p + 1 + 1) y) where
  x := h.x.put8' (by omega)
  s0 := other8 (by omega) h.s0
  s1 := other8 (by omega) h.s1
  r := fun j hj => ex_set (ex_set (ex_set (ex_set (ex_set (ex_set (ex_set (ex_set (h.r j hj))))))))
  t := fun j hj => ex_set (ex_set (ex_set (ex_set (ex_set (ex_set (ex_set (ex_set (h.t j hj))))))))
  fr := frz8 h.fr
  ft := frz8 h.ft
theorem Pk.put2 {p : Nat} {x : Sc} {ep : Int} {v a b : Value} {w : World} (h : Pk p x ep v w) : Pk p x ep v (put2 w (p + 1 + 1 + 1) a b) where
  x := h.x.put2 (by omega)
  s0 := other2 (by omega) h.s0
  s1 := other2 (by omega) h.s1
  r := fun j hj => ex_set (ex_set (h.r j hj))
  t := fun j hj => ex_set (ex_set (h.t j hj))
  fr := frz2 h.fr
  ft := frz2 h.ft
theorem cellAt8 {w : World} {p : Nat} {x : Sc} (h : Sc8 w p x) : ∀ j, j < 8 → ∃ u, w.cell? ⟨p, j, none⟩ = some u
  | 0, _ => ⟨_, h.c0⟩
  | 1, _ => ⟨_, h.c1⟩
  | 2, _ => ⟨_, h.c2⟩
  | 3, _ => ⟨_, h.c3⟩
  | 4, _ => ⟨_, h.c4⟩
  | 5, _ => ⟨_, h.c5⟩
  | 6, _ => ⟨_, h.c6⟩
  | 7, _ => ⟨_, h.c7⟩
theorem cellAt2 {w : World} {p : Nat} {u v : Value} (h : w.cell? ⟨p, 0, none⟩ = some u ∧ w.cell? ⟨p, 1, none⟩ = some v) : ∀ j, j < 2 → ∃ u, w.cell? ⟨p, j, none⟩ = some u
  | 0, _ => ⟨_, h.1⟩
  | 1, _ => ⟨_, h.2⟩
theorem Pk.raw {p : Nat} {num fr to xe un st : Int} {lo hi : Str} {ep : Int} {A : Option Addr} {n c : Nat} {w' : World} (h : Pk p ⟨num, ⟨lo, hi⟩, fr, to, xe, un, st⟩ ep (.slice A n c) w') :
    w'.cell? ⟨p, 0, none⟩ = some (.int .i64 num) ∧ w'.cell? ⟨p, 1, none⟩ = some (.string lo) ∧ w'.cell? ⟨p, 2, none⟩ = some (.string hi) ∧ w'.cell? ⟨p, 3, none⟩ = some (.int .i64 fr) ∧ w'.cell? ⟨p, 4, none⟩ = some (.int .i64 to) ∧ w'.cell? ⟨p, 5, none⟩ = some (.int .i64 xe) ∧ w'.cell? ⟨p, 6, none⟩ = some (.int .i64 un) ∧ w'.cell? ⟨p, 7, none⟩ = some (.int .u8 st) ∧ w'.cell? ⟨p + 1, 0, none⟩ = some (.int .i64 ep) ∧ w'.cell? ⟨p + 1, 1, none⟩ = some (.slice A n c) ∧ w'.cell? ⟨p + 1 + 1, 0, none⟩ = some (cellOf w' (p + 1 + 1) 0) ∧ w'.frozen? ⟨p + 1 + 1, 0, none⟩ = false ∧ w'.cell? ⟨p + 1 + 1, 1, none⟩ = some (cellOf w' (p + 1 + 1) 1) ∧ w'.frozen? ⟨p + 1 + 1, 1, none⟩ = false ∧ w'.cell? ⟨p + 1 + 1, 2, none⟩ = some (cellOf w' (p + 1 + 1) 2) ∧ w'.frozen? ⟨p + 1 + 1, 2, none⟩ = false ∧ w'.cell? ⟨p + 1 + 1, 3, none⟩ = some (cellOf w' (p + 1 + 1) 3) ∧ w'.frozen? ⟨p + 1 + 1, 3, none⟩ = false ∧ w'.cell? ⟨p + 1 + 1, 4, none⟩ = some (cellOf w' (p + 1 + 1) 4) ∧ w'.frozen? ⟨p + 1 + 1, 4, none⟩ = false ∧ w'.cell? ⟨p + 1 + 1, 5, none⟩ = some (cellOf w' (p + 1 + 1) 5) ∧ w'.frozen? ⟨p + 1 + 1, 5, none⟩ = false ∧ w'.cell? ⟨p + 1 + 1, 6, none⟩ = some (cellOf w' (p + 1 + 1) 6) ∧ w'.frozen? ⟨p + 1 + 1, 6, none⟩ = false ∧ w'.cell? ⟨p + 1 + 1, 7, none⟩ = some (cellOf w' (p + 1 + 1) 7) ∧ w'.frozen? ⟨p + 1 + 1, 7, none⟩ = false ∧ w'.cell? ⟨p + 1 + 1 + 1, 0, none⟩ = some (cellOf w' (p + 1 + 1 + 1) 0) ∧ w'.frozen? ⟨p + 1 + 1 + 1, 0, none⟩ = false ∧ w'.cell? ⟨p + 1 + 1 + 1, 1, none⟩ = some (cellOf w' (p + 1 + 1 + 1) 1) ∧ w'.frozen? ⟨p + 1 + 1 + 1, 1, none⟩ = false :=
  ⟨h.x.c0, h.x.c1, h.x.c2, h.x.c3, h.x.c4, h.x.c5, h.x.c6, h.x.c7, h.s0, h.s1, cellOf_some (h.r 0 (by decide)), h.fr 0 (by decide), cellOf_some (h.r 1 (by decide)), h.fr 1 (by decide), cellOf_some (h.r 2 (by decide)), h.fr 2 (by decide), cellOf_some (h.r 3 (by decide)), h.fr 3 (by decide), cellOf_some (h.r 4 (by decide)), h.fr 4 (by decide), cellOf_some (h.r 5 (by decide)), h.fr 5 (by decide), cellOf_some (h.r 6 (by decide)), h.fr 6 (by decide), cellOf_some (h.r 7 (by decide)), h.fr 7 (by decide), cellOf_some (h.t 0 (by decide)), h.ft 0 (by decide), cellOf_some (h.t 1 (by decide)), h.ft 1 (by decide)⟩
theorem Pk.raw8 {p : Nat} {num fr to xe un st : Int} {lo hi : Str} {ep : Int} {A : Option Addr} {n c : Nat} {w0 : World} (h : Pk p ⟨num, ⟨lo, hi⟩, fr, to, xe, un, st⟩ ep (.slice A n c) w0) :
    ((((((((w0.setCell ⟨p + 1 + 1, 0, none⟩ (.int .i64 num)).setCell ⟨p + 1 + 1, 1, none⟩ (.string lo)).setCell ⟨p + 1 + 1, 2, none⟩ (.string hi)).setCell ⟨p + 1 + 1, 3, none⟩ (.int .i64 fr)).setCell ⟨p + 1 + 1, 4, none⟩ (.int .i64 to)).setCell ⟨p + 1 + 1, 5, none⟩ (.int .i64 xe)).setCell ⟨p + 1 + 1, 6, none⟩ (.int .i64 un)).setCell ⟨p + 1 + 1, 7, none⟩ (.int .u8 st)).cell? ⟨p, 0, none⟩ = some (.int .i64 num) ∧ ((((((((w0.setCell ⟨p + 1 + 1, 0, none⟩ (.int .i64 num)).setCell ⟨p + 1 + 1, 1, none⟩ (.string lo)).setCell ⟨p + 1 + 1, 2, none⟩ (.string hi)).setCell ⟨p + 1 + 1, 3, none⟩ (.int .i64 fr)).setCell ⟨p + 1 + 1, 4, none⟩ (.int .i64 to)).setCell ⟨p + 1 + 1, 5, none⟩ (.int .i64 xe)).setCell ⟨p + 1 + 1, 6, none⟩ (.int .i64 un)).setCell ⟨p + 1 + 1, 7, none⟩ (.int .u8 st)).cell? ⟨p, 1, none⟩ = some (.string lo) ∧ ((((((((w0.setCell ⟨p + 1 + 1, 0, none⟩ (.int .i64 num)).setCell ⟨p + 1 + 1, 1, none⟩ (.string lo)).setCell ⟨p + 1 + 1, 2, none⟩ (.string hi)).setCell ⟨p + 1 + 1, 3, none⟩ (.int .i64 fr)).setCell ⟨p + 1 + 1, 4, none⟩ (.int .i64 to)).setCell ⟨p + 1 + 1, 5, none⟩ (.int .i64 xe)).setCell ⟨p + 1 + 1, 6, none⟩ (.int .i64 un)).setCell ⟨p + 1 + 1, 7, none⟩ (.int .u8 st)).cell? ⟨p, 2, none⟩ = some (.string hi) ∧ ((((((((w0.setCell ⟨p + 1 + 1, 0, none⟩ (.int .i64 num)).setCell ⟨p + 1 + 1, 1, none⟩ (.string lo)).setCell ⟨p + 1 + 1, 2, none⟩ (.string hi)).setCell ⟨p + 1 + 1, 3, none⟩ (.int .i64 fr)).setCell ⟨p + 1 + 1, 4, none⟩ (.int .i64 to)).setCell ⟨p + 1 + 1, 5, none⟩ (.int .i64 xe)).setCell ⟨p + 1 + 1, 6, none⟩ (.int .i64 un)).setCell ⟨p + 1 + 1, 7, none⟩ (.int .u8 st)).cell? ⟨p, 3, none⟩ = some (.int .i64 fr) ∧ ((((((((w0.setCell ⟨p + 1 + 1, 0, none⟩ (.int .i64 num)).setCell ⟨p + 1 + 1, 1, none⟩ (.string lo)).setCell ⟨p + 1 + 1, 2, none⟩ (.string hi)).setCell ⟨p + 1 + 1, 3, none⟩ (.int .i64 fr)).setCell ⟨p + 1 + 1, 4, none⟩ (.int .i64 to)).setCell ⟨p + 1 + 1, 5, none⟩ (.int .i64 xe)).setCell ⟨p + 1 + 1, 6, none⟩ (.int .i64 un)).setCell ⟨p + 1 + 1, 7, none⟩ (.int .u8 st)).cell? ⟨p, 4, none⟩ = some (.int .i64 to) ∧ ((((((((w0.setCell ⟨p + 1 + 1, 0, none⟩ (.int .i64 num)).setCell ⟨p + 1 + 1, 1, none⟩ (.string lo)).setCell ⟨p + 1 + 1, 2, none⟩ (.string hi)).setCell ⟨p + 1 + 1, 3, none⟩ (.int .i64 fr)).setCell ⟨p + 1 + 1, 4, none⟩ (.int .i64 to)).setCell ⟨p + 1 + 1, 5, none⟩ (.int .i64 xe)).setCell ⟨p + 1 + 1, 6, none⟩ (.int .i64 un)).setCell ⟨p + 1 + 1, 7, none⟩ (.int .u8 st)).cell? ⟨p, 5, none⟩ = some (.int .i64 xe) ∧ ((((((((w0.setCell ⟨p + 1 + 1, 0, none⟩ (.int .i64 num)).setCell ⟨p + 1 + 1, 1, none⟩ (.string lo)).setCell ⟨p + 1 + 1, 2, none⟩ (.string hi)).setCell ⟨p + 1 + 1, 3, none⟩ (.int .i64 fr)).setCell ⟨p + 1 + 1, 4, none⟩ (.int .i64 to)).setCell ⟨p + 1 + 1, 5, none⟩ (.int .i64 xe)).setCell ⟨p + 1 + 1, 6, none⟩ (.int .i64 un)).setCell ⟨p + 1 + 1, 7, none⟩ (.int .u8 st)).cell? ⟨p, 6, none⟩ = some (.int .i64 un) ∧ ((((((((w0.setCell ⟨p + 1 + 1, 0, none⟩ (.int .i64 num)).setCell ⟨p + 1 + 1, 1, none⟩ (.string lo)).setCell ⟨p + 1 + 1, 2, none⟩ (.string hi)).setCell ⟨p + 1 + 1, 3, none⟩ (.int .i64 fr)).setCell ⟨p + 1 + 1, 4, none⟩ (.int .i64 to)).setCell ⟨p + 1 + 1, 5, none⟩ (.int .i64 xe)).setCell ⟨p + 1 + 1, 6, none⟩ (.int .i64 un)).setCell ⟨p + 1 + 1, 7, none⟩ (.int .u8 st)).cell? ⟨p, 7, none⟩ = some (.int .u8 st) ∧ ((((((((w0.setCell ⟨p + 1 + 1, 0, none⟩ (.int .i64 num)).setCell ⟨p + 1 + 1, 1, none⟩ (.string lo)).setCell ⟨p + 1 + 1, 2, none⟩ (.string hi)).setCell ⟨p + 1 + 1, 3, none⟩ (.int .i64 fr)).setCell ⟨p + 1 + 1, 4, none⟩ (.int .i64 to)).setCell ⟨p + 1 + 1, 5, none⟩ (.int .i64 xe)).setCell ⟨p + 1 + 1, 6, none⟩ (.int .i64 un)).setCell ⟨p + 1 + 1, 7, none⟩ (.int .u8 st)).cell? ⟨p + 1, 0, none⟩ = some (.int .i64 ep) ∧ ((((((((w0.setCell ⟨p + 1 + 1, 0, none⟩ (.int .i64 num)).setCell ⟨p + 1 + 1, 1, none⟩ (.string lo)).setCell ⟨p + 1 + 1, 2, none⟩ (.string hi)).setCell ⟨p + 1 + 1, 3, none⟩ (.int .i64 fr)).setCell ⟨p + 1 + 1, 4, none⟩ (.int .i64 to)).setCell ⟨p + 1 + 1, 5, none⟩ (.int .i64 xe)).setCell ⟨p + 1 + 1, 6, none⟩ (.int .i64 un)).setCell ⟨p + 1 + 1, 7, none⟩ (.int .u8 st)).cell? ⟨p + 1, 1, none⟩ = some (.slice A n c) ∧ ((((((((w0.setCell ⟨p + 1 + 1, 0, none⟩ (.int .i64 num)).setCell ⟨p + 1 + 1, 1, none⟩ (.string lo)).setCell ⟨p + 1 + 1, 2, none⟩ (.string hi)).setCell ⟨p + 1 + 1, 3, none⟩ (.int .i64 fr)).setCell ⟨p + 1 + 1, 4, none⟩ (.int .i64 to)).setCell ⟨p + 1 + 1, 5, none⟩ (.int .i64 xe)).setCell ⟨p + 1 + 1, 6, none⟩ (.int .i64 un)).setCell ⟨p + 1 + 1, 7, none⟩ (.int .u8 st)).cell? ⟨p + 1 + 1, 0, none⟩ = some (cellOf ((((((((w0.setCell ⟨p + 1 + 1, 0, none⟩ (.int .i64 num)).setCell ⟨p + 1 + 1, 1, none⟩ (.string lo)).setCell ⟨p + 1 + 1, 2, none⟩ (.string hi)).setCell ⟨p + 1 + 1, 3, none⟩ (.int .i64 fr)).setCell ⟨p + 1 + 1, 4, none⟩ (.int .i64 to)).setCell ⟨p + 1 + 1, 5, none⟩ (.int .i64 xe)).setCell ⟨p + 1 + 1, 6, none⟩ (.int .i64 un)).setCell ⟨p + 1 + 1, 7, none⟩ (.int .u8 st)) (p + 1 + 1) 0) ∧ ((((((((w0.setCell ⟨p + 1 + 1, 0, none⟩ (.int .i64 num)).setCell ⟨p + 1 + 1, 1, none⟩ (.string lo)).setCell ⟨p + 1 + 1, 2, none⟩ (.string hi)).setCell ⟨p + 1 + 1, 3, none⟩ (.int .i64 fr)).setCell ⟨p + 1 + 1, 4, none⟩ (.int .i64 to)).setCell ⟨p + 1 + 1, 5, none⟩ (.int .i64 xe)).setCell ⟨p + 1 + 1, 6, none⟩ (.int .i64 un)).setCell ⟨p + 1 + 1, 7, none⟩ (.int .u8 st)).frozen? ⟨p + 1 + 1, 0, none⟩ = false ∧ ((((((((w0.setCell ⟨p + 1 + 1, 0, none⟩ (.int .i64 num)).setCell ⟨p + 1 + 1, 1, none⟩ (.string lo)).setCell ⟨p + 1 + 1, 2, none⟩ (.string hi)).setCell ⟨p + 1 + 1, 3, none⟩ (.int .i64 fr)).setCell ⟨p + 1 + 1, 4, none⟩ (.int .i64 to)).setCell ⟨p + 1 + 1, 5, none⟩ (.int .i64 xe)).setCell ⟨p + 1 + 1, 6, none⟩ (.int .i64 un)).setCell ⟨p + 1 + 1, 7, none⟩ (.int .u8 st)).cell? ⟨p + 1 + 1, 1, none⟩ = some (cellOf ((((((((w0.setCell ⟨p + 1 + 1, 0, none⟩ (.int .i64 num)).setCell ⟨p + 1 + 1, 1, none⟩ (.string lo)).setCell ⟨p + 1 + 1, 2, none⟩ (.string hi)).setCell ⟨p + 1 + 1, 3, none⟩ (.int .i64 fr)).setCell ⟨p + 1 + 1, 4, none⟩ (.int .i64 to)).setCell ⟨p + 1 + 1, 5, none⟩ (.int .i64 xe)).setCell ⟨p + 1 + 1, 6, none⟩ (.int .i64 un)).setCell ⟨p + 1 + 1, 7, none⟩ (.int .u8 st)) (p + 1 + 1) 1) ∧ ((((((((w0.setCell ⟨p + 1 + 1, 0, none⟩ (.int .i64 num)).setCell ⟨p + 1 + 1, 1, none⟩ (.string lo)).setCell ⟨p + 1 + 1, 2, none⟩ (.string hi)).setCell ⟨p + 1 + 1, 3, none⟩ (.int .i64 fr)).setCell ⟨p + 1 + 1, 4, none⟩ (.int .i64 to)).setCell ⟨p + 1 + 1, 5, none⟩ (.int .i64 xe)).setCell ⟨p + 1 + 1, 6, none⟩ (.int .i64 un)).setCell ⟨p + 1 + 1, 7, none⟩ (.int .u8 st)).frozen? ⟨p + 1 + 1, 1, none⟩ = false ∧ ((((((((w0.setCell ⟨p + 1 + 1, 0, none⟩ (.int .i64 num)).setCell ⟨p + 1 + 1, 1, none⟩ (.string lo)).setCell ⟨p + 1 + 1, 2, none⟩ (.string hi)).setCell ⟨p + 1 + 1, 3, none⟩ (.int .i64 fr)).setCell ⟨p + 1 + 1, 4, none⟩ (.int .i64 to)).setCell ⟨p + 1 + 1, 5, none⟩ (.int .i64 xe)).setCell ⟨p + 1 + 1, 6, none⟩ (.int .i64 un)).setCell ⟨p + 1 + 1, 7, none⟩ (.int .u8 st)).cell? ⟨p + 1 + 1, 2, none⟩ = some (cellOf ((((((((w0.setCell ⟨p + 1 + 1, 0, none⟩ (.int .i64 num)).setCell ⟨p + 1 + 1, 1, none⟩ (.string lo)).setCell ⟨p + 1 + 1, 2, none⟩ (.string hi)).setCell ⟨p + 1 + 1, 3, none⟩ (.int .i64 fr)).setCell ⟨p + 1 + 1, 4, none⟩ (.int .i64 to)).setCell ⟨p + 1 + 1, 5, none⟩ (.int .i64 xe)).setCell ⟨p + 1 + 1, 6, none⟩ (.int .i64 un)).setCell ⟨p + 1 + 1, 7, none⟩ (.int .u8 st)) (p + 1 + 1) 2) ∧ ((((((((w0.setCell ⟨p + 1 + 1, 0, none⟩ (.int .i64 num)).setCell ⟨p + 1 + 1, 1, none⟩ (.string lo)).setCell ⟨p + 1 + 1, 2, none⟩ (.string hi)).setCell ⟨p + 1 + 1, 3, none⟩ (.int .i64 fr)).setCell ⟨p + 1 + 1, 4, none⟩ (.int .i64 to)).setCell ⟨p + 1 + 1, 5, none⟩ (.int .i64 xe)).setCell ⟨p + 1 + 1, 6, none⟩ (.int .i64 un)).setCell ⟨p + 1 + 1, 7, none⟩ (.int .u8 st)).frozen? ⟨p + 1 + 1, 2, none⟩ = false ∧ ((((((((w0.setCell ⟨p + 1 + 1, 0, none⟩ (.int .i64 num)).setCell ⟨p + 1 + 1, 1, none⟩ (.string lo)).setCell ⟨p + 1 + 1, 2, none⟩ (.string hi)).setCell ⟨p + 1 + 1, 3, none⟩ (.int .i64 fr)).setCell ⟨p + 1 + 1, 4, none⟩ (.int .i64 to)).setCell ⟨p + 1 + 1, 5, none⟩ (.int .i64 xe)).setCell ⟨p + 1 + 1, 6, none⟩ (.int .i64 un)).setCell ⟨p + 1 + 1, 7, none⟩ (.int .u8 st)).cell? ⟨p + 1 + 1, 3, none⟩ = some (cellOf ((((((((w0.setCell ⟨p + 1 + 1, 0, none⟩ (.int .i64 num)).setCell ⟨p + 1 + 1, 1, none⟩ (.string lo)).setCell ⟨p + 1 + 1, 2, none⟩ (.string hi)).setCell ⟨p + 1 + 1, 3, none⟩ (.int .i64 fr)).setCell ⟨p + 1 + 1, 4, none⟩ (.int .i64 to)).setCell ⟨p + 1 + 1, 5, none⟩ (.int .i64 xe)).setCell ⟨p + 1 + 1, 6, none⟩ (.int .i64 un)).setCell ⟨p + 1 + 1, 7, none⟩ (.int .u8 st)) (p + 1 + 1) 3) ∧ ((((((((w0.setCell ⟨p + 1 + 1, 0, none⟩ (.int .i64 num)).setCell ⟨p + 1 + 1, 1, none⟩ (.string lo)).setCell ⟨p + 1 + 1, 2, none⟩ (.string hi)).setCell ⟨p + 1 + 1, 3, none⟩ (.int .i64 fr)).setCell ⟨p + 1 + 1, 4, none⟩ (.int .i64 to)).setCell ⟨p + 1 + 1, 5, none⟩ (.int .i64 xe)).setCell ⟨p + 1 + 1, 6, none⟩ (.int .i64 un)).setCell ⟨p + 1 + 1, 7, none⟩ (.int .u8 st)).frozen? ⟨p + 1 + 1, 3, none⟩ = false ∧ ((((((((w0.setCell ⟨p + 1 + 1, 0, none⟩ (.int .i64 num)).setCell ⟨p + 1 + 1, 1, none⟩ (.string lo)).setCell ⟨p + 1 + 1, 2, none⟩ (.string hi)).setCell ⟨p + 1 + 1, 3, none⟩ (.int .i64 fr)).setCell ⟨p + 1 + 1, 4, none⟩ (.int .i64 to)).setCell ⟨p + 1 + 1, 5, none⟩ (.int .i64 xe)).setCell ⟨p + 1 + 1, 6, none⟩ (.int .i64 un)).setCell ⟨p + 1 + 1, 7, none⟩ (.int .u8 st)).cell? ⟨p + 1 + 1, 4, none⟩ = some (cellOf ((((((((w0.setCell ⟨p + 1 + 1, 0, none⟩ (.int .i64 num)).setCell ⟨p + 1 + 1, 1, none⟩ (.string lo)).setCell ⟨p + 1 + 1, 2, none⟩ (.string hi)).setCell ⟨p + 1 + 1, 3, none⟩ (.int .i64 fr)).setCell ⟨p + 1 + 1, 4, none⟩ (.int .i64 to)).setCell ⟨p + 1 + 1, 5, none⟩ (.int .i64 xe)).setCell ⟨p + 1 + 1, 6, none⟩ (.int .i64 un)).setCell ⟨p + 1 + 1, 7, none⟩ (.int .u8 st)) (p + 1 + 1) 4) ∧ ((((((((w0.setCell ⟨p + 1 + 1, 0, none⟩ (.int .i64 num)).setCell ⟨p + 1 + 1, 1, none⟩ (.string lo)).setCell ⟨p + 1 + 1, 2, none⟩ (.string hi)).setCell ⟨p + 1 + 1, 3, none⟩ (.int .i64 fr)).setCell ⟨p + 1 + 1, 4, none⟩ (.int .i64 to)).setCell ⟨p + 1 + 1, 5, none⟩ (.int .i64 xe)).setCell ⟨p + 1 + 1, 6, none⟩ (.int .i64 un)).setCell ⟨p + 1 + 1, 7, none⟩ (.int .u8 st)).frozen? ⟨p + 1 + 1, 4, none⟩ = false ∧ ((((((((w0.setCell ⟨p + 1 + 1, 0, none⟩ (.int .i64 num)).setCell ⟨p + 1 + 1, 1, none⟩ (.string lo)).setCell ⟨p + 1 + 1, 2, none⟩ (.string hi)).setCell ⟨p + 1 + 1, 3, none⟩ (.int .i64 fr)).setCell ⟨p + 1 + 1, 4, none⟩ (.int .i64 to)).setCell ⟨p + 1 + 1, 5, none⟩ (.int .i64 xe)).setCell ⟨p + 1 + 1, 6, none⟩ (.int .i64 un)).setCell ⟨p + 1 + 1, 7, none⟩ (.int .u8 st)).cell? ⟨p + 1 + 1, 5, none⟩ = some (cellOf ((((((((w0.setCell ⟨p + 1 + 1, 0, none⟩ (.int .i64 num)).setCell ⟨p + 1 + 1, 1, none⟩ (.string lo)).setCell ⟨p + 1 + 1, 2, none⟩ (.string hi)).setCell ⟨p + 1 + 1, 3, none⟩ (.int .i64 fr)).setCell ⟨p + 1 + 1, 4, none⟩ (.int .i64 to)).setCell ⟨p + 1 + 1, 5, none⟩ (.int .i64 xe)).setCell ⟨p + 1 + 1, 6, none⟩ (.int .i64 un)).setCell ⟨p + 1 + 1, 7, none⟩ (.int .u8 st)) (p + 1 + 1) 5) ∧ ((((((((w0.setCell ⟨p + 1 + 1, 0, none⟩ (.int .i64 num)).setCell ⟨p + 1 + 1, 1, none⟩ (.string lo)).setCell ⟨p + 1 + 1, 2, none⟩ (.string hi)).setCell ⟨p + 1 + 1, 3, none⟩ (.int .i64 fr)).setCell ⟨p + 1 + 1, 4, none⟩ (.int .i64 to)).setCell ⟨p + 1 + 1, 5, none⟩ (.int .i64 xe)).setCell ⟨p + 1 + 1, 6, none⟩ (.int .i64 un)).setCell ⟨p + 1 + 1, 7, none⟩ (.int .u8 st)).frozen? ⟨p + 1 + 1, 5, none⟩ = false ∧ ((((((((w0.setCell ⟨p + 1 + 1, 0, none⟩ (.int .i64 num)).setCell ⟨p + 1 + 1, 1, none⟩ (.string lo)).setCell ⟨p + 1 + 1, 2, none⟩ (.string hi)).setCell ⟨p + 1 + 1, 3, none⟩ (.int .i64 fr)).setCell ⟨p + 1 + 1, 4, none⟩ (.int .i64 to)).setCell ⟨p + 1 + 1, 5, none⟩ (.int .i64 xe)).setCell ⟨p + 1 + 1, 6, none⟩ (.int .i64 un)).setCell ⟨p + 1 + 1, 7, none⟩ (.int .u8 st)).cell? ⟨p + 1 + 1, 6, none⟩ = some (cellOf ((((((((w0.setCell ⟨p + 1 + 1, 0, none⟩ (.int .i64 num)).setCell ⟨p + 1 + 1, 1, none⟩ (.string lo)).setCell ⟨p + 1 + 1, 2, none⟩ (.string hi)).setCell ⟨p + 1 + 1, 3, none⟩ (.int .i64 fr)).setCell ⟨p + 1 + 1, 4, none⟩ (.int .i64 to)).setCell ⟨p + 1 + 1, 5, none⟩ (.int .i64 xe)).setCell ⟨p + 1 + 1, 6, none⟩ (.int .i64 un)).setCell ⟨p + 1 + 1, 7, none⟩ (.int .u8 st)) (p + 1 + 1) 6) ∧ ((((((((w0.setCell ⟨p + 1 + 1, 0, none⟩ (.int .i64 num)).setCell ⟨p + 1 + 1, 1, none⟩ (.string lo)).setCell ⟨p + 1 + 1, 2, none⟩ (.string hi)).setCell ⟨p + 1 + 1, 3, none⟩ (.int .i64 fr)).setCell ⟨p + 1 + 1, 4, none⟩ (.int .i64 to)).setCell ⟨p + 1 + 1, 5, none⟩ (.int .i64 xe)).setCell ⟨p + 1 + 1, 6, none⟩ (.int .i64 un)).setCell ⟨p + 1 + 1, 7, none⟩ (.int .u8 st)).frozen? ⟨p + 1 + 1, 6, none⟩ = false ∧ ((((((((w0.setCell ⟨p + 1 + 1, 0, none⟩ (.int .i64 num)).setCell ⟨p + 1 + 1, 1, none⟩ (.string lo)).setCell ⟨p + 1 + 1, 2, none⟩ (.string hi)).setCell ⟨p + 1 + 1, 3, none⟩ (.int .i64 fr)).setCell ⟨p + 1 + 1, 4, none⟩ (.int .i64 to)).setCell ⟨p + 1 + 1, 5, none⟩ (.int .i64 xe)).setCell ⟨p + 1 + 1, 6, none⟩ (.int .i64 un)).setCell ⟨p + 1 + 1, 7, none⟩ (.int .u8 st)).cell? ⟨p + 1 + 1, 7, none⟩ = some (cellOf ((((((((w0.setCell ⟨p + 1 + 1, 0, none⟩ (.int .i64 num)).setCell ⟨p + 1 + 1, 1, none⟩ (.string lo)).setCell ⟨p + 1 + 1, 2, none⟩ (.string hi)).setCell ⟨p + 1 + 1, 3, none⟩ (.int .i64 fr)).setCell ⟨p + 1 + 1, 4, none⟩ (.int .i64 to)).setCell ⟨p + 1 + 1, 5, none⟩ (.int .i64 xe)).setCell ⟨p + 1 + 1, 6, none⟩ (.int .i64 un)).setCell ⟨p + 1 + 1, 7, none⟩ (.int .u8 st)) (p + 1 + 1) 7) ∧ ((((((((w0.setCell ⟨p + 1 + 1, 0, none⟩ (.int .i64 num)).setCell ⟨p + 1 + 1, 1, none⟩ (.string lo)).setCell ⟨p + 1 + 1, 2, none⟩ (.string hi)).setCell ⟨p + 1 + 1, 3, none⟩ (.int .i64 fr)).setCell ⟨p + 1 + 1, 4, none⟩ (.int .i64 to)).setCell ⟨p + 1 + 1, 5, none⟩ (.int .i64 xe)).setCell ⟨p + 1 + 1, 6, none⟩ (.int .i64 un)).setCell ⟨p + 1 + 1, 7, none⟩ (.int .u8 st)).frozen? ⟨p + 1 + 1, 7, none⟩ = false ∧ ((((((((w0.setCell ⟨p + 1 + 1, 0, none⟩ (.int .i64 num)).setCell ⟨p + 1 + 1, 1, none⟩ (.string lo)).setCell ⟨p + 1 + 1, 2, none⟩ (.string hi)).setCell ⟨p + 1 + 1, 3, none⟩ (.int .i64 fr)).setCell ⟨p + 1 + 1, 4, none⟩ (.int .i64 to)).setCell ⟨p + 1 + 1, 5, none⟩ (.int .i64 xe)).setCell ⟨p + 1 + 1, 6, none⟩ (.int .i64 un)).setCell ⟨p + 1 + 1, 7, none⟩ (.int .u8 st)).cell? ⟨p + 1 + 1 + 1, 0, none⟩ = some (cellOf ((((((((w0.setCell ⟨p + 1 + 1, 0, none⟩ (.int .i64 num)).setCell ⟨p + 1 + 1, 1, none⟩ (.string lo)).setCell ⟨p + 1 + 1, 2, none⟩ (.string hi)).setCell ⟨p + 1 + 1, 3, none⟩ (.int .i64 fr)).setCell ⟨p + 1 + 1, 4, none⟩ (.int .i64 to)).setCell ⟨p + 1 + 1, 5, none⟩ (.int .i64 xe)).setCell ⟨p + 1 + 1, 6, none⟩ (.int .i64 un)).setCell ⟨p + 1 + 1, 7, none⟩ (.int .u8 st)) (p + 1 + 1 + 1) 0) ∧ ((((((((w0.setCell ⟨p + 1 + 1, 0, none⟩ (.int .i64 num)).setCell ⟨p + 1 + 1, 1, none⟩ (.string lo)).setCell ⟨p + 1 + 1, 2, none⟩ (.string hi)).setCell ⟨p + 1 + 1, 3, none⟩ (.int .i64 fr)).setCell ⟨p + 1 + 1, 4, none⟩ (.int .i64 to)).setCell ⟨p + 1 + 1, 5, none⟩ (.int .i64 xe)).setCell ⟨p + 1 + 1, 6, none⟩ (.int .i64 un)).setCell ⟨p + 1 + 1, 7, none⟩ (.int .u8 st)).frozen? ⟨p + 1 + 1 + 1, 0, none⟩ = false ∧ ((((((((w0.setCell ⟨p + 1 + 1, 0, none⟩ (.int .i64 num)).setCell ⟨p + 1 + 1, 1, none⟩ (.string lo)).setCell ⟨p + 1 + 1, 2, none⟩ (.string hi)).setCell ⟨p + 1 + 1, 3, none⟩ (.int .i64 fr)).setCell ⟨p + 1 + 1, 4, none⟩ (.int .i64 to)).setCell ⟨p + 1 + 1, 5, none⟩ (.int .i64 xe)).setCell ⟨p + 1 + 1, 6, none⟩ (.int .i64 un)).setCell ⟨p + 1 + 1, 7, none⟩ (.int .u8 st)).cell? ⟨p + 1 + 1 + 1, 1, none⟩ = some (cellOf ((((((((w0.setCell ⟨p + 1 + 1, 0, none⟩ (.int .i64 num)).setCell ⟨p + 1 + 1, 1, none⟩ (.string lo)).setCell ⟨p + 1 + 1, 2, none⟩ (.string hi)).setCell ⟨p + 1 + 1, 3, none⟩ (.int .i64 fr)).setCell ⟨p + 1 + 1, 4, none⟩ (.int .i64 to)).setCell ⟨p + 1 + 1, 5, none⟩ (.int .i64 xe)).setCell ⟨p + 1 + 1, 6, none⟩ (.int .i64 un)).setCell ⟨p + 1 + 1, 7, none⟩ (.int .u8 st)) (p + 1 + 1 + 1) 1) ∧ ((((((((w0.setCell ⟨p + 1 + 1, 0, none⟩ (.int .i64 num)).setCell ⟨p + 1 + 1, 1, none⟩ (.string lo)).setCell ⟨p + 1 + 1, 2, none⟩ (.string hi)).setCell ⟨p + 1 + 1, 3, none⟩ (.int .i64 fr)).setCell ⟨p + 1 + 1, 4, none⟩ (.int .i64 to)).setCell ⟨p + 1 + 1, 5, none⟩ (.int .i64 xe)).setCell ⟨p + 1 + 1, 6, none⟩ (.int .i64 un)).setCell ⟨p + 1 + 1, 7, none⟩ (.int .u8 st)).frozen? ⟨p + 1 + 1 + 1, 1, none⟩ = false := (h.put8 (y := ⟨num, ⟨lo, hi⟩, fr, to, xe, un, st⟩)).raw
theorem Pk.raw82 {p : Nat} {num fr to xe un st : Int} {lo hi : Str} {ep : Int} {A A3 : Option Addr} {n c c3 : Nat} {w0 : World} (h : Pk p ⟨num, ⟨lo, hi⟩, fr, to, xe, un, st⟩ ep (.slice A n c) w0) :
    ((((((((((w0.setCell ⟨p + 1 + 1, 0, none⟩ (.int .i64 num)).setCell ⟨p + 1 + 1, 1, none⟩ (.string lo)).setCell ⟨p + 1 + 1, 2, none⟩ (.string hi)).setCell ⟨p + 1 + 1, 3, none⟩ (.int .i64 fr)).setCell ⟨p + 1 + 1, 4, none⟩ (.int .i64 to)).setCell ⟨p + 1 + 1, 5, none⟩ (.int .i64 xe)).setCell ⟨p + 1 + 1, 6, none⟩ (.int .i64 un)).setCell ⟨p + 1 + 1, 7, none⟩ (.int .u8 st)).setCell ⟨p + 1 + 1 + 1, 0, none⟩ (.int .i64 ep)).setCell ⟨p + 1 + 1 + 1, 1, none⟩ (.slice A3 n c3)).cell? ⟨p, 0, none⟩ = some (.int .i64 num) ∧ ((((((((((w0.setCell ⟨p + 1 + 1, 0, none⟩ (.int .i64 num)).setCell ⟨p + 1 + 1, 1, none⟩ (.string lo)).setCell ⟨p + 1 + 1, 2, none⟩ (.string hi)).setCell ⟨p + 1 + 1, 3, none⟩ (.int .i64 fr)).setCell ⟨p + 1 + 1, 4, none⟩ (.int .i64 to)).setCell ⟨p + 1 + 1, 5, none⟩ (.int .i64 xe)).setCell ⟨p + 1 + 1, 6, none⟩ (.int .i64 un)).setCell ⟨p + 1 + 1, 7, none⟩ (.int .u8 st)).setCell ⟨p + 1 + 1 + 1, 0, none⟩ (.int .i64 ep)).setCell ⟨p + 1 + 1 + 1, 1, none⟩ (.slice A3 n c3)).cell? ⟨p, 1, none⟩ = some (.string lo) ∧ ((((((((((w0.setCell ⟨p + 1 + 1, 0, none⟩ (.int .i64 num)).setCell ⟨p + 1 + 1, 1, none⟩ (.string lo)).setCell ⟨p + 1 + 1, 2, none⟩ (.string hi)).setCell ⟨p + 1 + 1, 3, none⟩ (.int .i64 fr)).setCell ⟨p + 1 + 1, 4, none⟩ (.int .i64 to)).setCell ⟨p + 1 + 1, 5, none⟩ (.int .i64 xe)).setCell ⟨p + 1 + 1, 6, none⟩ (.int .i64 un)).setCell ⟨p + 1 + 1, 7, none⟩ (.int .u8 st)).setCell ⟨p + 1 + 1 + 1, 0, none⟩ (.int .i64 ep)).setCell ⟨p + 1 + 1 + 1, 1, none⟩ (.slice A3 n c3)).cell? ⟨p, 2, none⟩ = some (.string hi) ∧ ((((((((((w0.setCell ⟨p + 1 + 1, 0, none⟩ (.int .i64 num)).setCell ⟨p + 1 + 1, 1, none⟩ (.string lo)).setCell ⟨p + 1 + 1, 2, none⟩ (.string hi)).setCell ⟨p + 1 + 1, 3, none⟩ (.int .i64 fr)).setCell ⟨p + 1 + 1, 4, none⟩ (.int .i64 to)).setCell ⟨p + 1 + 1, 5, none⟩ (.int .i64 xe)).setCell ⟨p + 1 + 1, 6, none⟩ (.int .i64 un)).setCell ⟨p + 1 + 1, 7, none⟩ (.int .u8 st)).setCell ⟨p + 1 + 1 + 1, 0, none⟩ (.int .i64 ep)).setCell ⟨p + 1 + 1 + 1, 1, none⟩ (.slice A3 n c3)).cell? ⟨p, 3, none⟩ = some (.int .i64 fr) ∧ ((((((((((w0.setCell ⟨p + 1 + 1, 0, none⟩ (.int .i64 num)).setCell ⟨p + 1 + 1, 1, none⟩ (.string lo)).setCell ⟨p + 1 + 1, 2, none⟩ (.string hi)).setCell ⟨p + 1 + 1, 3, none⟩ (.int .i64 fr)).setCell ⟨p + 1 + 1, 4, none⟩ (.int .i64 to)).setCell ⟨p + 1 + 1, 5, none⟩ (.int .i64 xe)).setCell ⟨p + 1 + 1, 6, none⟩ (.int .i64 un)).setCell ⟨p + 1 + 1, 7, none⟩ (.int .u8 st)).setCell ⟨p + 1 + 1 + 1, 0, none⟩ (.int .i64 ep)).setCell ⟨p + 1 + 1 + 1, 1, none⟩ (.slice A3 n c3)).cell? ⟨p, 4, none⟩ = some (.int .i64 to) ∧ ((((((((((w0.setCell ⟨p + 1 + 1, 0, none⟩ (.int .i64 num)).setCell ⟨p + 1 + 1, 1, none⟩ (.string lo)).setCell ⟨p + 1 + 1, 2, none⟩ (.string hi)).setCell ⟨p + 1 + 1, 3, none⟩ (.int .i64 fr)).setCell ⟨p + 1 + 1, 4, none⟩ (.int .i64 to)).setCell ⟨p + 1 + 1, 5, none⟩ (.int .i64 xe)).setCell ⟨p + 1 + 1, 6, none⟩ (.int .i64 un)).setCell ⟨p + 1 + 1, 7, none⟩ (.int .u8 st)).setCell ⟨p + 1 + 1 + 1, 0, none⟩ (.int .i64 ep)).setCell ⟨p + 1 + 1 + 1, 1, none⟩ (.slice A3 n c3)).cell? ⟨p, 5, none⟩ = some (.int .i64 xe) ∧ ((((((((((w0.setCell ⟨p + 1 + 1, 0, none⟩ (.int .i64 num)).setCell ⟨p + 1 + 1, 1, none⟩ (.string lo)).setCell ⟨p + 1 + 1, 2, none⟩ (.string hi)).setCell ⟨p + 1 + 1, 3, none⟩ (.int .i64 fr)).setCell ⟨p + 1 + 1, 4, none⟩ (.int .i64 to)).setCell ⟨p + 1 + 1, 5, none⟩ (.int .i64 xe)).setCell ⟨p + 1 + 1, 6, none⟩ (.int .i64 un)).setCell ⟨p + 1 + 1, 7, none⟩ (.int .u8 st)).setCell ⟨p + 1 + 1 + 1, 0, none⟩ (.int .i64 ep)).setCell ⟨p + 1 + 1 + 1, 1, none⟩ (.slice A3 n c3)).cell? ⟨p, 6, none⟩ = some (.int .i64 un) ∧ ((((((((((w0.setCell ⟨p + 1 + 1, 0, none⟩ (.int .i64 num)).setCell ⟨p + 1 + 1, 1, none⟩ (.string lo)).setCell ⟨p + 1 + 1, 2, none⟩ (.string hi)).setCell ⟨p + 1 + 1, 3, none⟩ (.int .i64 fr)).setCell ⟨p + 1 + 1, 4, none⟩ (.int .i64 to)).setCell ⟨p + 1 + 1, 5, none⟩ (.int .i64 xe)).setCell ⟨p + 1 + 1, 6, none⟩ (.int .i64 un)).setCell ⟨p + 1 + 1, 7, none⟩ (.int .u8 st)).setCell ⟨p + 1 + 1 + 1, 0, none⟩ (.int .i64 ep)).setCell ⟨p + 1 + 1 + 1, 1, none⟩ (.slice A3 n c3)).cell? ⟨p, 7, none⟩ = some (.int .u8 st) ∧ ((((((((((w0.setCell ⟨p + 1 + 1, 0, none⟩ (.int .i64 num)).setCell ⟨p + 1 + 1, 1, none⟩ (.string lo)).setCell ⟨p + 1 + 1, 2, none⟩ (.string hi)).setCell ⟨p + 1 + 1, 3, none⟩ (.int .i64 fr)).setCell ⟨p + 1 + 1, 4, none⟩ (.int .i64 to)).setCell ⟨p + 1 + 1, 5, none⟩ (.int .i64 xe)).setCell ⟨p + 1 + 1, 6, none⟩ (.int .i64 un)).setCell ⟨p + 1 + 1, 7, none⟩ (.int .u8 st)).setCell ⟨p + 1 + 1 + 1, 0, none⟩ (.int .i64 ep)).setCell ⟨p + 1 + 1 + 1, 1, none⟩ (.slice A3 n c3)).cell? ⟨p + 1, 0, none⟩ = some (.int .i64 ep) ∧ ((((((((((w0.setCell ⟨p + 1 + 1, 0, none⟩ (.int .i64 num)).setCell ⟨p + 1 + 1, 1, none⟩ (.string lo)).setCell ⟨p + 1 + 1, 2, none⟩ (.string hi)).setCell ⟨p + 1 + 1, 3, none⟩ (.int .i64 fr)).setCell ⟨p + 1 + 1, 4, none⟩ (.int .i64 to)).setCell ⟨p + 1 + 1, 5, none⟩ (.int .i64 xe)).setCell ⟨p + 1 + 1, 6, none⟩ (.int .i64 un)).setCell ⟨p + 1 + 1, 7, none⟩ (.int .u8 st)).setCell ⟨p + 1 + 1 + 1, 0, none⟩ (.int .i64 ep)).setCell ⟨p + 1 + 1 + 1, 1, none⟩ (.slice A3 n c3)).cell? ⟨p + 1, 1, none⟩ = some (.slice A n c) ∧ ((((((((((w0.setCell ⟨p + 1 + 1, 0, none⟩ (.int .i64 num)).setCell ⟨p + 1 + 1, 1, none⟩ (.string lo)).setCell ⟨p + 1 + 1, 2, none⟩ (.string hi)).setCell ⟨p + 1 + 1, 3, none⟩ (.int .i64 fr)).setCell ⟨p + 1 + 1, 4, none⟩ (.int .i64 to)).setCell ⟨p + 1 + 1, 5, none⟩ (.int .i64 xe)).setCell ⟨p + 1 + 1, 6, none⟩ (.int .i64 un)).setCell ⟨p + 1 + 1, 7, none⟩ (.int .u8 st)).setCell ⟨p + 1 + 1 + 1, 0, none⟩ (.int .i64 ep)).setCell ⟨p + 1 + 1 + 1, 1, none⟩ (.slice A3 n c3)).cell? ⟨p + 1 + 1, 0, none⟩ = some (cellOf ((((((((((w0.setCell ⟨p + 1 + 1, 0, none⟩ (.int .i64 num)).setCell ⟨p + 1 + 1, 1, none⟩ (.string lo)).setCell ⟨p + 1 + 1, 2, none⟩ (.string hi)).setCell ⟨p + 1 + 1, 3, none⟩ (.int .i64 fr)).setCell ⟨p + 1 + 1, 4, none⟩ (.int .i64 to)).setCell ⟨p + 1 + 1, 5, none⟩ (.int .i64 xe)).setCell ⟨p + 1 + 1, 6, none⟩ (.int .i64 un)).setCell ⟨p + 1 + 1, 7, none⟩ (.int .u8 st)).setCell ⟨p + 1 + 1 + 1, 0, none⟩ (.int .i64 ep)).setCell ⟨p + 1 + 1 + 1, 1, none⟩ (.slice A3 n c3)) (p + 1 + 1) 0) ∧ ((((((((((w0.setCell ⟨p + 1 + 1, 0, none⟩ (.int .i64 num)).setCell ⟨p + 1 + 1, 1, none⟩ (.string lo)).setCell ⟨p + 1 + 1, 2, none⟩ (.string hi)).setCell ⟨p + 1 + 1, 3, none⟩ (.int .i64 fr)).setCell ⟨p + 1 + 1, 4, none⟩ (.int .i64 to)).setCell ⟨p + 1 + 1, 5, none⟩ (.int .i64 xe)).setCell ⟨p + 1 + 1, 6, none⟩ (.int .i64 un)).setCell ⟨p + 1 + 1, 7, none⟩ (.int .u8 st)).setCell ⟨p + 1 + 1 + 1, 0, none⟩ (.int .i64 ep)).setCell ⟨p + 1 + 1 + 1, 1, none⟩ (.slice A3 n c3)).frozen? ⟨p + 1 + 1, 0, none⟩ = false ∧ ((((((((((w0.setCell ⟨p + 1 + 1, 0, none⟩ (.int .i64 num)).setCell ⟨p + 1 + 1, 1, none⟩ (.string lo)).setCell ⟨p + 1 + 1, 2, none⟩ (.string hi)).setCell ⟨p + 1 + 1, 3, none⟩ (.int .i64 fr)).setCell ⟨p + 1 + 1, 4, none⟩ (.int .i64 to)).setCell ⟨p + 1 + 1, 5, none⟩ (.int .i64 xe)).setCell ⟨p + 1 + 1, 6, none⟩ (.int .i64 un)).setCell ⟨p + 1 + 1, 7, none⟩ (.int .u8 st)).setCell ⟨p + 1 + 1 + 1, 0, none⟩ (.int .i64 ep)).setCell ⟨p + 1 + 1 + 1, 1, none⟩ (.slice A3 n c3)).cell? ⟨p + 1 + 1, 1, none⟩ = some (cellOf ((((((((((w0.setCell ⟨p + 1 + 1, 0, none⟩ (.int .i64 num)).setCell ⟨p + 1 + 1, 1, none⟩ (.string lo)).setCell ⟨p + 1 + 1, 2, none⟩ (.string hi)).setCell ⟨p + 1 + 1, 3, none⟩ (.int .i64 fr)).setCell ⟨p + 1 + 1, 4, none⟩ (.int .i64 to)).setCell ⟨p + 1 + 1, 5, none⟩ (.int .i64 xe)).setCell ⟨p + 1 + 1, 6, none⟩ (.int .i64 un)).setCell ⟨p + 1 + 1, 7, none⟩ (.int .u8 st)).setCell ⟨p + 1 + 1 + 1, 0, none⟩ (.int .i64 ep)).setCell ⟨p + 1 + 1 + 1, 1, none⟩ (.slice A3 n c3)) (p + 1 + 1) 1) ∧ ((((((((((w0.setCell ⟨p + 1 + 1, 0, none⟩ (.int .i64 num)).setCell ⟨p + 1 + 1, 1, none⟩ (.string lo)).setCell ⟨p + 1 + 1, 2, none⟩ (.string hi)).setCell ⟨p + 1 + 1, 3, none⟩ (.int .i64 fr)).setCell ⟨p + 1 + 1, 4, none⟩ (.int .i64 to)).setCell ⟨p + 1 + 1, 5, none⟩ (.int .i64 xe)).setCell ⟨p + 1 + 1, 6, none⟩ (.int .i64 un)).setCell ⟨p + 1 + 1, 7, none⟩ (.int .u8 st)).setCell ⟨p + 1 + 1 + 1, 0, none⟩ (.int .i64 ep)).setCell ⟨p + 1 + 1 + 1, 1, none⟩ (.slice A3 n c3)).frozen? ⟨p + 1 + 1, 1, none⟩ = false ∧ ((((((((((w0.setCell ⟨p + 1 + 1, 0, none⟩ (.int .i64 num)).setCell ⟨p + 1 + 1, 1, none⟩ (.string lo)).setCell ⟨p + 1 + 1, 2, none⟩ (.string hi)).setCell ⟨p + 1 + 1, 3, none⟩ (.int .i64 fr)).setCell ⟨p + 1 + 1, 4, none⟩ (.int .i64 to)).setCell ⟨p + 1 + 1, 5, none⟩ (.int .i64 xe)).setCell ⟨p + 1 + 1, 6, none⟩ (.int .i64 un)).setCell ⟨p + 1 + 1, 7, none⟩ (.int .u8 st)).setCell ⟨p + 1 + 1 + 1, 0, none⟩ (.int .i64 ep)).setCell ⟨p + 1 + 1 + 1, 1, none⟩ (.slice A3 n c3)).cell? ⟨p + 1 + 1, 2, none⟩ = some (cellOf ((((((((((w0.setCell ⟨p + 1 + 1, 0, none⟩ (.int .i64 num)).setCell ⟨p + 1 + 1, 1, none⟩ (.string lo)).setCell ⟨p + 1 + 1, 2, none⟩ (.string hi)).setCell ⟨p + 1 + 1, 3, none⟩ (.int .i64 fr)).setCell ⟨p + 1 + 1, 4, none⟩ (.int .i64 to)).setCell ⟨p + 1 + 1, 5, none⟩ (.int .i64 xe)).setCell ⟨p + 1 + 1, 6, none⟩ (.int .i64 un)).setCell ⟨p + 1 + 1, 7, none⟩ (.int .u8 st)).setCell ⟨p + 1 + 1 + 1, 0, none⟩ (.int .i64 ep)).setCell ⟨p + 1 + 1 + 1, 1, none⟩ (.slice A3 n c3)) (p + 1 + 1) 2) ∧ ((((((((((w0.setCell ⟨p + 1 + 1, 0, none⟩ (.int .i64 num)).setCell ⟨p + 1 + 1, 1, none⟩ (.string lo)).setCell ⟨p + 1 + 1, 2, none⟩ (.string hi)).setCell ⟨p + 1 + 1, 3, none⟩ (.int .i64 fr)).setCell ⟨p + 1 + 1, 4, none⟩ (.int .i64 to)).setCell ⟨p + 1 + 1, 5, none⟩ (.int .i64 xe)).setCell ⟨p + 1 + 1, 6, none⟩ (.int .i64 un)).setCell ⟨p + 1 + 1, 7, none⟩ (.int .u8 st)).setCell ⟨p + 1 + 1 + 1, 0, none⟩ (.int .i64 ep)).setCell ⟨p + 1 + 1 + 1, 1, none⟩ (.slice A3 n c3)).frozen? ⟨p + 1 + 1, 2, none⟩ = false ∧ ((((((((((w0.setCell ⟨p + 1 + 1, 0, none⟩ (.int .i64 num)).setCell ⟨p + 1 + 1, 1, none⟩ (.string lo)).setCell ⟨p + 1 + 1, 2, none⟩ (.string hi)).setCell ⟨p + 1 + 1, 3, none⟩ (.int .i64 fr)).setCell ⟨p + 1 + 1, 4, none⟩ (.int .i64 to)).setCell ⟨p + 1 + 1, 5, none⟩ (.int .i64 xe)).setCell ⟨p + 1 + 1, 6, none⟩ (.int .i64 un)).setCell ⟨p + 1 + 1, 7, none⟩ (.int .u8 st)).setCell ⟨p + 1 + 1 + 1, 0, none⟩ (.int .i64 ep)).setCell ⟨p + 1 + 1 + 1, 1, none⟩ (.slice A3 n c3)).cell? ⟨p + 1 + 1, 3, none⟩ = some (cellOf ((((((((((w0.setCell ⟨p + 1 + 1, 0, none⟩ (.int .i64 num)).setCell ⟨p + 1 + 1, 1, none⟩ (.string lo)).setCell ⟨p + 1 + 1, 2, none⟩ (.string hi)).setCell ⟨p + 1 + 1, 3, none⟩ (.int .i64 fr)).setCell ⟨p + 1 + 1, 4, none⟩ (.int .i64 to)).setCell ⟨p + 1 + 1, 5, none⟩ (.int .i64 xe)).setCell ⟨p + 1 + 1, 6, none⟩ (.int .i64 un)).setCell ⟨p + 1 + 1, 7, none⟩ (.int .u8 st)).setCell ⟨p + 1 + 1 + 1, 0, none⟩ (.int .i64 ep)).setCell ⟨p + 1 + 1 + 1, 1, none⟩ (.slice A3 n c3)) (p + 1 + 1) 3) ∧ ((((((((((w0.setCell ⟨p + 1 + 1, 0, none⟩ (.int .i64 num)).setCell ⟨p + 1 + 1, 1, none⟩ (.string lo)).setCell ⟨p + 1 + 1, 2, none⟩ (.string hi)).setCell ⟨p + 1 + 1, 3, none⟩ (.int .i64 fr)).setCell ⟨p + 1 + 1, 4, none⟩ (.int .i64 to)).setCell ⟨p + 1 + 1, 5, none⟩ (.int .i64 xe)).setCell ⟨p + 1 + 1, 6, none⟩ (.int .i64 un)).setCell ⟨p + 1 + 1, 7, none⟩ (.int .u8 st)).setCell ⟨p + 1 + 1 + 1, 0, none⟩ (.int .i64 ep)).setCell ⟨p + 1 + 1 + 1, 1, none⟩ (.slice A3 n c3)).frozen? ⟨p + 1 + 1, 3, none⟩ = false ∧ ((((((((((w0.setCell ⟨p + 1 + 1, 0, none⟩ (.int .i64 num)).setCell ⟨p + 1 + 1, 1, none⟩ (.string lo)).setCell ⟨p + 1 + 1, 2, none⟩ (.string hi)).setCell ⟨p + 1 + 1, 3, none⟩ (.int .i64 fr)).setCell ⟨p + 1 + 1, 4, none⟩ (.int .i64 to)).setCell ⟨p + 1 + 1, 5, none⟩ (.int .i64 xe)).setCell ⟨p + 1 + 1, 6, none⟩ (.int .i64 un)).setCell ⟨p + 1 + 1, 7, none⟩ (.int .u8 st)).setCell ⟨p + 1 + 1 + 1, 0, none⟩ (.int .i64 ep)).setCell ⟨p + 1 + 1 + 1, 1, none⟩ (.slice A3 n c3)).cell? ⟨p + 1 + 1, 4, none⟩ = some (cellOf ((((((((((w0.setCell ⟨p + 1 + 1, 0, none⟩ (.int .i64 num)).setCell ⟨p + 1 + 1, 1, none⟩ (.string lo)).setCell ⟨p + 1 + 1, 2, none⟩ (.string hi)).setCell ⟨p + 1 + 1, 3, none⟩ (.int .i64 fr)).setCell ⟨p + 1 + 1, 4, none⟩ (.int .i64 to)).setCell ⟨p + 1 + 1, 5, none⟩ (.int .i64 xe)).setCell ⟨p + 1 + 1, 6, none⟩ (.int .i64 un)).setCell ⟨p + 1 + 1, 7, none⟩ (.int .u8 st)).setCell ⟨p + 1 + 1 + 1, 0, none⟩ (.int .i64 ep)).setCell ⟨p + 1 + 1 + 1, 1, none⟩ (.slice A3 n c3)) (p + 1 + 1) 4) ∧ ((((((((((w0.setCell ⟨p + 1 + 1, 0, none⟩ (.int .i64 num)).setCell ⟨p + 1 + 1, 1, none⟩ (.string lo)).setCell ⟨p + 1 + 1, 2, none⟩ (.string hi)).setCell ⟨p + 1 + 1, 3, none⟩ (.int .i64 fr)).setCell ⟨p + 1 + 1, 4, none⟩ (.int .i64 to)).setCell ⟨p + 1 + 1, 5, none⟩ (.int .i64 xe)).setCell ⟨p + 1 + 1, 6, none⟩ (.int .i64 un)).setCell ⟨p + 1 + 1, 7, none⟩ (.int .u8 st)).setCell ⟨p + 1 + 1 + 1, 0, none⟩ (.int .i64 ep)).setCell ⟨p + 1 + 1 + 1, 1, none⟩ (.slice A3 n c3)).frozen? ⟨p + 1 + 1, 4, none⟩ = false ∧ ((((((((((w0.setCell ⟨p + 1 + 1, 0, none⟩ (.int .i64 num)).setCell ⟨p + 1 + 1, 1, none⟩ (.string lo)).setCell ⟨p + 1 + 1, 2, none⟩ (.string hi)).setCell ⟨p + 1 + 1, 3, none⟩ (.int .i64 fr)).setCell ⟨p + 1 + 1, 4, none⟩ (.int .i64 to)).setCell ⟨p + 1 + 1, 5, none⟩ (.int .i64 xe)).setCell ⟨p + 1 + 1, 6, none⟩ (.int .i64 un)).setCell ⟨p + 1 + 1, 7, none⟩ (.int .u8 st)).setCell ⟨p + 1 + 1 + 1, 0, none⟩ (.int .i64 ep)).setCell ⟨p + 1 + 1 + 1, 1, none⟩ (.slice A3 n c3)).cell? ⟨p + 1 + 1, 5, none⟩ = some (cellOf ((((((((((w0.setCell ⟨p + 1 + 1, 0, none⟩ (.int .i64 num)).setCell ⟨p + 1 + 1, 1, none⟩ (.string lo)).setCell ⟨p + 1 + 1, 2, none⟩ (.string hi)).setCell ⟨p + 1 + 1, 3, none⟩ (.int .i64 fr)).setCell ⟨p + 1 + 1, 4, none⟩ (.int .i64 to)).setCell ⟨p + 1 + 1, 5, none⟩ (.int .i64 xe)).setCell ⟨p + 1 + 1, 6, none⟩ (.int .i64 un)).setCell ⟨p + 1 + 1, 7, none⟩ (.int .u8 st)).setCell ⟨p + 1 + 1 + 1, 0, none⟩ (.int .i64 ep)).setCell ⟨p + 1 + 1 + 1, 1, none⟩ (.slice A3 n c3)) (p + 1 + 1) 5) ∧ ((((((((((w0.setCell ⟨p + 1 + 1, 0, none⟩ (.int .i64 num)).setCell ⟨p + 1 + 1, 1, none⟩ (.string lo)).setCell ⟨p + 1 + 1, 2, none⟩ (.string hi)).setCell ⟨p + 1 + 1, 3, none⟩ (.int .i64 fr)).setCell ⟨p + 1 + 1, 4, none⟩ (.int .i64 to)).setCell ⟨p + 1 + 1, 5, none⟩ (.int .i64 xe)).setCell ⟨p + 1 + 1, 6, none⟩ (.int .i64 un)).setCell ⟨p + 1 + 1, 7, none⟩ (.int .u8 st)).setCell ⟨p + 1 + 1 + 1, 0, none⟩ (.int .i64 ep)).setCell ⟨p + 1 + 1 + 1, 1, none⟩ (.slice A3 n c3)).frozen? ⟨p + 1 + 1, 5, none⟩ = false ∧ ((((((((((w0.setCell ⟨p + 1 + 1, 0, none⟩ (.int .i64 num)).setCell ⟨p + 1 + 1, 1, none⟩ (.string lo)).setCell ⟨p + 1 + 1, 2, none⟩ (.string hi)).setCell ⟨p + 1 + 1, 3, none⟩ (.int .i64 fr)).setCell ⟨p + 1 + 1, 4, none⟩ (.int .i64 to)).setCell ⟨p + 1 + 1, 5, none⟩ (.int .i64 xe)).setCell ⟨p + 1 + 1, 6, none⟩ (.int .i64 un)).setCell ⟨p + 1 + 1, 7, none⟩ (.int .u8 st)).setCell ⟨p + 1 + 1 + 1, 0, none⟩ (.int .i64 ep)).setCell ⟨p + 1 + 1 + 1, 1, none⟩ (.slice A3 n c3)).cell? ⟨p + 1 + 1, 6, none⟩ = some (cellOf ((((((((((w0.setCell ⟨p + 1 + 1, 0, none⟩ (.int .i64 num)).setCell ⟨p + 1 + 1, 1, none⟩ (.string lo)).setCell ⟨p + 1 + 1, 2, none⟩ (.string hi)).setCell ⟨p + 1 + 1, 3, none⟩ (.int .i64 fr)).setCell ⟨p + 1 + 1, 4, none⟩ (.int .i64 to)).setCell ⟨p + 1 + 1, 5, none⟩ (.int .i64 xe)).setCell ⟨p + 1 + 1, 6, none⟩ (.int .i64 un)).setCell ⟨p + 1 + 1, 7, none⟩ (.int .u8 st)).setCell ⟨p + 1 + 1 + 1, 0, none⟩ (.int .i64 ep)).setCell ⟨p + 1 + 1 + 1, 1, none⟩ (.slice A3 n c3)) (p + 1 + 1) 6) ∧ ((((((((((w0.setCell ⟨p + 1 + 1, 0, none⟩ (.int .i64 num)).setCell ⟨p + 1 + 1, 1, none⟩ (.string lo)).setCell ⟨p + 1 + 1, 2, none⟩ (.string hi)).setCell ⟨p + 1 + 1, 3, none⟩ (.int .i64 fr)).setCell ⟨p + 1 + 1, 4, none⟩ (.int .i64 to)).setCell ⟨p + 1 + 1, 5, none⟩ (.int .i64 xe)).setCell ⟨p + 1 + 1, 6, none⟩ (.int .i64 un)).setCell ⟨p + 1 + 1, 7, none⟩ (.int .u8 st)).setCell ⟨p + 1 + 1 + 1, 0, none⟩ (.int .i64 ep)).setCell ⟨p + 1 + 1 + 1, 1, none⟩ (.slice A3 n c3)).frozen? ⟨p + 1 + 1, 6, none⟩ = false ∧ ((((((((((w0.setCell ⟨p + 1 + 1, 0, none⟩ (.int .i64 num)).setCell ⟨p + 1 + 1, 1, none⟩ (.string lo)).setCell ⟨p + 1 + 1, 2, none⟩ (.string hi)).setCell ⟨p + 1 + 1, 3, none⟩ (.int .i64 fr)).setCell ⟨p + 1 + 1, 4, none⟩ (.int .i64 to)).setCell ⟨p + 1 + 1, 5, none⟩ (.int .i64 xe)).setCell ⟨p + 1 + 1, 6, none⟩ (.int .i64 un)).setCell ⟨p + 1 + 1, 7, none⟩ (.int .u8 st)).setCell ⟨p + 1 + 1 + 1, 0, none⟩ (.int .i64 ep)).setCell ⟨p + 1 + 1 + 1, 1, none⟩ (.slice A3 n c3)).cell? ⟨p + 1 + 1, 7, none⟩ = some (cellOf ((((((((((w0.setCell ⟨p + 1 + 1, 0, none⟩ (.int .i64 num)).setCell ⟨p + 1 + 1, 1, none⟩ (.string lo)).setCell ⟨p + 1 + 1, 2, none⟩ (.string hi)).setCell ⟨p + 1 + 1, 3, none⟩ (.int .i64 fr)).setCell ⟨p + 1 + 1, 4, none⟩ (.int .i64 to)).setCell ⟨p + 1 + 1, 5, none⟩ (.int .i64 xe)).setCell ⟨p + 1 + 1, 6, none⟩ (.int .i64 un)).setCell ⟨p + 1 + 1, 7, none⟩ (.int .u8 st)).setCell ⟨p + 1 + 1 + 1, 0, none⟩ (.int .i64 ep)).setCell ⟨p + 1 + 1 + 1, 1, none⟩ (.slice A3 n c3)) (p + 1 + 1) 7) ∧ ((((((((((w0.setCell ⟨p + 1 + 1, 0, none⟩ (.int .i64 num)).setCell ⟨p + 1 + 1, 1, none⟩ (.string lo)).setCell ⟨p + 1 + 1, 2, none⟩ (.string hi)).setCell ⟨p + 1 + 1, 3, none⟩ (.int .i64 fr)).setCell ⟨p + 1 + 1, 4, none⟩ (.int .i64 to)).setCell ⟨p + 1 + 1, 5, none⟩ (.int .i64 xe)).setCell ⟨p + 1 + 1, 6, none⟩ (.int .i64 un)).setCell ⟨p + 1 + 1, 7, none⟩ (.int .u8 st)).setCell ⟨p + 1 + 1 + 1, 0, none⟩ (.int .i64 ep)).setCell ⟨p + 1 + 1 + 1, 1, none⟩ (.slice A3 n c3)).frozen? ⟨p + 1 + 1, 7, none⟩ = false ∧ ((((((((((w0.setCell ⟨p + 1 + 1, 0, none⟩ (.int .i64 num)).setCell ⟨p + 1 + 1, 1, none⟩ (.string lo)).setCell ⟨p + 1 + 1, 2, none⟩ (.string hi)).setCell ⟨p + 1 + 1, 3, none⟩ (.int .i64 fr)).setCell ⟨p + 1 + 1, 4, none⟩ (.int .i64 to)).setCell ⟨p + 1 + 1, 5, none⟩ (.int .i64 xe)).setCell ⟨p + 1 + 1, 6, none⟩ (.int .i64 un)).setCell ⟨p + 1 + 1, 7, none⟩ (.int .u8 st)).setCell ⟨p + 1 + 1 + 1, 0, none⟩ (.int .i64 ep)).setCell ⟨p + 1 + 1 + 1, 1, none⟩ (.slice A3 n c3)).cell? ⟨p + 1 + 1 + 1, 0, none⟩ = some (cellOf ((((((((((w0.setCell ⟨p + 1 + 1, 0, none⟩ (.int .i64 num)).setCell ⟨p + 1 + 1, 1, none⟩ (.string lo)).setCell ⟨p + 1 + 1, 2, none⟩ (.string hi)).setCell ⟨p + 1 + 1, 3, none⟩ (.int .i64 fr)).setCell ⟨p + 1 + 1, 4, none⟩ (.int .i64 to)).setCell ⟨p + 1 + 1, 5, none⟩ (.int .i64 xe)).setCell ⟨p + 1 + 1, 6, none⟩ (.int .i64 un)).setCell ⟨p + 1 + 1, 7, none⟩ (.int .u8 st)).setCell ⟨p + 1 + 1 + 1, 0, none⟩ (.int .i64 ep)).setCell ⟨p + 1 + 1 + 1, 1, none⟩ (.slice A3 n c3)) (p + 1 + 1 + 1) 0) ∧ ((((((((((w0.setCell ⟨p + 1 + 1, 0, none⟩ (.int .i64 num)).setCell ⟨p + 1 + 1, 1, none⟩ (.string lo)).setCell ⟨p + 1 + 1, 2, none⟩ (.string hi)).setCell ⟨p + 1 + 1, 3, none⟩ (.int .i64 fr)).setCell ⟨p + 1 + 1, 4, none⟩ (.int .i64 to)).setCell ⟨p + 1 + 1, 5, none⟩ (.int .i64 xe)).setCell ⟨p + 1 + 1, 6, none⟩ (.int .i64 un)).setCell ⟨p + 1 + 1, 7, none⟩ (.int .u8 st)).setCell ⟨p + 1 + 1 + 1, 0, none⟩ (.int .i64 ep)).setCell ⟨p + 1 + 1 + 1, 1, none⟩ (.slice A3 n c3)).frozen? ⟨p + 1 + 1 + 1, 0, none⟩ = false ∧ ((((((((((w0.setCell ⟨p + 1 + 1, 0, none⟩ (.int .i64 num)).setCell ⟨p + 1 + 1, 1, none⟩ (.string lo)).setCell ⟨p + 1 + 1, 2, none⟩ (.string hi)).setCell ⟨p + 1 + 1, 3, none⟩ (.int .i64 fr)).setCell ⟨p + 1 + 1, 4, none⟩ (.int .i64 to)).setCell ⟨p + 1 + 1, 5, none⟩ (.int .i64 xe)).setCell ⟨p + 1 + 1, 6, none⟩ (.int .i64 un)).setCell ⟨p + 1 + 1, 7, none⟩ (.int .u8 st)).setCell ⟨p + 1 + 1 + 1, 0, none⟩ (.int .i64 ep)).setCell ⟨p + 1 + 1 + 1, 1, none⟩ (.slice A3 n c3)).cell? ⟨p + 1 + 1 + 1, 1, none⟩ = some (cellOf ((((((((((w0.setCell ⟨p + 1 + 1, 0, none⟩ (.int .i64 num)).setCell ⟨p + 1 + 1, 1, none⟩ (.string lo)).setCell ⟨p + 1 + 1, 2, none⟩ (.string hi)).setCell ⟨p + 1 + 1, 3, none⟩ (.int .i64 fr)).setCell ⟨p + 1 + 1, 4, none⟩ (.int .i64 to)).setCell ⟨p + 1 + 1, 5, none⟩ (.int .i64 xe)).setCell ⟨p + 1 + 1, 6, none⟩ (.int .i64 un)).setCell ⟨p + 1 + 1, 7, none⟩ (.int .u8 st)).setCell ⟨p + 1 + 1 + 1, 0, none⟩ (.int .i64 ep)).setCell ⟨p + 1 + 1 + 1, 1, none⟩ (.slice A3 n c3)) (p + 1 + 1 + 1) 1) ∧ ((((((((((w0.setCell ⟨p + 1 + 1, 0, none⟩ (.int .i64 num)).setCell ⟨p + 1 + 1, 1, none⟩ (.string lo)).setCell ⟨p + 1 + 1, 2, none⟩ (.string hi)).setCell ⟨p + 1 + 1, 3, none⟩ (.int .i64 fr)).setCell ⟨p + 1 + 1, 4, none⟩ (.int .i64 to)).setCell ⟨p + 1 + 1, 5, none⟩ (.int .i64 xe)).setCell ⟨p + 1 + 1, 6, none⟩ (.int .i64 un)).setCell ⟨p + 1 + 1, 7, none⟩ (.int .u8 st)).setCell ⟨p + 1 + 1 + 1, 0, none⟩ (.int .i64 ep)).setCell ⟨p + 1 + 1 + 1, 1, none⟩ (.slice A3 n c3)).frozen? ⟨p + 1 + 1 + 1, 1, none⟩ = false := ((h.put8 (y := ⟨num, ⟨lo, hi⟩, fr, to, xe, un, st⟩)).put2 (a := .int .i64 ep) (b := .slice A3 n c3)).raw

set_option maxRecDepth 100000 in
set_option maxHeartbeats 4000000 in
theorem step_w (x : Sc) (ep : Int) (A : Option Addr) (c : Nat) (xs : List Sh) (sto : Int) (hn6 : xs.length ≤ 1000) (hnc : xs.length ≤ c) (w : World) (hI : SharesAt w A xs) :
    Calls Tryz.prog 29 #[scV x, .agg #[.int .i64 ep, .slice A xs.length c], .int .u8 sto] w (StepQ w ep xs x sto) := by
  have HRT := Lib.hid (fun w' (hs : ScsAt w' (some ⟨w.heap.size + 1 + 1 + 1 + 1, 0, none⟩) [x]) => scRight_w (some ⟨w.heap.size + 1 + 1 + 1 + 1, 0, none⟩) 1 1 [x] rfl (by decide) w' hs)
  have HSR := Lib.hid (fun w' (k : Ok w w') => sharesRight_w ep A xs.length c xs rfl hn6 w' (hI.ok k))
  have HGO := Lib.hid (goes_w x.st sto)
  have HCP := Lib.hid (fun w' (k : Ok w w') => copySh_w ep A c xs hn6 w' (hI.ok k))
  have HTS := Lib.hid (fun w' (k : Ok w w') => turnS_w x ep A c xs hn6 hnc w' (hI.ok k))
  have HSC := Lib.hid (fun W' : World => scs_one W' x)
  have hone : [x].all scB = scB x := by simp
  rw [hone] at HRT
  obtain ⟨Q, hQ⟩ : ∃ Q, StepQ w ep xs x sto = Q := ⟨_, rfl⟩
  rw [hQ]
  unfold StepQ at hQ
  generalize goesB x.st sto = go at HGO hQ
  obtain ⟨n, hn⟩ : ∃ n, xs.length = n := ⟨_, rfl⟩
  have HN := Lib.hid hn
  rw [hn] at HSR HCP HTS hn6 hnc ⊢
  generalize scB x = rx at HRT hQ
  generalize sharesB ep xs = rs at HSR hQ
  have HQ := Lib.hid hQ
  have hxe : ∀ s, ({ x with st := s } : Sc) = ⟨x.num, ⟨x.sp.lo, x.sp.hi⟩, x.fr, x.to, x.ep, x.un, s⟩ := fun s => rfl
  clear hQ hn hone hI
  obtain ⟨num, ⟨lo, hi⟩, fr, to, xe, un, st⟩ := x
  have HTP := Lib.hid (fun (w0 : World) e w' => @TurnP.laid w0 ep xs ⟨num, ⟨lo, hi⟩, fr, to, xe, un, st⟩ e w')
  unfold scV at HTS ⊢
  simp only at HRT HGO HTS HSC HQ ⊢
  obtain ⟨p, hp⟩ : ∃ p, w.heap.size = p := ⟨_, rfl⟩
  rw [hp] at HRT
  have hpw : w.heap.size ≤ p := by omega
  go_enter Tryz.func29, Tryz.ntmps29
  go_wp2_with fail
  have hz : ((((w.alloc (.cells #[.int .i64 num, .string lo, .string hi, .int .i64 fr, .int .i64 to, .int .i64 xe, .int .i64 un, .int .u8 st] 52)).alloc (.cells #[.int .i64 ep, .slice A n c] 24)).alloc (.cells #[.int .i64 0, .string ⟨#[]⟩, .string ⟨#[]⟩, .int .i64 0, .int .i64 0, .int .i64 0, .int .i64 0, .int .u8 0] 52)).alloc (.cells #[.int .i64 0, .slice none 0 0] 24)).heap.size = p + 1 + 1 + 1 + 1 := by subst hp; simp
  have HSC1 := HSC.out ((((w.alloc (.cells #[.int .i64 num, .string lo, .string hi, .int .i64 fr, .int .i64 to, .int .i64 xe, .int .i64 un, .int .u8 st] 52)).alloc (.cells #[.int .i64 ep, .slice A n c] 24)).alloc (.cells #[.int .i64 0, .string ⟨#[]⟩, .string ⟨#[]⟩, .int .i64 0, .int .i64 0, .int .i64 0, .int .i64 0, .int .u8 0] 52)).alloc (.cells #[.int .i64 0, .slice none 0 0] 24))
  rw [hz] at HSC1
  generalize hW : ((((w.alloc (.cells #[.int .i64 num, .string lo, .string hi, .int .i64 fr, .int .i64 to, .int .i64 xe, .int .i64 un, .int .u8 st] 52)).alloc (.cells #[.int .i64 ep, .slice A n c] 24)).alloc (.cells #[.int .i64 0, .string ⟨#[]⟩, .string ⟨#[]⟩, .int .i64 0, .int .i64 0, .int .i64 0, .int .i64 0, .int .u8 0] 52)).alloc (.cells #[.int .i64 0, .slice none 0 0] 24)).alloc (.cells #[.int .i64 num, .string lo, .string hi, .int .i64 fr, .int .i64 to, .int .i64 xe, .int .i64 un, .int .u8 st] 52) = W at HSC1 ⊢
  have OKV : Hid (Ok w W) := Lib.hid (by subst hW; exact Ok.alloc (Ok.alloc (Ok.alloc (Ok.alloc (Ok.alloc (Ok.refl w) _) _) _) _) _)
  have HX : Hid (Sc8 W p ⟨num, ⟨lo, hi⟩, fr, to, xe, un, st⟩) := Lib.hid (by subst hW; subst hp; constructor <;> go_cell)
  have HR : Hid (Sc8 W (p + 1 + 1) sc0) := Lib.hid (by subst hW; subst hp; unfold sc0 allS; constructor <;> go_cell)
  have S0 : W.cell? ⟨p + 1, 0, none⟩ = some (.int .i64 ep) := by subst hW; subst hp; go_cell
  have S1 : W.cell? ⟨p + 1, 1, none⟩ = some (.slice A n c) := by subst hW; subst hp; go_cell
  have HT : Hid (W.cell? ⟨p + 1 + 1 + 1, 0, none⟩ = some (.int .i64 0) ∧ W.cell? ⟨p + 1 + 1 + 1, 1, none⟩ = some (.slice none 0 0)) := Lib.hid (by subst hW; subst hp; constructor <;> go_cell)
  have HFX : Hid (Fz W p 8) := Lib.hid (by
    subst hW; subst hp; intro j hj
    obtain rfl | rfl | rfl | rfl | rfl | rfl | rfl | rfl : j = 0 ∨ j = 1 ∨ j = 2 ∨ j = 3 ∨ j = 4 ∨ j = 5 ∨ j = 6 ∨ j = 7 := by omega
    all_goals go_cell)
  have HFR : Hid (Fz W (p + 1 + 1) 8) := Lib.hid (by
    subst hW; subst hp; intro j hj
    obtain rfl | rfl | rfl | rfl | rfl | rfl | rfl | rfl : j = 0 ∨ j = 1 ∨ j = 2 ∨ j = 3 ∨ j = 4 ∨ j = 5 ∨ j = 6 ∨ j = 7 := by omega
    all_goals go_cell)
  have HFT : Hid (Fz W (p + 1 + 1 + 1) 2) := Lib.hid (by
    subst hW; subst hp; intro j hj
    obtain rfl | rfl : j = 0 ∨ j = 1 := by omega
    all_goals go_cell)
  clear hW hz HSC
  refine (HRT.out W HSC1).mono ?_
  rintro _ w1 ⟨rfl, o1⟩
  clear HSC1 HRT
  replace HFX := Lib.hid (HFX.out.ok HX.out.c0 o1)
  replace HFR := Lib.hid (HFR.out.ok HR.out.c0 o1)
  replace HFT := Lib.hid (HFT.out.ok HT.out.1 o1)
  replace HX := Lib.hid (HX.out.ok o1)
  replace HR := Lib.hid (HR.out.ok o1)
  replace HT := Lib.hid (And.intro (Ok.cell o1 HT.out.1) (Ok.cell o1 HT.out.2))
  replace S0 := Ok.cell o1 S0
  replace S1 := Ok.cell o1 S1
  replace OKV := Lib.hid (Ok.call OKV.out o1)
  clear o1
  cases rx with
  | false =>
    have HQK : Hid (StepP w 2 sc0 0 [] = Q) := Lib.hid ((if_pos rfl).symm.trans HQ.out)
    clear HQ
    obtain ⟨R0, R1, R2, R3, R4, R5, R6, R7⟩ := HR.out
    obtain ⟨T0, T1⟩ := HT.out
    have f0 := HFR.out 0 (by decide); have f1 := HFR.out 1 (by decide); have f2 := HFR.out 2 (by decide); have f3 := HFR.out 3 (by decide); have f4 := HFR.out 4 (by decide); have f5 := HFR.out 5 (by decide); have f6 := HFR.out 6 (by decide); have f7 := HFR.out 7 (by decide)
    have t0 := HFT.out 0 (by decide); have t1 := HFT.out 1 (by decide)
    unfold sc0 allS at R0 R1 R2 R3 R4 R5 R6 R7
    simp only at R0 R1 R2 R3 R4 R5 R6 R7
    go_wp2
    have B8 := (HR.out.put8 sc0).put2 (p := p + 1 + 1 + 1) (a := .int .i64 0) (b := .slice none 0 0) (by omega)
    have C2 := two_put2 (a := .int .i64 0) (b := .slice none 0 0) (other8 (p := p + 1 + 1) (x := sc0) (by omega) HT.out.1) (other8 (p := p + 1 + 1) (x := sc0) (by omega) HT.out.2)
    (try simp only [Exit.inBlock, Exit.then])
    change bodyPost Tryz.prog _ _ Exit.ret _ (put2 (put8 w1 (p + 1 + 1) sc0) (p + 1 + 1 + 1) (.int .i64 0) (.slice none 0 0))
    obtain ⟨Z, hZ⟩ : ∃ Z, put2 (put8 w1 (p + 1 + 1) sc0) (p + 1 + 1 + 1) (.int .i64 0) (.slice none 0 0) = Z := ⟨_, rfl⟩
    have OKZ : Ok w Z := by rw [← hZ]; exact Ok.put2 (Ok.put8 OKV.out (by omega)) (by omega)

    rw [hZ] at B8 C2 ⊢
    obtain ⟨b0, b1, b2, b3, b4, b5, b6, b7⟩ := B8
    replace b0 : Z.cell? _ = _ := b0
    replace b1 : Z.cell? _ = _ := b1
    replace b2 : Z.cell? _ = _ := b2
    replace b3 : Z.cell? _ = _ := b3
    replace b4 : Z.cell? _ = _ := b4
    replace b5 : Z.cell? _ = _ := b5
    replace b6 : Z.cell? _ = _ := b6
    replace b7 : Z.cell? _ = _ := b7
    have c0 : Z.cell? _ = _ := C2.1
    have c2 : Z.cell? _ = _ := C2.2
    refine bodyPost_ret (by simp [results, Tryz.results29, go_sem, b0, b1, b2, b3, b4, b5, b6, b7, c0, c2]; try rfl) rfl ?_
    rw [← HQK.out]
    exact StepP.err rfl OKZ
  | true =>
  go_wp2_with fail
  refine (HSR.out w1 OKV.out).mono ?_
  rintro _ w2 ⟨rfl, o2⟩
  clear HSR
  replace HFX := Lib.hid (HFX.out.ok HX.out.c0 o2)
  replace HFR := Lib.hid (HFR.out.ok HR.out.c0 o2)
  replace HFT := Lib.hid (HFT.out.ok HT.out.1 o2)
  replace HX := Lib.hid (HX.out.ok o2)
  replace HR := Lib.hid (HR.out.ok o2)
  replace HT := Lib.hid (And.intro (Ok.cell o2 HT.out.1) (Ok.cell o2 HT.out.2))
  replace S0 := Ok.cell o2 S0
  replace S1 := Ok.cell o2 S1
  replace OKV := Lib.hid (Ok.call OKV.out o2)
  clear o2
  cases rs with
  | false =>
    have HQK : Hid (StepP w 2 sc0 0 [] = Q) := Lib.hid ((if_pos rfl).symm.trans HQ.out)
    clear HQ
    obtain ⟨R0, R1, R2, R3, R4, R5, R6, R7⟩ := HR.out
    obtain ⟨T0, T1⟩ := HT.out
    have f0 := HFR.out 0 (by decide); have f1 := HFR.out 1 (by decide); have f2 := HFR.out 2 (by decide); have f3 := HFR.out 3 (by decide); have f4 := HFR.out 4 (by decide); have f5 := HFR.out 5 (by decide); have f6 := HFR.out 6 (by decide); have f7 := HFR.out 7 (by decide)
    have t0 := HFT.out 0 (by decide); have t1 := HFT.out 1 (by decide)
    unfold sc0 allS at R0 R1 R2 R3 R4 R5 R6 R7
    simp only at R0 R1 R2 R3 R4 R5 R6 R7
    go_wp2
    have B8 := (HR.out.put8 sc0).put2 (p := p + 1 + 1 + 1) (a := .int .i64 0) (b := .slice none 0 0) (by omega)
    have C2 := two_put2 (a := .int .i64 0) (b := .slice none 0 0) (other8 (p := p + 1 + 1) (x := sc0) (by omega) HT.out.1) (other8 (p := p + 1 + 1) (x := sc0) (by omega) HT.out.2)
    (try simp only [Exit.inBlock, Exit.then])
    change bodyPost Tryz.prog _ _ Exit.ret _ (put2 (put8 w2 (p + 1 + 1) sc0) (p + 1 + 1 + 1) (.int .i64 0) (.slice none 0 0))
    obtain ⟨Z, hZ⟩ : ∃ Z, put2 (put8 w2 (p + 1 + 1) sc0) (p + 1 + 1 + 1) (.int .i64 0) (.slice none 0 0) = Z := ⟨_, rfl⟩
    have OKZ : Ok w Z := by rw [← hZ]; exact Ok.put2 (Ok.put8 OKV.out (by omega)) (by omega)

    rw [hZ] at B8 C2 ⊢
    obtain ⟨b0, b1, b2, b3, b4, b5, b6, b7⟩ := B8
    replace b0 : Z.cell? _ = _ := b0
    replace b1 : Z.cell? _ = _ := b1
    replace b2 : Z.cell? _ = _ := b2
    replace b3 : Z.cell? _ = _ := b3
    replace b4 : Z.cell? _ = _ := b4
    replace b5 : Z.cell? _ = _ := b5
    replace b6 : Z.cell? _ = _ := b6
    replace b7 : Z.cell? _ = _ := b7
    have c0 : Z.cell? _ = _ := C2.1
    have c2 : Z.cell? _ = _ := C2.2
    refine bodyPost_ret (by simp [results, Tryz.results29, go_sem, b0, b1, b2, b3, b4, b5, b6, b7, c0, c2]; try rfl) rfl ?_
    rw [← HQK.out]
    exact StepP.err rfl OKZ
  | true =>
  replace HQ : Hid ((if st = sto then StepP w 0 ⟨num, ⟨lo, hi⟩, fr, to, xe, un, st⟩ ep xs else if go = false then StepP w 26 sc0 0 [] else if sto = 4 then TurnP w ep xs ⟨num, ⟨lo, hi⟩, fr, to, xe, un, st⟩ else StepP w 0 ⟨num, ⟨lo, hi⟩, fr, to, xe, un, sto⟩ ep xs) = Q) := Lib.hid (by have := HQ.out; rwa [if_neg (by decide)] at this)
  by_cases h1 : st = sto
  · have d1 : (st == sto) = true := beq_iff_eq.2 h1
    have HQK : Hid (StepP w 0 ⟨num, ⟨lo, hi⟩, fr, to, xe, un, st⟩ ep xs = Q) := Lib.hid (by have := HQ.out; rwa [if_pos h1] at this)
    clear HQ h1
    have hts : p + 1 + 1 + 1 < w2.drew.heap.size := World.block_lt_of_cell? w2 _ HT.out.1
    have HPK : Hid (Pk p ⟨num, ⟨lo, hi⟩, fr, to, xe, un, st⟩ ep (.slice A n c) w2) := Lib.hid ⟨HX.out, S0, S1, cellAt8 HR.out, cellAt2 HT.out, HFR.out, HFT.out⟩
    have raw := HPK.out.raw
    obtain ⟨X0, X1, X2, X3, X4, X5, X6, X7, -, -, R0, f0, R1, f1, R2, f2, R3, f3, R4, f4, R5, f5, R6, f6, R7, f7, T0, t0, T1, t1⟩ := raw
    clear HFX HFT HFR HGO HTS HTP
    go_wp2_with fail
    go_region_held3 (fun w' => w'.cell? ⟨p, 0, none⟩ = some (.int .i64 num) ∧ w'.cell? ⟨p, 1, none⟩ = some (.string lo) ∧ w'.cell? ⟨p, 2, none⟩ = some (.string hi) ∧ w'.cell? ⟨p, 3, none⟩ = some (.int .i64 fr) ∧ w'.cell? ⟨p, 4, none⟩ = some (.int .i64 to) ∧ w'.cell? ⟨p, 5, none⟩ = some (.int .i64 xe) ∧ w'.cell? ⟨p, 6, none⟩ = some (.int .i64 un) ∧ w'.cell? ⟨p, 7, none⟩ = some (.int .u8 st) ∧ w'.cell? ⟨p + 1, 0, none⟩ = some (.int .i64 ep) ∧ w'.cell? ⟨p + 1, 1, none⟩ = some (.slice A n c) ∧ w'.cell? ⟨p + 1 + 1, 0, none⟩ = some (cellOf w' (p + 1 + 1) 0) ∧ w'.frozen? ⟨p + 1 + 1, 0, none⟩ = false ∧ w'.cell? ⟨p + 1 + 1, 1, none⟩ = some (cellOf w' (p + 1 + 1) 1) ∧ w'.frozen? ⟨p + 1 + 1, 1, none⟩ = false ∧ w'.cell? ⟨p + 1 + 1, 2, none⟩ = some (cellOf w' (p + 1 + 1) 2) ∧ w'.frozen? ⟨p + 1 + 1, 2, none⟩ = false ∧ w'.cell? ⟨p + 1 + 1, 3, none⟩ = some (cellOf w' (p + 1 + 1) 3) ∧ w'.frozen? ⟨p + 1 + 1, 3, none⟩ = false ∧ w'.cell? ⟨p + 1 + 1, 4, none⟩ = some (cellOf w' (p + 1 + 1) 4) ∧ w'.frozen? ⟨p + 1 + 1, 4, none⟩ = false ∧ w'.cell? ⟨p + 1 + 1, 5, none⟩ = some (cellOf w' (p + 1 + 1) 5) ∧ w'.frozen? ⟨p + 1 + 1, 5, none⟩ = false ∧ w'.cell? ⟨p + 1 + 1, 6, none⟩ = some (cellOf w' (p + 1 + 1) 6) ∧ w'.frozen? ⟨p + 1 + 1, 6, none⟩ = false ∧ w'.cell? ⟨p + 1 + 1, 7, none⟩ = some (cellOf w' (p + 1 + 1) 7) ∧ w'.frozen? ⟨p + 1 + 1, 7, none⟩ = false ∧ w'.cell? ⟨p + 1 + 1 + 1, 0, none⟩ = some (cellOf w' (p + 1 + 1 + 1) 0) ∧ w'.frozen? ⟨p + 1 + 1 + 1, 0, none⟩ = false ∧ w'.cell? ⟨p + 1 + 1 + 1, 1, none⟩ = some (cellOf w' (p + 1 + 1 + 1) 1) ∧ w'.frozen? ⟨p + 1 + 1 + 1, 1, none⟩ = false)
      (first
        | (with_reducible exact HPK.out.raw)
        | (with_reducible exact (HPK.out.ok (Ok.drew (Ok.refl w2))).raw)
        | (with_reducible exact (HPK.out.ok (Ok.trans' (Ok.drew (Ok.refl w2)) o3)).raw)
        | (with_reducible exact (HPK.out.ok (Ok.trans' (Ok.drew (Ok.refl w2)) o3)).raw8)
        | (with_reducible exact (HPK.out.ok (Ok.trans' (Ok.drew (Ok.refl w2)) o3)).raw82))
      ((go_at_call 77; (with_reducible refine (HCP.out _ (Ok.drew OKV.out)).mono ?_); rintro e w3 ⟨A3, c3, rfl, hown, o3⟩))
    have o33 : Ok w2 w3 := Ok.trans' (Ok.drew (Ok.refl w2)) o3
    replace OKV := Lib.hid (Ok.call OKV.out o33)
    replace HR := Lib.hid (HR.out.ok o33)
    replace HT := Lib.hid (And.intro (Ok.cell o33 HT.out.1) (Ok.cell o33 HT.out.2))
    have HOWN := Lib.hid hown
    have hb3 : w.heap.size ≤ w2.drew.heap.size := by omega
    clear o33 hown o3 HPK HCP X0 X1 X2 X3 X4 X5 X6 X7 R0 R1 R2 R3 R4 R5 R6 R7 T0 T1 f0 f1 f2 f3 f4 f5 f6 f7 t0 t1
    go_wp2
    have B8 := (HR.out.put8 ⟨num, ⟨lo, hi⟩, fr, to, xe, un, st⟩).put2 (p := p + 1 + 1 + 1) (a := .int .i64 ep) (b := .slice A3 n c3) (by omega)
    have C2 := two_put2 (a := .int .i64 ep) (b := .slice A3 n c3) (other8 (p := p + 1 + 1) (x := ⟨num, ⟨lo, hi⟩, fr, to, xe, un, st⟩) (by omega) HT.out.1) (other8 (p := p + 1 + 1) (x := ⟨num, ⟨lo, hi⟩, fr, to, xe, un, st⟩) (by omega) HT.out.2)
    (try simp only [Exit.inBlock, Exit.then])
    change bodyPost Tryz.prog _ _ Exit.ret _ (put2 (put8 w3 (p + 1 + 1) ⟨num, ⟨lo, hi⟩, fr, to, xe, un, st⟩) (p + 1 + 1 + 1) (.int .i64 ep) (.slice A3 n c3))
    obtain ⟨Z, hZ⟩ : ∃ Z, put2 (put8 w3 (p + 1 + 1) ⟨num, ⟨lo, hi⟩, fr, to, xe, un, st⟩) (p + 1 + 1 + 1) (.int .i64 ep) (.slice A3 n c3) = Z := ⟨_, rfl⟩
    have OKZ : Ok w Z := by rw [← hZ]; exact Ok.put2 (Ok.put8 OKV.out (by omega)) (by omega)
    have HOWNZ : OwnSh Z w2.drew.heap.size A3 n c3 xs := by rw [← hZ]; exact (HOWN.out.put8 (by omega)).put2 (by omega)
    rw [hZ] at B8 C2 ⊢
    obtain ⟨b0, b1, b2, b3, b4, b5, b6, b7⟩ := B8
    replace b0 : Z.cell? _ = _ := b0
    replace b1 : Z.cell? _ = _ := b1
    replace b2 : Z.cell? _ = _ := b2
    replace b3 : Z.cell? _ = _ := b3
    replace b4 : Z.cell? _ = _ := b4
    replace b5 : Z.cell? _ = _ := b5
    replace b6 : Z.cell? _ = _ := b6
    replace b7 : Z.cell? _ = _ := b7
    have c0 : Z.cell? _ = _ := C2.1
    have c2 : Z.cell? _ = _ := C2.2
    refine bodyPost_ret (by simp [results, Tryz.results29, go_sem, b0, b1, b2, b3, b4, b5, b6, b7, c0, c2]; try rfl) rfl ?_
    rw [← HQK.out]
    refine ⟨A3, c3, by rw [HN.out]; rfl, ?_, OKZ⟩
    rw [HN.out]
    exact HOWNZ.base hb3
  · have d1 : (st == sto) = false := beq_eq_false_iff_ne.2 h1
    replace HQ : Hid ((if go = false then StepP w 26 sc0 0 [] else if sto = 4 then TurnP w ep xs ⟨num, ⟨lo, hi⟩, fr, to, xe, un, st⟩ else StepP w 0 ⟨num, ⟨lo, hi⟩, fr, to, xe, un, sto⟩ ep xs) = Q) := Lib.hid (by have := HQ.out; rwa [if_neg h1] at this)
    clear h1
    have X7 := HX.out.c7
    simp only at X7
    go_wp2_with fail
    refine (HGO.out w2).mono ?_
    rintro _ w3 ⟨rfl, o3⟩
    clear HGO X7
    replace HFX := Lib.hid (HFX.out.ok HX.out.c0 o3)
    replace HFR := Lib.hid (HFR.out.ok HR.out.c0 o3)
    replace HFT := Lib.hid (HFT.out.ok HT.out.1 o3)
    replace HX := Lib.hid (HX.out.ok o3)
    replace HR := Lib.hid (HR.out.ok o3)
    replace HT := Lib.hid (And.intro (Ok.cell o3 HT.out.1) (Ok.cell o3 HT.out.2))
    replace S0 := Ok.cell o3 S0
    replace S1 := Ok.cell o3 S1
    replace OKV := Lib.hid (Ok.call OKV.out o3)
    clear o3
    cases go with
    | false =>
      have HQK : Hid (StepP w 26 sc0 0 [] = Q) := Lib.hid ((if_pos rfl).symm.trans HQ.out)
      clear HQ
      obtain ⟨R0, R1, R2, R3, R4, R5, R6, R7⟩ := HR.out
      obtain ⟨T0, T1⟩ := HT.out
      have f0 := HFR.out 0 (by decide); have f1 := HFR.out 1 (by decide); have f2 := HFR.out 2 (by decide); have f3 := HFR.out 3 (by decide); have f4 := HFR.out 4 (by decide); have f5 := HFR.out 5 (by decide); have f6 := HFR.out 6 (by decide); have f7 := HFR.out 7 (by decide)
      have t0 := HFT.out 0 (by decide); have t1 := HFT.out 1 (by decide)
      unfold sc0 allS at R0 R1 R2 R3 R4 R5 R6 R7
      simp only at R0 R1 R2 R3 R4 R5 R6 R7
      go_wp2
      have B8 := (HR.out.put8 sc0).put2 (p := p + 1 + 1 + 1) (a := .int .i64 0) (b := .slice none 0 0) (by omega)
      have C2 := two_put2 (a := .int .i64 0) (b := .slice none 0 0) (other8 (p := p + 1 + 1) (x := sc0) (by omega) HT.out.1) (other8 (p := p + 1 + 1) (x := sc0) (by omega) HT.out.2)
      (try simp only [Exit.inBlock, Exit.then])
      change bodyPost Tryz.prog _ _ Exit.ret _ (put2 (put8 w3 (p + 1 + 1) sc0) (p + 1 + 1 + 1) (.int .i64 0) (.slice none 0 0))
      obtain ⟨Z, hZ⟩ : ∃ Z, put2 (put8 w3 (p + 1 + 1) sc0) (p + 1 + 1 + 1) (.int .i64 0) (.slice none 0 0) = Z := ⟨_, rfl⟩
      have OKZ : Ok w Z := by rw [← hZ]; exact Ok.put2 (Ok.put8 OKV.out (by omega)) (by omega)

      rw [hZ] at B8 C2 ⊢
      obtain ⟨b0, b1, b2, b3, b4, b5, b6, b7⟩ := B8
      replace b0 : Z.cell? _ = _ := b0
      replace b1 : Z.cell? _ = _ := b1
      replace b2 : Z.cell? _ = _ := b2
      replace b3 : Z.cell? _ = _ := b3
      replace b4 : Z.cell? _ = _ := b4
      replace b5 : Z.cell? _ = _ := b5
      replace b6 : Z.cell? _ = _ := b6
      replace b7 : Z.cell? _ = _ := b7
      have c0 : Z.cell? _ = _ := C2.1
      have c2 : Z.cell? _ = _ := C2.2
      refine bodyPost_ret (by simp [results, Tryz.results29, go_sem, b0, b1, b2, b3, b4, b5, b6, b7, c0, c2]; try rfl) rfl ?_
      rw [← HQK.out]
      exact StepP.err rfl OKZ
    | true =>
    replace HQ : Hid ((if sto = 4 then TurnP w ep xs ⟨num, ⟨lo, hi⟩, fr, to, xe, un, st⟩ else StepP w 0 ⟨num, ⟨lo, hi⟩, fr, to, xe, un, sto⟩ ep xs) = Q) := Lib.hid (by have := HQ.out; rwa [if_neg (by decide)] at this)
    by_cases h2 : sto = 4
    · have d2 : (sto == 4) = true := beq_iff_eq.2 h2
      have HQK : Hid (TurnP w ep xs ⟨num, ⟨lo, hi⟩, fr, to, xe, un, st⟩ = Q) := Lib.hid (by have := HQ.out; rwa [if_pos h2] at this)
      clear HQ h2
      obtain ⟨X0, X1, X2, X3, X4, X5, X6, X7⟩ := HX.out
      simp only at X0 X1 X2 X3 X4 X5 X6 X7
      go_wp2_with fail
      refine (HTS.out w3 OKV.out).mono ?_
      intro e w4 htp
      obtain ⟨k, y, ep', ys, ⟨A4, c4, rfl, hown, o4⟩, hpost⟩ := HTP.out _ _ _ htp
      have hsz : p + 1 + 1 + 1 < w3.heap.size := World.block_lt_of_cell? _ _ HT.out.1
      have HOWN := Lib.hid hown
      have HPO : Hid (StepP w k y ep' ys = Q) := Lib.hid (by rw [hpost w]; exact HQK.out)
      obtain ⟨m, hm⟩ : ∃ m, ys.length = m := ⟨_, rfl⟩
      have HM := Lib.hid hm
      rw [hm] at HOWN ⊢
      clear hown hpost htp HTS HTP HCP X0 X1 X2 X3 X4 X5 X6 X7 HQK hm
      replace HFX := Lib.hid (HFX.out.ok HX.out.c0 o4)
      replace HFR := Lib.hid (HFR.out.ok HR.out.c0 o4)
      replace HFT := Lib.hid (HFT.out.ok HT.out.1 o4)
      replace HX := Lib.hid (HX.out.ok o4)
      replace HR := Lib.hid (HR.out.ok o4)
      replace HT := Lib.hid (And.intro (Ok.cell o4 HT.out.1) (Ok.cell o4 HT.out.2))
      replace S0 := Ok.cell o4 S0
      replace S1 := Ok.cell o4 S1
      replace OKV := Lib.hid (Ok.call OKV.out o4)
      clear o4
      obtain ⟨R0, R1, R2, R3, R4, R5, R6, R7⟩ := HR.out
      obtain ⟨T0, T1⟩ := HT.out
      have f0 := HFR.out 0 (by decide); have f1 := HFR.out 1 (by decide); have f2 := HFR.out 2 (by decide); have f3 := HFR.out 3 (by decide); have f4 := HFR.out 4 (by decide); have f5 := HFR.out 5 (by decide); have f6 := HFR.out 6 (by decide); have f7 := HFR.out 7 (by decide)
      have t0 := HFT.out 0 (by decide); have t1 := HFT.out 1 (by decide)
      unfold sc0 allS at R0 R1 R2 R3 R4 R5 R6 R7
      simp only at R0 R1 R2 R3 R4 R5 R6 R7
      obtain ⟨ynum, ⟨ylo, yhi⟩, yfr, yto, yxe, yun, yst⟩ := y
      unfold scV
      simp only
      go_wp2
      have B8 := (HR.out.put8 ⟨ynum, ⟨ylo, yhi⟩, yfr, yto, yxe, yun, yst⟩).put2 (p := p + 1 + 1 + 1) (a := .int .i64 ep') (b := .slice A4 m c4) (by omega)
      have C2 := two_put2 (a := .int .i64 ep') (b := .slice A4 m c4) (other8 (p := p + 1 + 1) (x := ⟨ynum, ⟨ylo, yhi⟩, yfr, yto, yxe, yun, yst⟩) (by omega) HT.out.1) (other8 (p := p + 1 + 1) (x := ⟨ynum, ⟨ylo, yhi⟩, yfr, yto, yxe, yun, yst⟩) (by omega) HT.out.2)
      (try simp only [Exit.inBlock, Exit.then])
      change bodyPost Tryz.prog _ _ Exit.ret _ (put2 (put8 w4 (p + 1 + 1) ⟨ynum, ⟨ylo, yhi⟩, yfr, yto, yxe, yun, yst⟩) (p + 1 + 1 + 1) (.int .i64 ep') (.slice A4 m c4))
      obtain ⟨Z, hZ⟩ : ∃ Z, put2 (put8 w4 (p + 1 + 1) ⟨ynum, ⟨ylo, yhi⟩, yfr, yto, yxe, yun, yst⟩) (p + 1 + 1 + 1) (.int .i64 ep') (.slice A4 m c4) = Z := ⟨_, rfl⟩
      have OKZ : Ok w Z := by rw [← hZ]; exact Ok.put2 (Ok.put8 OKV.out (by omega)) (by omega)
      have HOWNZ : OwnSh Z w3.heap.size A4 m c4 ys := by rw [← hZ]; exact (HOWN.out.put8 (by omega)).put2 (by omega)
      rw [hZ] at B8 C2 ⊢
      obtain ⟨b0, b1, b2, b3, b4, b5, b6, b7⟩ := B8
      replace b0 : Z.cell? _ = _ := b0
      replace b1 : Z.cell? _ = _ := b1
      replace b2 : Z.cell? _ = _ := b2
      replace b3 : Z.cell? _ = _ := b3
      replace b4 : Z.cell? _ = _ := b4
      replace b5 : Z.cell? _ = _ := b5
      replace b6 : Z.cell? _ = _ := b6
      replace b7 : Z.cell? _ = _ := b7
      have c0 : Z.cell? _ = _ := C2.1
      have c2 : Z.cell? _ = _ := C2.2
      refine bodyPost_ret (by simp [results, Tryz.results29, go_sem, b0, b1, b2, b3, b4, b5, b6, b7, c0, c2]; try rfl) rfl ?_
      rw [← HPO.out]
      refine ⟨A4, c4, by rw [HM.out]; rfl, ?_, OKZ⟩
      rw [HM.out]
      exact HOWNZ.base (by omega)
    · have d2 : (sto == 4) = false := beq_eq_false_iff_ne.2 h2
      have HQK : Hid (StepP w 0 ⟨num, ⟨lo, hi⟩, fr, to, xe, un, sto⟩ ep xs = Q) := Lib.hid (by have := HQ.out; rwa [if_neg h2] at this)
      clear HQ h2
      obtain ⟨X0, X1, X2, X3, X4, X5, X6, X7⟩ := HX.out
      simp only at X0 X1 X2 X3 X4 X5 X6 X7
      have x7 := HFX.out 7 (by decide)
      obtain ⟨V3, hV3⟩ : ∃ V3, w3.setCell ⟨p, 7, none⟩ (.int .u8 sto) = V3 := ⟨_, rfl⟩
      have oth : ∀ (b j : Nat) (u : Value), b ≠ p → w3.cell? ⟨b, j, none⟩ = some u → V3.cell? ⟨b, j, none⟩ = some u := fun b j u hb hc => by subst hV3; exact other hb hc
      have frz : ∀ (b m : Nat), Fz w3 b m → Fz V3 b m := fun b m hf j hj => by subst hV3; rw [World.frozen?_setCell]; exact hf j hj
      have HX3 : Hid (Sc8 V3 p ⟨num, ⟨lo, hi⟩, fr, to, xe, un, sto⟩) := Lib.hid (by
        subst hV3
        exact ⟨cell_set _ p 7 0 _ _ X0, cell_set _ p 7 1 _ _ X1, cell_set _ p 7 2 _ _ X2, cell_set _ p 7 3 _ _ X3, cell_set _ p 7 4 _ _ X4, cell_set _ p 7 5 _ _ X5, cell_set _ p 7 6 _ _ X6, cell_set _ p 7 7 _ _ X7⟩)
      have OKV3 : Hid (Ok w V3) := Lib.hid (by subst hV3; exact Ok.set OKV.out hpw _)
      have R := HR.out
      have HR3 : Hid (Sc8 V3 (p + 1 + 1) sc0) := Lib.hid ⟨oth _ _ _ (by omega) R.c0, oth _ _ _ (by omega) R.c1, oth _ _ _ (by omega) R.c2, oth _ _ _ (by omega) R.c3, oth _ _ _ (by omega) R.c4, oth _ _ _ (by omega) R.c5, oth _ _ _ (by omega) R.c6, oth _ _ _ (by omega) R.c7⟩
      have HT3 : Hid (V3.cell? ⟨p + 1 + 1 + 1, 0, none⟩ = some (.int .i64 0) ∧ V3.cell? ⟨p + 1 + 1 + 1, 1, none⟩ = some (.slice none 0 0)) := Lib.hid ⟨oth _ _ _ (by omega) HT.out.1, oth _ _ _ (by omega) HT.out.2⟩
      have HFR3 := Lib.hid (frz _ _ HFR.out)
      have HFT3 := Lib.hid (frz _ _ HFT.out)
      replace S0 := oth _ _ _ (by omega) S0
      replace S1 := oth _ _ _ (by omega) S1
      clear oth frz R HR HT HFR HFT OKV HFX
      have hts : p + 1 + 1 + 1 < V3.drew.heap.size := World.block_lt_of_cell? V3 _ HT3.out.1
      have HPK : Hid (Pk p ⟨num, ⟨lo, hi⟩, fr, to, xe, un, sto⟩ ep (.slice A n c) V3) := Lib.hid ⟨HX3.out, S0, S1, cellAt8 HR3.out, cellAt2 HT3.out, HFR3.out, HFT3.out⟩
      clear X0 X1 X2 X3 X4 X5 X6
      have raw := HPK.out.raw
      obtain ⟨X0, X1, X2, X3, X4, X5, X6, Y7, -, -, R0, f0, R1, f1, R2, f2, R3, f3, R4, f4, R5, f5, R6, f6, R7, f7, T0, t0, T1, t1⟩ := raw
      clear HFT3 HFR3 HTS HTP
      go_wp2_with fail
      go_region_held3 (fun w' => w'.cell? ⟨p, 0, none⟩ = some (.int .i64 num) ∧ w'.cell? ⟨p, 1, none⟩ = some (.string lo) ∧ w'.cell? ⟨p, 2, none⟩ = some (.string hi) ∧ w'.cell? ⟨p, 3, none⟩ = some (.int .i64 fr) ∧ w'.cell? ⟨p, 4, none⟩ = some (.int .i64 to) ∧ w'.cell? ⟨p, 5, none⟩ = some (.int .i64 xe) ∧ w'.cell? ⟨p, 6, none⟩ = some (.int .i64 un) ∧ w'.cell? ⟨p, 7, none⟩ = some (.int .u8 sto) ∧ w'.cell? ⟨p + 1, 0, none⟩ = some (.int .i64 ep) ∧ w'.cell? ⟨p + 1, 1, none⟩ = some (.slice A n c) ∧ w'.cell? ⟨p + 1 + 1, 0, none⟩ = some (cellOf w' (p + 1 + 1) 0) ∧ w'.frozen? ⟨p + 1 + 1, 0, none⟩ = false ∧ w'.cell? ⟨p + 1 + 1, 1, none⟩ = some (cellOf w' (p + 1 + 1) 1) ∧ w'.frozen? ⟨p + 1 + 1, 1, none⟩ = false ∧ w'.cell? ⟨p + 1 + 1, 2, none⟩ = some (cellOf w' (p + 1 + 1) 2) ∧ w'.frozen? ⟨p + 1 + 1, 2, none⟩ = false ∧ w'.cell? ⟨p + 1 + 1, 3, none⟩ = some (cellOf w' (p + 1 + 1) 3) ∧ w'.frozen? ⟨p + 1 + 1, 3, none⟩ = false ∧ w'.cell? ⟨p + 1 + 1, 4, none⟩ = some (cellOf w' (p + 1 + 1) 4) ∧ w'.frozen? ⟨p + 1 + 1, 4, none⟩ = false ∧ w'.cell? ⟨p + 1 + 1, 5, none⟩ = some (cellOf w' (p + 1 + 1) 5) ∧ w'.frozen? ⟨p + 1 + 1, 5, none⟩ = false ∧ w'.cell? ⟨p + 1 + 1, 6, none⟩ = some (cellOf w' (p + 1 + 1) 6) ∧ w'.frozen? ⟨p + 1 + 1, 6, none⟩ = false ∧ w'.cell? ⟨p + 1 + 1, 7, none⟩ = some (cellOf w' (p + 1 + 1) 7) ∧ w'.frozen? ⟨p + 1 + 1, 7, none⟩ = false ∧ w'.cell? ⟨p + 1 + 1 + 1, 0, none⟩ = some (cellOf w' (p + 1 + 1 + 1) 0) ∧ w'.frozen? ⟨p + 1 + 1 + 1, 0, none⟩ = false ∧ w'.cell? ⟨p + 1 + 1 + 1, 1, none⟩ = some (cellOf w' (p + 1 + 1 + 1) 1) ∧ w'.frozen? ⟨p + 1 + 1 + 1, 1, none⟩ = false)
        (first
          | (with_reducible exact HPK.out.raw)
          | (with_reducible exact (HPK.out.ok (Ok.drew (Ok.refl V3))).raw)
          | (with_reducible exact (HPK.out.ok (Ok.trans' (Ok.drew (Ok.refl V3)) o3)).raw)
          | (with_reducible exact (HPK.out.ok (Ok.trans' (Ok.drew (Ok.refl V3)) o3)).raw8)
          | (with_reducible exact (HPK.out.ok (Ok.trans' (Ok.drew (Ok.refl V3)) o3)).raw82))
        ((go_at_call 77; (with_reducible refine (HCP.out _ (Ok.drew OKV3.out)).mono ?_); rintro e w4 ⟨A3, c3, rfl, hown, o3⟩))
      have o33 : Ok V3 w4 := Ok.trans' (Ok.drew (Ok.refl V3)) o3
      replace OKV3 := Lib.hid (Ok.call OKV3.out o33)
      replace HR3 := Lib.hid (HR3.out.ok o33)
      replace HT3 := Lib.hid (And.intro (Ok.cell o33 HT3.out.1) (Ok.cell o33 HT3.out.2))
      have HOWN := Lib.hid hown
      have hb3 : w.heap.size ≤ V3.drew.heap.size := by omega
      clear o33 hown o3 HPK HCP X0 X1 X2 X3 X4 X5 X6 X7 Y7 R0 R1 R2 R3 R4 R5 R6 R7 T0 T1 f0 f1 f2 f3 f4 f5 f6 f7 t0 t1
      go_wp2
      have B8 := (HR3.out.put8 ⟨num, ⟨lo, hi⟩, fr, to, xe, un, sto⟩).put2 (p := p + 1 + 1 + 1) (a := .int .i64 ep) (b := .slice A3 n c3) (by omega)
      have C2 := two_put2 (a := .int .i64 ep) (b := .slice A3 n c3) (other8 (p := p + 1 + 1) (x := ⟨num, ⟨lo, hi⟩, fr, to, xe, un, sto⟩) (by omega) HT3.out.1) (other8 (p := p + 1 + 1) (x := ⟨num, ⟨lo, hi⟩, fr, to, xe, un, sto⟩) (by omega) HT3.out.2)
      (try simp only [Exit.inBlock, Exit.then])
      change bodyPost Tryz.prog _ _ Exit.ret _ (put2 (put8 w4 (p + 1 + 1) ⟨num, ⟨lo, hi⟩, fr, to, xe, un, sto⟩) (p + 1 + 1 + 1) (.int .i64 ep) (.slice A3 n c3))
      obtain ⟨Z, hZ⟩ : ∃ Z, put2 (put8 w4 (p + 1 + 1) ⟨num, ⟨lo, hi⟩, fr, to, xe, un, sto⟩) (p + 1 + 1 + 1) (.int .i64 ep) (.slice A3 n c3) = Z := ⟨_, rfl⟩
      have OKZ : Ok w Z := by rw [← hZ]; exact Ok.put2 (Ok.put8 OKV3.out (by omega)) (by omega)
      have HOWNZ : OwnSh Z V3.drew.heap.size A3 n c3 xs := by rw [← hZ]; exact (HOWN.out.put8 (by omega)).put2 (by omega)
      rw [hZ] at B8 C2 ⊢
      obtain ⟨b0, b1, b2, b3, b4, b5, b6, b7⟩ := B8
      replace b0 : Z.cell? _ = _ := b0
      replace b1 : Z.cell? _ = _ := b1
      replace b2 : Z.cell? _ = _ := b2
      replace b3 : Z.cell? _ = _ := b3
      replace b4 : Z.cell? _ = _ := b4
      replace b5 : Z.cell? _ = _ := b5
      replace b6 : Z.cell? _ = _ := b6
      replace b7 : Z.cell? _ = _ := b7
      have c0 : Z.cell? _ = _ := C2.1
      have c2 : Z.cell? _ = _ := C2.2
      refine bodyPost_ret (by simp [results, Tryz.results29, go_sem, b0, b1, b2, b3, b4, b5, b6, b7, c0, c2]; try rfl) rfl ?_
      rw [← HQK.out]
      refine ⟨A3, c3, by rw [HN.out]; rfl, ?_, OKZ⟩
      rw [HN.out]
      exact HOWNZ.base hb3
end Go.Proofs.YtdabdkedgigjdaaGreat
