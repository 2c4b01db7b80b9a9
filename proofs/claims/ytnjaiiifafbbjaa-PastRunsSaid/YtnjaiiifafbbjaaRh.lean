/- The law PastRuns: what its walk wants. -/
import Derived.Test.YtnjaiiifafbbjaaRg
import Derived.Test.YtnjaiiifafbbjaaPg
namespace Go.Proofs.Ytnjaiiifafbbjaa
open Go.RowKit

theorem NamesAt.pre {w : World} {A : Option Addr} {xs ys : List Nm} (h : NamesAt w A (xs ++ ys)) : NamesAt w A xs := fun j hj => by
  obtain ⟨b, off, e, c0, c1⟩ := h j (by rw [List.length_append]; omega)
  have ea : atN (xs ++ ys) j = atN xs j := by rw [atN, atN, List.getElem?_append_left hj]
  rw [ea] at c0 c1
  exact ⟨b, off, e, c0, c1⟩
/-- What raised names leave, and tell. -/
def fOf (f : Nat → Int) (xs : List Nm) : Nat → Int := if allB xs = true then rzs f xs else f
def rOf (xs : List Nm) : Int := if allB xs = true then 0 else 2
theorem fOf_fits (f : Nat → Int) (xs : List Nm) (hf : Fits f) : Fits (fOf f xs) := by
  unfold fOf
  split
  · rename_i h; exact rzs_fits xs f hf h
  · exact hf
theorem Raise_u (p : Nat) (f : Nat → Int) (A : Option Addr) (n c : Nat) (xs : List Nm) (hn : xs.length = n) (hn6 : n ≤ 1000000) (w : World) (h : PastAt w p f) (hI : NamesAt w A xs) (hA : ∀ b off, A = some ⟨b, off, none⟩ → b ≠ p) :
    Calls Try.prog 48 #[.pointer (some ⟨p, 0, none⟩), .slice A n c] w fun e w' => e = .returned (.int .i64 (rOf xs)) ∧ PastAt w' p (fOf f xs) ∧ Mv p w w' :=
  (Raise_w p f A n c xs hn hn6 w h hI hA).mono fun e w' ⟨hm, hc⟩ => by
    rcases hc with ⟨hb, he, hp⟩ | ⟨hb, he, hp⟩
    · exact ⟨by rw [he, rOf, hb]; rfl, by rw [fOf, hb]; exact hp, hm⟩
    · exact ⟨by rw [he, rOf, hb]; rfl, by rw [fOf, hb]; exact hp, hm⟩
theorem rRaise_u (p : Nat) (f : Nat → Int) (A : Option Addr) (n c : Nat) (xs : List Nm) (hn : xs.length = n) (hn6 : n ≤ 1000000) (w : World) (h : RpAt w p f) (hI : NamesAt w A xs) (hA : xs ≠ [] → ∀ b off, A = some ⟨b, off, none⟩ → b ≠ p) :
    Calls Try.prog 49 #[.pointer (some ⟨p, 0, none⟩), .slice A n c] w fun e w' => e = .returned (.int .i64 (rOf xs)) ∧ RpAt w' p (fOf f xs) ∧ Mv p w w' :=
  (rRaise_w p f A n c xs hn hn6 w h hI hA).mono fun e w' ⟨hm, hc⟩ => by
    rcases hc with ⟨hb, he, hp⟩ | ⟨hb, he, hp⟩
    · exact ⟨by rw [he, rOf, hb]; rfl, by rw [fOf, hb]; exact hp, hm⟩
    · exact ⟨by rw [he, rOf, hb]; rfl, by rw [fOf, hb]; exact hp, hm⟩

/-- A row of names that came in. -/
structure NRow where
  A : Option Addr
  c : Nat
  xs : List Nm
def nr0 : NRow := ⟨none, 0, []⟩
def atR (l : List NRow) (j : Nat) : NRow := l[j]?.getD nr0
/-- These rows of names, from an address on; all of it below B. -/
structure RowAt (B : Nat) (w : World) (A : Option Addr) (j : Nat) (r : NRow) : Prop where
  cell : ∃ b off, A = some ⟨b, off, none⟩ ∧ w.cell? ⟨b, off + j, none⟩ = some (.slice r.A r.xs.length r.c)
  names : NamesAt w r.A r.xs
  nil : r.A = none → r.c = 0
  lt : r.xs ≠ [] → ∀ b off, r.A = some ⟨b, off, none⟩ → b < B
  len : r.xs.length ≤ 140737488351232
def RowsAt (B : Nat) (w : World) (A : Option Addr) (l : List NRow) : Prop := ∀ j, j < l.length → RowAt B w A j (atR l j)
theorem RowAt.ok {B : Nat} {w w' : World} {A : Option Addr} {j : Nat} {r : NRow} (h : RowAt B w A j r) (k : Ok w w') : RowAt B w' A j r := by
  obtain ⟨⟨b, off, e, c0⟩, h1, h2, h3, h4⟩ := h
  exact ⟨⟨b, off, e, Ok.cell k c0⟩, h1.ok k, h2, h3, h4⟩
def cntN (l : List NRow) (k : Nat) : Nat := ((l.take k).map fun r => r.xs.length).sum
theorem cntN_succ (l : List NRow) (k : Nat) (h : k < l.length) : cntN l (k + 1) = cntN l k + (atR l k).xs.length := by
  rw [cntN, List.take_succ_eq_append_getElem h, List.map_append, List.sum_append]
  simp only [List.map_cons, List.map_nil, List.sum_cons, List.sum_nil, cntN, atR, List.getElem?_eq_getElem h, Option.getD_some, Nat.add_zero]
theorem cntN_le (l : List NRow) (j k : Nat) (h : j < k) (hk : k ≤ l.length) : (atR l j).xs.length ≤ cntN l k := by
  induction k with
  | zero => omega
  | succ k ih =>
    rw [cntN_succ l k (by omega)]
    by_cases hj : j < k
    · have := ih hj (by omega); omega
    · obtain rfl : j = k := by omega
      omega

/-- What stands at the end: the merged pasts and the copy. -/
structure Tl (w : World) (p m c : Nat) (F G H : Nat → Int) (B : Option Addr) (ask : List Nm) (v : World) : Prop where
  ok : Ok w v
  hp : w.heap.size ≤ p
  pm : p < m
  mc : m < c
  pp : PastAt v p F
  mm : RpAt v m G
  cc : PastAt v c H
  na : NamesAt v B ask
  ba : ∀ b off, B = some ⟨b, off, none⟩ → b < w.heap.size
theorem Tl.okk {w v v' : World} {p m c : Nat} {F G H : Nat → Int} {B : Option Addr} {ask : List Nm} (h : Tl w p m c F G H B ask v) (k : Ok v v') : Tl w p m c F G H B ask v' :=
  ⟨Ok.trans h.ok k, h.hp, h.pm, h.mc, h.pp.ok k, h.mm.ok k, h.cc.ok k, h.na.ok k, h.ba⟩
theorem Tl.atc {w v v' : World} {p m c : Nat} {F G H H' : Nat → Int} {B : Option Addr} {ask : List Nm} (h : Tl w p m c F G H B ask v) (k : Mv c v v') (hf : PastAt v' c H') : Tl w p m c F G H' B ask v' := by
  have hs := h.cc.lt
  have h0 := h.hp
  have h1 := h.pm
  have h2 := h.mc
  exact ⟨Below.trans h.ok (k.below (by omega) (by omega)), h.hp, h.pm, h.mc, k.past (by omega) h.pp, h.mm.mv k (by omega), hf, h.na.mv k (fun b o e => by have := h.ba b o e; omega), h.ba⟩
theorem Tl.atm {w v v' : World} {p m c : Nat} {F G G' H : Nat → Int} {B : Option Addr} {ask : List Nm} (h : Tl w p m c F G H B ask v) (k : Mv m v v') (hf : RpAt v' m G') : Tl w p m c F G' H B ask v' := by
  have hs := h.mm.lt
  have h0 := h.hp
  have h1 := h.pm
  have h2 := h.mc
  exact ⟨Below.trans h.ok (k.below (by omega) (by omega)), h.hp, h.pm, h.mc, k.past (by omega) h.pp, hf, k.past (by omega) h.cc, h.na.mv k (fun b o e => by have := h.ba b o e; omega), h.ba⟩
/-- The document's past, new. -/
theorem rpast_new (w : World) : RpAt (w.alloc (.cells #[.int .i64 0, .int .i64 0, .int .i64 0, .int .i64 0, .int .i64 0, .int .i64 0, .int .i64 0, .int .i64 0, .int .i64 0] 97)) w.heap.size fz where
  num := fun i hi => by
    rw [World.cell?_alloc_at _ _ _ _ rfl]
    match i, hi with
    | 0, _ => rfl
    | 1, _ => rfl
    | 2, _ => rfl
    | 3, _ => rfl
    | 4, _ => rfl
    | 5, _ => rfl
    | 6, _ => rfl
    | 7, _ => rfl
  free := fun i _ => World.frozen?_alloc_at _ _ _ _ rfl
end Go.Proofs.Ytnjaiiifafbbjaa
