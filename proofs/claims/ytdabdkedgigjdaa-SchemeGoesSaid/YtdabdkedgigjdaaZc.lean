/- What stands while a handoff goes its way; what a step leaves in two new blocks. -/
import Derived.Test.YtdabdkedgigjdaaZb
import Derived.Test.YtdabdkedgigjdaaZa
import Derived.Test.YtdabdkedgigjdaaYo
namespace Go.Proofs.Ytdabdkedgigjdaa
open Go.RowKit

structure Box (p : Prop) : Prop where
  out : p
theorem begM_err {ep : Int} {xs : List Sh} {num : Int} {i : Sp} {tt : Int} {k : Int} {y : Sc} (h : begM ep xs num i tt = (k, y)) (hk : k ≠ 0) : y = sc0 := by
  unfold begM at h
  by_cases h1 : upM 1073741824 num = false
  · rw [if_pos h1] at h; exact (Prod.mk.inj h).2.symm
  · rw [if_neg h1] at h
    by_cases h2 : (turnM ep xs i tt).1 = 0
    · rw [if_pos h2] at h; exact absurd (Prod.mk.inj h).1.symm hk
    · rw [if_neg h2] at h; exact (Prod.mk.inj h).2.symm
/-- What stands while a handoff goes its way: it at block g, the shares at the next one. -/
structure EG (w : World) (g : Nat) (x : Sc) (ep : Int) (A : Option Addr) (n c : Nat) (xs : List Sh) (wr : World) : Prop where
  x : Sc8 wr g x
  fx : Fz wr g 8
  s0 : wr.cell? ⟨g + 1, 0, none⟩ = some (.int .i64 ep)
  s1 : wr.cell? ⟨g + 1, 1, none⟩ = some (.slice A n c)
  fs : Fz wr (g + 1) 2
  sh : SharesAt wr A xs
  ok : Ok w wr
theorem EG.mv {w : World} {g : Nat} {x : Sc} {ep : Int} {A : Option Addr} {n c : Nat} {xs : List Sh} {wr w' : World} (h : EG w g x ep A n c xs wr) (k : Ok wr w') : EG w g x ep A n c xs w' where
  x := h.x.ok k
  fx := h.fx.ok h.x.c0 k
  s0 := Ok.cell k h.s0
  s1 := Ok.cell k h.s1
  fs := h.fs.ok h.s0 k
  sh := h.sh.ok k
  ok := Ok.call h.ok k
theorem EG.lt {w : World} {g : Nat} {x : Sc} {ep : Int} {A : Option Addr} {n c : Nat} {xs : List Sh} {wr : World} (h : EG w g x ep A n c xs wr) : g + 1 < wr.heap.size := World.block_lt_of_cell? wr ⟨g + 1, 0, none⟩ h.s0
/-- Shares that lie in none of the blocks below B, or p, q. -/
structure Off (B p q : Nat) (A : Option Addr) : Prop where
  b : ∀ b off, A = some ⟨b, off, none⟩ → B ≤ b
  p : ∀ b off, A = some ⟨b, off, none⟩ → b ≠ p
  q : ∀ b off, A = some ⟨b, off, none⟩ → b ≠ q
theorem SharesAt.set {w : World} {A : Option Addr} {xs : List Sh} (h : SharesAt w A xs) {p : Nat} (hp : ∀ b off, A = some ⟨b, off, none⟩ → b ≠ p) (o : Nat) (v : Value) : SharesAt (w.setCell ⟨p, o, none⟩ v) A xs := fun j hj => by
  obtain ⟨b, off, e, c0, c1, c2, c3⟩ := h j hj
  have hb := hp b off e
  have key : ∀ q, (w.setCell ⟨p, o, none⟩ v).cell? ⟨b, q, none⟩ = w.cell? ⟨b, q, none⟩ := fun q => World.cell?_setCell_other _ _ _ _ (fun h => by cases h; exact hb rfl)
  exact ⟨b, off, e, (key _).trans c0, (key _).trans c1, (key _).trans c2, (key _).trans c3⟩
theorem SharesAt.put2 {w : World} {A : Option Addr} {xs : List Sh} (h : SharesAt w A xs) {p : Nat} (hp : ∀ b off, A = some ⟨b, off, none⟩ → b ≠ p) (a b : Value) : SharesAt (Ytdabdkedgigjdaa.put2 w p a b) A xs := (h.set hp 0 a).set hp 1 b
theorem SharesAt.put8 {w : World} {A : Option Addr} {xs : List Sh} (h : SharesAt w A xs) {p : Nat} (hp : ∀ b off, A = some ⟨b, off, none⟩ → b ≠ p) (x : Sc) : SharesAt (Ytdabdkedgigjdaa.put8 w p x) A xs :=
  (((((((h.set hp 0 _).set hp 1 _).set hp 2 _).set hp 3 _).set hp 4 _).set hp 5 _).set hp 6 _).set hp 7 _
/-- The next handoff and its shares, in new blocks. -/
structure Nx (wq : World) (p q : Nat) (y : Sc) (ep : Int) (A : Option Addr) (n c : Nat) (ys : List Sh) (V : World) : Prop where
  y : Sc8 V p y
  fy : Fz V p 8
  t0 : V.cell? ⟨q, 0, none⟩ = some (.int .i64 ep)
  t1 : V.cell? ⟨q, 1, none⟩ = some (.slice A n c)
  sh : SharesAt V A ys
  of : Off wq.heap.size p q A
  hn : ys.length = n
  hc : n ≤ c
  ne : p ≠ q
  lp : wq.heap.size ≤ p
  lq : wq.heap.size ≤ q
  ok : Ok wq V
theorem Nx.mv {wq : World} {p q : Nat} {y : Sc} {ep : Int} {A : Option Addr} {n c : Nat} {ys : List Sh} {V w' : World} (h : Nx wq p q y ep A n c ys V) (k : Ok V w') : Nx wq p q y ep A n c ys w' where
  y := h.y.ok k
  fy := h.fy.ok h.y.c0 k
  t0 := Ok.cell k h.t0
  t1 := Ok.cell k h.t1
  sh := h.sh.ok k
  of := h.of
  hn := h.hn
  hc := h.hc
  ne := h.ne
  lp := h.lp
  lq := h.lq
  ok := Ok.call h.ok k
theorem OwnSh.blk {w : World} {B : Nat} {A : Option Addr} {n c : Nat} {xs : List Sh} (h : OwnSh w B A n c xs) : ∀ b off, A = Option.some ⟨b, off, none⟩ → B ≤ b ∧ b < w.heap.size := fun b off e => by
  subst e
  exact World.ownsRow.lt h.1 b rfl
theorem OwnSh.off {w w2 : World} {B p q : Nat} {A : Option Addr} {n c : Nat} {xs : List Sh} (h : OwnSh w2 w.heap.size A n c xs) (hB : B ≤ w.heap.size) (hp : p < w.heap.size ∨ w2.heap.size ≤ p) (hq : q < w.heap.size ∨ w2.heap.size ≤ q) : Off B p q A where
  b := fun b off e => by have := h.blk b off e; omega
  p := fun b off e => by have := h.blk b off e; omega
  q := fun b off e => by have := h.blk b off e; omega
/-- Behind the call, in whatever order the blocks were made: the stores. -/
theorem Nx.laid {wq V : World} {p q : Nat} (y : Sc) (ep : Int) {A : Option Addr} {n c : Nat} {ys : List Sh} {x : Sc} (hx : Sc8 V p x) (fx : Fz V p 8) {u v : Value} (h0 : V.cell? ⟨q, 0, none⟩ = some u) (h1 : V.cell? ⟨q, 1, none⟩ = some v)
    (sh : SharesAt V A ys) (of : Off wq.heap.size p q A) (hn : ys.length = n) (hc : n ≤ c) (ne : p ≠ q) (lp : wq.heap.size ≤ p) (lq : wq.heap.size ≤ q) (ok : Ok wq V) :
    Nx wq p q y ep A n c ys (put2 (put8 V p y) q (.int .i64 ep) (.slice A n c)) where
  y := (hx.put8 y).put2 ne
  fy := frz2 (frz8 fx)
  t0 := (two_put2 (other8 (fun e => ne e.symm) h0) (other8 (fun e => ne e.symm) h1)).1
  t1 := (two_put2 (other8 (fun e => ne e.symm) h0) (other8 (fun e => ne e.symm) h1)).2
  sh := (sh.put8 of.p y).put2 of.q _ _
  of := of
  hn := hn
  hc := hc
  ne := ne
  lp := lp
  lq := lq
  ok := Ok.put2 (Ok.put8 ok lp) lq
/-- The handoff and the shares written over by the next ones. -/
theorem EG.next {w : World} {g : Nat} {x : Sc} {ep : Int} {A : Option Addr} {n c : Nat} {xs : List Sh} {V wq : World} (h : EG w g x ep A n c xs V) (hg : w.heap.size ≤ g) (hq : g + 1 < wq.heap.size)
    {y : Sc} {ep' : Int} {A3 : Option Addr} {m c3 : Nat} {ys : List Sh} (sh : SharesAt V A3 ys) (of : ∀ b off, A3 = some ⟨b, off, none⟩ → wq.heap.size ≤ b) :
    EG w g y ep' A3 m c3 ys (put2 (put8 V g y) (g + 1) (.int .i64 ep') (.slice A3 m c3)) where
  x := (h.x.put8 y).put2 (by omega)
  fx := frz2 (frz8 h.fx)
  s0 := (two_put2 (other8 (by omega) h.s0) (other8 (by omega) h.s1)).1
  s1 := (two_put2 (other8 (by omega) h.s0) (other8 (by omega) h.s1)).2
  fs := frz2 (frz8 h.fs)
  sh := (sh.put8 (p := g) (fun b off e => by have := of b off e; omega) y).put2 (p := g + 1) (fun b off e => by have := of b off e; omega) _ _
  ok := Ok.put2 (Ok.put8 h.ok hg) (by omega)
/-- What the round's first region leaves in its slots. -/
def StepAt (wq : World) (k : Int) (y : Sc) (ep : Int) (ys : List Sh) (vp vq vk : Value) (V : World) : Prop :=
  ∃ p q A n c, vp = .pointer (some ⟨p, 0, none⟩) ∧ vq = .pointer (some ⟨q, 0, none⟩) ∧ vk = .int .i64 k ∧ Nx wq p q y ep A n c ys V
/-- What a step of the way tells: an error, and it may not go there; or the next one. -/
theorem go_next2 {i : Sp} {stp tns : Nat} {x : Sc} {ep : Int} {xs : List Sh} (h : GoI i stp tns x ep xs) (b : Int) (kk : Str) :
    ∃ k y ep' ys, (∀ w, StepQ w ep xs x b = StepP w k y ep' ys) ∧ ((k = 26 ∧ y = sc0 ∧ (b == x.st) = false ∧ goesB x.st b = false) ∨ (k = 0 ∧ ∃ s' t', GoI i s' t' y ep' ys ∧ GoK i kk x ep xs y ep' ys stp tns s' t')) := by
  rcases go_next h b kk with ⟨h1, h2, h3⟩ | ⟨y, ep', ys, s', t', h1, h2, h3⟩
  · exact ⟨26, sc0, 0, [], h3, .inl ⟨rfl, rfl, beq_eq_false_iff_ne.2 (fun e => h1 e.symm), h2⟩⟩
  · exact ⟨0, y, ep', ys, h1, .inr ⟨rfl, s', t', h2, h3⟩⟩
/-- What stands at the head of a round. -/
structure GH (i : Sp) (w : World) (g h : Nat) (stp tns : Nat) (x : Sc) (ep : Int) (A : Option Addr) (n c : Nat) (xs : List Sh) (wr : World) : Prop where
  gi : GoI i stp tns x ep xs
  e : EG w g x ep A n c xs wr
  hn : xs.length = n
  hc : n ≤ c
  i0 : wr.cell? ⟨h + 1, 0, none⟩ = some (.string i.lo)
  i1 : wr.cell? ⟨h + 1, 1, none⟩ = some (.string i.hi)
theorem GH.mv {i : Sp} {w : World} {g h : Nat} {stp tns : Nat} {x : Sc} {ep : Int} {A : Option Addr} {n c : Nat} {xs : List Sh} {wr w' : World} (H : GH i w g h stp tns x ep A n c xs wr) (k : Ok wr w') : GH i w g h stp tns x ep A n c xs w' :=
  ⟨H.gi, H.e.mv k, H.hn, H.hc, Ok.cell k H.i0, Ok.cell k H.i1⟩
/-- Nothing, in a new block: a handoff; shares. -/
structure Zt8 (w : World) (p : Nat) : Prop where
  x : Sc8 w p sc0
  f : Fz w p 8
structure Zt2 (w : World) (p : Nat) : Prop where
  a : w.cell? ⟨p, 0, none⟩ = some (.int .i64 0)
  b : w.cell? ⟨p, 1, none⟩ = some (.slice none 0 0)
  f : Fz w p 2
theorem Zt8.ok {w w' : World} {p : Nat} (h : Zt8 w p) (k : Ok w w') : Zt8 w' p := ⟨h.x.ok k, h.f.ok h.x.c0 k⟩
theorem Zt2.ok {w w' : World} {p : Nat} (h : Zt2 w p) (k : Ok w w') : Zt2 w' p := ⟨Ok.cell k h.a, Ok.cell k h.b, h.f.ok h.a k⟩
theorem Zt8.new (w : World) : Zt8 (w.alloc (.cells #[.int .i64 0, .string ⟨#[]⟩, .string ⟨#[]⟩, .int .i64 0, .int .i64 0, .int .i64 0, .int .i64 0, .int .u8 0] 32)) w.heap.size := ⟨by unfold sc0 allS; constructor <;> go_cell, fun j hj => by
  obtain rfl | rfl | rfl | rfl | rfl | rfl | rfl | rfl : j = 0 ∨ j = 1 ∨ j = 2 ∨ j = 3 ∨ j = 4 ∨ j = 5 ∨ j = 6 ∨ j = 7 := by omega
  all_goals go_cell⟩
theorem Zt2.new (w : World) : Zt2 (w.alloc (.cells #[.int .i64 0, .slice none 0 0] 24)) w.heap.size := ⟨by go_cell, by go_cell, fun j hj => by
  obtain rfl | rfl : j = 0 ∨ j = 1 := by omega
  all_goals go_cell⟩
theorem Zt8.drew {w : World} {p : Nat} (h : Zt8 w p) : Zt8 w.drew p := h.ok (Ok.drew (Ok.refl _))
theorem Zt2.drew {w : World} {p : Nat} (h : Zt2 w p) : Zt2 w.drew p := h.ok (Ok.drew (Ok.refl _))
theorem Nx.laid2 {wq V : World} {p q : Nat} {y : Sc} (ep : Int) {A : Option Addr} {n c : Nat} {ys : List Sh} (hx : Sc8 V p y) (fx : Fz V p 8) {u v : Value} (h0 : V.cell? ⟨q, 0, none⟩ = some u) (h1 : V.cell? ⟨q, 1, none⟩ = some v)
    (sh : SharesAt V A ys) (of : Off wq.heap.size p q A) (hn : ys.length = n) (hc : n ≤ c) (ne : p ≠ q) (lp : wq.heap.size ≤ p) (lq : wq.heap.size ≤ q) (ok : Ok wq V) :
    Nx wq p q y ep A n c ys (put2 V q (.int .i64 ep) (.slice A n c)) where
  y := hx.put2 ne
  fy := frz2 fx
  t0 := (two_put2 h0 h1).1
  t1 := (two_put2 h0 h1).2
  sh := sh.put2 of.q _ _
  of := of
  hn := hn
  hc := hc
  ne := ne
  lp := lp
  lq := lq
  ok := Ok.put2 ok lq
def y8 (y : Sc) : Obj := .cells #[.int .i64 y.num, .string y.sp.lo, .string y.sp.hi, .int .i64 y.fr, .int .i64 y.to, .int .i64 y.ep, .int .i64 y.un, .int .u8 y.st] 32
def t2 (ep : Int) (A : Option Addr) (n c : Nat) : Obj := .cells #[.int .i64 ep, .slice A n c] 24
theorem y8_new (w : World) (y : Sc) : Sc8 (w.alloc (y8 y)) w.heap.size y ∧ Fz (w.alloc (y8 y)) w.heap.size 8 := ⟨by unfold y8; constructor <;> go_cell, fun j hj => by
  unfold y8
  obtain rfl | rfl | rfl | rfl | rfl | rfl | rfl | rfl : j = 0 ∨ j = 1 ∨ j = 2 ∨ j = 3 ∨ j = 4 ∨ j = 5 ∨ j = 6 ∨ j = 7 := by omega
  all_goals go_cell⟩
theorem t2_new (w : World) (ep : Int) (A : Option Addr) (n c : Nat) : (w.alloc (t2 ep A n c)).cell? ⟨w.heap.size, 0, none⟩ = some (.int .i64 ep) ∧ (w.alloc (t2 ep A n c)).cell? ⟨w.heap.size, 1, none⟩ = some (.slice A n c) := by unfold t2; constructor <;> go_cell
theorem Off.new {w w2 : World} {B : Nat} {A : Option Addr} {n c : Nat} {xs : List Sh} {p q : Nat} (h : OwnSh w2 w.heap.size A n c xs) (hB : B ≤ w.heap.size) (hp : p < w.heap.size ∨ w2.heap.size ≤ p) (hq : q < w.heap.size ∨ w2.heap.size ≤ q) : Off B p q A := OwnSh.off h hB hp hq
theorem Nx.yt {wq w2 w5 : World} (y : Sc) (ep : Int) {A : Option Addr} {n c : Nat} {ys : List Sh} (h : OwnSh w5 w2.heap.size A n c ys) (hn : ys.length = n) (o2 : Ok wq w2) (o5 : Ok w2 w5) :
    Nx wq w5.heap.size (w5.heap.size + 1) y ep A n c ys ((w5.alloc (y8 y)).alloc (t2 ep A n c)) := by
  have oa : Ok w5 ((w5.alloc (y8 y)).alloc (t2 ep A n c)) := Ok.alloc (Ok.alloc (Ok.refl _) _) _
  have ob := Ok.alloc (Ok.refl (w5.alloc (y8 y))) (t2 ep A n c)
  have e : (w5.alloc (y8 y)).heap.size = w5.heap.size + 1 := by simp
  have ht := t2_new (w5.alloc (y8 y)) ep A n c
  rw [e] at ht
  have s2 := o2.size
  have s5 := o5.size
  exact ⟨(y8_new w5 y).1.ok ob, (y8_new w5 y).2.ok (y8_new w5 y).1.c0 ob, ht.1, ht.2, (h.ok oa).at, Off.new h s2 (.inr (Nat.le_refl _)) (.inr (Nat.le_succ _)), hn, hn ▸ h.cap, by omega, by omega, by omega, Ok.call o2 (Ok.call o5 oa)⟩
theorem Nx.ty {wq w2 w5 : World} (y : Sc) (ep : Int) {A : Option Addr} {n c : Nat} {ys : List Sh} (h : OwnSh w5 w2.heap.size A n c ys) (hn : ys.length = n) (o2 : Ok wq w2) (o5 : Ok w2 w5) :
    Nx wq (w5.heap.size + 1) w5.heap.size y ep A n c ys ((w5.alloc (t2 ep A n c)).alloc (y8 y)) := by
  have oa : Ok w5 ((w5.alloc (t2 ep A n c)).alloc (y8 y)) := Ok.alloc (Ok.alloc (Ok.refl _) _) _
  have ob := Ok.alloc (Ok.refl (w5.alloc (t2 ep A n c))) (y8 y)
  have e : (w5.alloc (t2 ep A n c)).heap.size = w5.heap.size + 1 := by simp
  have ht := y8_new (w5.alloc (t2 ep A n c)) y
  rw [e] at ht
  have s2 := o2.size
  have s5 := o5.size
  exact ⟨ht.1, ht.2, Ok.cell ob (t2_new w5 ep A n c).1, Ok.cell ob (t2_new w5 ep A n c).2, (h.ok oa).at, Off.new h s2 (.inr (Nat.le_succ _)) (.inr (Nat.le_refl _)), hn, hn ▸ h.cap, by omega, by omega, by omega, Ok.call o2 (Ok.call o5 oa)⟩
end Go.Proofs.Ytdabdkedgigjdaa
