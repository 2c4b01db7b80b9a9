/- The ways of a handoff, as mathematics; lists of stages of the call's own. -/
import Derived.Test.YtdabdkedgigjdaaYm
namespace Go.Proofs.Ytdabdkedgigjdaa
open Go.RowKit

def distS (s : Int) : Nat := if s = 1 then 5 else if s = 2 then 4 else if s = 3 then 3 else if s = 4 then 2 else if s = 5 then 1 else if s = 7 then 2 else if s = 8 then 1 else 0
theorem goes_down {a b : Int} (h : goesB a b = true) : distS b + 1 ≤ distS a ∧ a < b := by
  rcases goes_cases h with ⟨rfl, rfl | rfl⟩ | ⟨rfl, rfl | rfl⟩ | ⟨rfl, rfl | rfl⟩ | ⟨rfl, rfl⟩ | ⟨rfl, rfl⟩ | ⟨rfl, rfl⟩ | ⟨rfl, rfl⟩ <;> decide
theorem sc_stage {x : Sc} (h : scB x = true) : 1 ≤ x.st ∧ x.st ≤ 9 := by
  unfold scB sc2 at h
  simp only [Bool.and_eq_true] at h
  have := h.1.2.2
  simpa [stB] using this
theorem goes_on {s : Int} (h : 1 ≤ s ∧ s ≤ 9) (ho : overB s = false) : goesB s (s + 1) = true := by
  obtain ⟨h1, h2⟩ := h
  have : s = 1 ∨ s = 2 ∨ s = 3 ∨ s = 4 ∨ s = 5 ∨ s = 6 ∨ s = 7 ∨ s = 8 ∨ s = 9 := by omega
  rcases this with rfl | rfl | rfl | rfl | rfl | rfl | rfl | rfl | rfl <;> first | decide | (exact absurd ho (by decide))
/-- The next one is right, so are the shares, and it was gone to. -/
structure Good (x y : Sc) (ep : Int) (ys : List Sh) : Prop where
  sc : scB y = true
  sh : sharesB ep ys = true
  go : goesB x.st y.st = true
/-- What a step that goes somewhere tells: the next one; or an error, where the way back is open. -/
theorem step_ends {x : Sc} {ep : Int} {xs : List Sh} (hx : scB x = true) (hs : sharesB ep xs = true) {nx : Int} (hg : goesB x.st nx = true) :
    (∃ y ep' ys, Good x y ep' ys ∧ ∀ w, StepQ w ep xs x nx = StepP w 0 y ep' ys) ∨
    (∃ k y, (k != 0) = true ∧ goesB x.st 7 = true ∧ Good x y ep xs ∧ (∀ w, StepQ w ep xs x nx = StepP w k sc0 0 []) ∧ ∀ w, StepQ w ep xs x 7 = StepP w 0 y ep xs) := by
  have hb : (scB x && sharesB ep xs) = true := by rw [hx, hs]; rfl
  have hne : ∀ {b}, goesB x.st b = true → x.st ≠ b := fun h e => by have := (goes_down h).2; omega
  have hq : ∀ {b}, goesB x.st b = true → b ≠ 4 → ∀ w, StepQ w ep xs x b = StepP w 0 { x with st := b } ep xs := fun h h4 w => by
    unfold StepQ
    rw [if_neg (by rw [hb]; decide), if_neg (hne h), if_neg (by rw [h]; decide), if_neg h4]
  by_cases h4 : nx = 4
  · subst h4
    have h3 : x.st = 3 := by rcases goes_cases hg with ⟨h, h2 | h2⟩ | ⟨h, h2 | h2⟩ | ⟨h, h2 | h2⟩ | ⟨h, h2⟩ | ⟨h, h2⟩ | ⟨h, h2⟩ | ⟨h, h2⟩ <;> first | exact h | omega
    have hq4 : ∀ w, StepQ w ep xs x 4 = TurnP w ep xs x := fun w => by
      unfold StepQ
      rw [if_neg (by rw [hb]; decide), if_neg (hne hg), if_neg (by rw [hg]; decide), if_pos rfl]
    by_cases hk : turnK ep xs x = 0
    · left
      obtain ⟨a, b⟩ := sc_turn hx hk
      refine ⟨_, _, _, ⟨a, b, hg⟩, fun w => ?_⟩
      rw [hq4, TurnP, if_pos hk]
    · right
      have h7 : goesB x.st 7 = true := by rw [h3]; decide
      refine ⟨turnK ep xs x, { x with st := 7 }, by simpa using hk, h7, ⟨sc_step hx h7 (by decide), hs, h7⟩, fun w => ?_, hq h7 (by decide)⟩
      rw [hq4, TurnP, if_neg hk]
  · left
    exact ⟨_, _, _, ⟨sc_step hx hg h4, hs, hg⟩, hq hg h4⟩

theorem info30 : (Try.prog.info? 30).map (fun i => (i.zero, i.size, i.bytes)) = some (some (.int .u8 0), 1, 1) := by kernel_rfl
def flatU (ss : List Int) : List Value := ss.map fun s => Value.int .u8 s
/-- Stages of the call's own. -/
def OwnU (w : World) (base : Nat) (A : Option Addr) (n c : Nat) (ss : List Int) : Prop := w.ownsRow base 30 1 (.slice A n c) ss.length (flatU ss) ∧ n = ss.length
theorem OwnU.ok {w w' : World} {B : Nat} {A : Option Addr} {n c : Nat} {xs : List Int} (h : OwnU w B A n c xs) (k : Ok w w') : OwnU w' B A n c xs := by
  refine ⟨h.1.kept (row := none) ⟨k.os, k.tape, k.output, k.size, fun i hi _ => k.block i hi⟩ ?_, h.2⟩
  cases Value.ownBlock (.slice A n c) with
  | none => exact .inl rfl
  | some b => exact .inr (fun e => by cases e)
theorem OwnU.one (w : World) (s : Int) : OwnU (w.alloc (.cells #[.int .u8 s] 30)) w.heap.size (Option.some ⟨w.heap.size, 0, none⟩) 1 1 [s] := ⟨World.ownsRow_lit (base := w.heap.size) (e := 30) (size := 1) w #[.int .u8 s] 1 (Nat.le_refl _) (by decide) rfl, rfl⟩
theorem OwnU.base {w : World} {B B' : Nat} {A : Option Addr} {n c : Nat} {xs : List Int} (h : OwnU w B A n c xs) (hb : B' ≤ B) : OwnU w B' A n c xs := by
  refine ⟨⟨h.1.1, ?_⟩, h.2⟩
  rcases h.1.2 with h2 | ⟨g, cap, cur, e, hbb, r⟩
  · exact .inl h2
  · exact .inr ⟨g, cap, cur, e, Nat.le_trans hb hbb, r⟩
theorem OwnU.at {w : World} {B : Nat} {A : Option Addr} {n c : Nat} {ss : List Int} (h : OwnU w B A n c ss) : ∀ j (h : j < ss.length), ∃ g, A = some ⟨g, 0, none⟩ ∧ w.cell? ⟨g, j, none⟩ = some (.int .u8 ss[j]) := fun j hj => by
  obtain ⟨h1, rfl⟩ := h
  rcases h1.2 with ⟨e, h5⟩ | ⟨g, cap, cur, e, r⟩
  · omega
  · obtain ⟨rfl, -, rfl⟩ : A = some ⟨g, 0, none⟩ ∧ True ∧ c = cap := by
      simp only [Value.slice.injEq] at e
      exact ⟨e.1, trivial, e.2.2⟩
    refine ⟨g, rfl, ?_⟩
    rw [World.ownsRow.cellAt h1 j (by omega)]
    simp [flatU, hj]
theorem OwnU.set {w : World} {B : Nat} {A : Option Addr} {n c : Nat} {xs : List Int} (h : OwnU w B A n c xs) {p : Addr} (hp : p.block < B) (v : Value) : OwnU (w.setCell p v) B A n c xs := by
  refine ⟨⟨h.1.1, ?_⟩, h.2⟩
  rcases h.1.2 with e | ⟨g, cap, cur, e, hB, hg, r⟩
  · exact .inl e
  · refine .inr ⟨g, cap, cur, e, hB, ?_, r⟩
    rw [Below.heap_setCell _ _ _ _ (by omega)]
    exact hg
theorem wpList_appU {ops : Array Oper} {rest : List Oper} {o : Oper} {a : Act} {w : World} {Q : Exit → Act → World → Prop} (hgd : o.guard = none) (s x : Operand)
    (ho : o.op = .call { callee := .builtin .append, args := #[s, x], argTypes := #[27, 27] })
    (base : Nat) (A : Option Addr) (n c : Nat) (ss : List Int) (h : Nat) (p : Int) (hs : a.eval s = .slice A n c) (hx : a.eval x = .slice (some ⟨h, 0, none⟩) 1 1) (hown : OwnU w base A n c ss)
    (hc0 : w.cell? ⟨h, 0, none⟩ = some (.int .u8 p))
    (hlen : ss.length ≤ 1000000) (hbase : base ≤ w.heap.size)
    (hk : ∀ A' c' w', OwnU w' base A' (n + 1) c' (ss ++ [p]) → Below base w w' → w.grownBy w' (Value.slice A n c).ownBlock → wpList Try.prog ops Q rest (a.put o.dst (.slice A' (n + 1) c')) w') : wpList Try.prog ops Q (o :: rest) a w := by
  obtain ⟨i0, hi, hz0, hz1, hz2⟩ := info_parts info30
  obtain ⟨hown, rfl⟩ := hown
  refine wpList_append_own _ hgd s x 27 ho base 30 i0 (.int .u8 0) 1 1 Try.underlying27 hi hz0 hz1 hz2 rfl (by decide) _ ss.length (flatU ss) hs hown ⟨h, 0, none⟩ 1 1 [.int .u8 p] hx rfl ?_ ?_ (by unfold maxLen; omega) (by omega) hbase ?_
  · intro j u hu
    match j, hu with
    | 0, hu =>
      obtain rfl : u = .int .u8 p := by simpa using hu.symm
      exact hc0
  · intro u hu
    obtain rfl : u = .int .u8 p := by simpa using hu
    rfl
  · intro v' w' h2 h3 _
    have hb : Below base w w' := (Below.refl base w).grown h3 hbase (fun k hk => (World.ownsRow.lt hown k hk).1)
    obtain ⟨A', c', rfl⟩ : ∃ A' c', v' = .slice A' (ss.length + 1) c' := by
      rcases h2.2 with ⟨_, h5⟩ | ⟨g', cap', cur, rfl, _⟩
      · omega
      · exact ⟨_, _, rfl⟩
    refine hk A' c' w' ⟨?_, by simp⟩ hb h3
    rw [show flatU (ss ++ [p]) = flatU ss ++ [Value.int .u8 p] by simp [flatU], List.length_append]; exact h2
/-- What stands while a handoff is brought to its end. -/
structure EK (w : World) (g : Nat) (x : Sc) (ep : Int) (A : Option Addr) (n c : Nat) (xs : List Sh) (A2 : Option Addr) (n2 c2 : Nat) (ss : List Int) (wr : World) : Prop where
  x : Sc8 wr g x
  fx : Fz wr g 8
  s0 : wr.cell? ⟨g + 1, 0, none⟩ = some (.int .i64 ep)
  s1 : wr.cell? ⟨g + 1, 1, none⟩ = some (.slice A n c)
  fs : Fz wr (g + 1) 2
  sh : SharesAt wr A xs
  ow : OwnU wr (g + 2) A2 n2 c2 ss
  ok : Ok w wr
theorem EK.mv {w : World} {g : Nat} {x : Sc} {ep : Int} {A : Option Addr} {n c : Nat} {xs : List Sh} {A2 : Option Addr} {n2 c2 : Nat} {ss : List Int} {wr w' : World} (h : EK w g x ep A n c xs A2 n2 c2 ss wr) (k : Ok wr w') : EK w g x ep A n c xs A2 n2 c2 ss w' where
  x := h.x.ok k
  fx := h.fx.ok h.x.c0 k
  s0 := Ok.cell k h.s0
  s1 := Ok.cell k h.s1
  fs := h.fs.ok h.s0 k
  sh := h.sh.ok k
  ow := h.ow.ok k
  ok := Ok.call h.ok k
theorem EK.lt {w : World} {g : Nat} {x : Sc} {ep : Int} {A : Option Addr} {n c : Nat} {xs : List Sh} {A2 : Option Addr} {n2 c2 : Nat} {ss : List Int} {wr : World} (h : EK w g x ep A n c xs A2 n2 c2 ss wr) : g + 1 < wr.heap.size := World.block_lt_of_cell? wr ⟨g + 1, 0, none⟩ h.s0
/-- The stage appended, the handoff and the shares written over. -/
theorem EK.next {w : World} {g : Nat} {x : Sc} {ep : Int} {A : Option Addr} {n c : Nat} {xs : List Sh} {A2 : Option Addr} {n2 c2 : Nat} {ss : List Int} {V V' : World} (h : EK w g x ep A n c xs A2 n2 c2 ss V) (hg : w.heap.size ≤ g)
    (y : Sc) (ep' : Int) (A3 : Option Addr) (m c3 : Nat) (ys : List Sh) (B : Nat) (hB : g + 1 < B) (ho : OwnSh V B A3 m c3 ys) (hlt : ∀ k, (Value.slice A2 n2 c2).ownBlock = Option.some k → k < B)
    (hb : Below (g + 2) V V') (hgr : V.grownBy V' (Value.slice A2 n2 c2).ownBlock) {A4 : Option Addr} {n4 c4 : Nat} {ss' : List Int} (hu : OwnU V' (g + 2) A4 n4 c4 ss') :
    EK w g y ep' A3 m c3 ys A4 n4 c4 ss' (put2 (put8 V' g y) (g + 1) (.int .i64 ep') (.slice A3 m c3)) := by
  have hv := h.lt
  have cl : ∀ {b j u}, b < g + 2 → V.cell? ⟨b, j, none⟩ = some u → V'.cell? ⟨b, j, none⟩ = some u := fun hb2 hc => (Below.cell hb hb2).trans hc
  have fz : ∀ {b n}, b < g + 2 → Fz V b n → Fz V' b n := fun hb2 hf j hj => (Below.frozen hb (p := ⟨_, j, none⟩) hb2).trans (hf j hj)
  have hx8 : Sc8 V' g x := ⟨cl (by omega) h.x.c0, cl (by omega) h.x.c1, cl (by omega) h.x.c2, cl (by omega) h.x.c3, cl (by omega) h.x.c4, cl (by omega) h.x.c5, cl (by omega) h.x.c6, cl (by omega) h.x.c7⟩
  have h0 := cl (by omega) h.s0
  have h1 := cl (by omega) h.s1
  have ho' : OwnSh V' B A3 m c3 ys := by
    refine ⟨ho.1.kept hgr ?_, ho.2⟩
    cases hq : (Value.slice A3 m c3).ownBlock with
    | none => exact .inl rfl
    | some b =>
      refine .inr (fun e => ?_)
      have := hlt b e.symm
      have := (World.ownsRow.lt ho.1 b hq).1
      omega
  have hok : Ok w V' := Below.trans h.ok (hb.mono (by omega))
  exact {
    x := (hx8.put8 y).put2 (by omega)
    fx := frz2 (frz8 (fz (by omega) h.fx))
    s0 := (two_put2 (other8 (by omega) h0) (other8 (by omega) h1)).1
    s1 := (two_put2 (other8 (by omega) h0) (other8 (by omega) h1)).2
    fs := frz2 (frz8 (fz (by omega) h.fs))
    sh := ((ho'.put8 (by omega)).put2 (by omega)).at
    ow := by
      unfold put2 put8
      exact ((((((((((hu.set (p := ⟨g, 0, none⟩) (by show g < g + 2; omega) _).set (p := ⟨g, 1, none⟩) (by show g < g + 2; omega) _).set (p := ⟨g, 2, none⟩) (by show g < g + 2; omega) _).set (p := ⟨g, 3, none⟩) (by show g < g + 2; omega) _).set (p := ⟨g, 4, none⟩) (by show g < g + 2; omega) _).set (p := ⟨g, 5, none⟩) (by show g < g + 2; omega) _).set (p := ⟨g, 6, none⟩) (by show g < g + 2; omega) _).set (p := ⟨g, 7, none⟩) (by show g < g + 2; omega) _).set (p := ⟨g + 1, 0, none⟩) (by show g + 1 < g + 2; omega) _).set (p := ⟨g + 1, 1, none⟩) (by show g + 1 < g + 2; omega) _)
    ok := Ok.put2 (Ok.put8 hok hg) (by omega) }
/-- What is known of the handoff, the shares and the stages gone through. -/
structure EndI (k : Nat) (x : Sc) (ep : Int) (n c : Nat) (xs : List Sh) (ss : List Int) : Prop where
  d : k + distS x.st ≤ 5
  l : ss.length = k + 1
  le : ∀ s ∈ ss, s ≤ x.st
  sc : scB x = true
  sh : sharesB ep xs = true
  hn : xs.length = n
  hc : n ≤ c
theorem EndI.next {k : Nat} {x y : Sc} {ep ep' : Int} {n c m c3 : Nat} {xs ys : List Sh} {ss : List Int} (h : EndI k x ep n c xs ss) (hg : Good x y ep' ys) (hm : ys.length = m) (hc : m ≤ c3) : EndI (k + 1) y ep' m c3 ys (ss ++ [y.st]) := by
  obtain ⟨d1, d2⟩ := goes_down hg.go
  refine ⟨by have := h.d; omega, by simp [h.l], fun s hs => ?_, hg.sc, hg.sh, hm, hc⟩
  rcases List.mem_append.1 hs with hs | hs
  · have := h.le s hs; omega
  · obtain rfl : s = y.st := by simpa using hs
    exact Int.le_refl _
end Go.Proofs.Ytdabdkedgigjdaa
