/- A table and the document's rows, and a copy of both: what stands while deeds are done to one of them. -/
import Derived.Test.YtebhcadolnjplaaGreatVh
namespace Go.Proofs.YtebhcadolnjplaaGreat
open Go.RowKit

theorem get_one {l : List Rw} {t : Str} {k : Nat} (hr : Rises l) (hp : Place l t k) {j : Nat} (hj : j < l.length) (hk : (rwA l j).key = t) : foundB l t k = true ∧ rwA l k = rwA l j := by
  cases hf : foundB l t k with
  | false =>
    exfalso
    rcases Nat.lt_or_ge j k with h | h
    · have h1 := hp.low j h
      rw [hk, ltB_irrefl] at h1
      cases h1
    · have h1 := place_no hr hp hf j h hj
      rw [hk, ltB_irrefl] at h1
      cases h1
  | true =>
    obtain ⟨h1, h2⟩ := place_yes hf
    refine ⟨rfl, ?_⟩
    rcases Nat.lt_trichotomy k j with h | h | h
    · have h3 := hr k j h hj
      rw [h2, hk, ltB_irrefl] at h3
      cases h3
    · rw [h]
    · have h3 := hr j k h h1
      rw [h2, hk, ltB_irrefl] at h3
      cases h3
theorem get_no {l : List Rw} {t : Str} {k : Nat} (h : ∀ j, j < l.length → (rwA l j).key ≠ t) : foundB l t k = false := by
  cases hf : foundB l t k with
  | false => rfl
  | true =>
    obtain ⟨h1, h2⟩ := place_yes hf
    exact absurd h2 (h k h1)
def KeysIn (W : World) (A : Option Addr) (zs : List Str) : Prop := ∀ j, j < zs.length → ∃ b off, A = some ⟨b, off, none⟩ ∧ W.cell? ⟨b, off + j, none⟩ = some (.string (zs.getD j ⟨#[]⟩))
theorem KeysIn.ok {w w' : World} {A : Option Addr} {zs : List Str} (h : KeysIn w A zs) (k : Ok w w') : KeysIn w' A zs := fun j hj => by
  obtain ⟨b, off, e, hc⟩ := h j hj
  exact ⟨b, off, e, k.cell hc⟩
def DeedsNil (l : List Dd) : Prop := ∀ j, j < l.length → (ddA l j).A = none → (ddA l j).c = 0
/-- One table, and an object that waits for a copy. -/
structure On (W : World) (p m q : Nat) (F : Nat → Prop) (l : List Rw) (w : World) : Prop where
  sd : Sd F p m l w
  hi : ∀ b, F b → W.heap.size ≤ b
  nq : ¬ F q
  hq : W.heap.size ≤ q
  rq : RfA q none 0 0 [] w
  ok : Ok W w
/-- Two tables, each beside the document's rows. -/
structure Tw (W : World) (p m p2 q : Nat) (F : Nat → Prop) (l : List Rw) (F2 : Nat → Prop) (l2 : List Rw) (w : World) : Prop where
  sd : Sd F p m l w
  sd2 : Sd F2 p2 q l2 w
  hi : ∀ b, F b → W.heap.size ≤ b
  hi2 : ∀ b, F2 b → W.heap.size ≤ b
  no : ∀ b, F b → ¬ F2 b
  ok : Ok W w
theorem ok_chg {W w w' : World} {F : Nat → Prop} (h : Ok W w) (hF : ∀ b, F b → W.heap.size ≤ b) (k : Chg F w w') : Ok W w' :=
  ⟨k.os.trans h.os, k.tape.trans h.tape, k.output.trans h.output, Nat.le_trans h.size k.size, fun b hb => (k.block b (Nat.lt_of_lt_of_le hb h.size) (fun f => by have := hF b f; omega)).trans (h.block b hb)⟩
theorem On.ok' {W w w' : World} {p m q : Nat} {F : Nat → Prop} {l : List Rw} (h : On W p m q F l w) (k : Ok w w') : On W p m q F l w' :=
  ⟨h.sd.ok k, h.hi, h.nq, h.hq, h.rq.ok k, h.ok.trans k⟩
theorem Tw.ok' {W w w' : World} {p m p2 q : Nat} {F F2 : Nat → Prop} {l l2 : List Rw} (h : Tw W p m p2 q F l F2 l2 w) (k : Ok w w') : Tw W p m p2 q F l F2 l2 w' :=
  ⟨h.sd.ok k, h.sd2.ok k, h.hi, h.hi2, h.no, h.ok.trans k⟩
theorem On.act {W w w' : World} {p m q : Nat} {F F' : Nat → Prop} {l l' : List Rw} (h : On W p m q F l w) (sd : Sd F' p m l' w') (sub : ∀ b, F' b → F b ∨ w.heap.size ≤ b) (k : Chg F w w') : On W p m q F' l' w' :=
  ⟨sd, fun b hb => (sub b hb).elim (h.hi b) (fun x => Nat.le_trans h.ok.size x), fun hq => (sub q hq).elim h.nq (fun x => by have := h.rq.lt; omega), h.hq, h.rq.same (k.block q h.rq.lt h.nq) (fun a e => by cases e), ok_chg h.ok h.hi k⟩
theorem Tw.act1 {W w w' : World} {p m p2 q : Nat} {F F' F2 : Nat → Prop} {l l' l2 : List Rw} (h : Tw W p m p2 q F l F2 l2 w) (sd : Sd F' p m l' w') (sub : ∀ b, F' b → F b ∨ w.heap.size ≤ b) (k : Chg F w w') : Tw W p m p2 q F' l' F2 l2 w' :=
  ⟨sd, h.sd2.same (fun b hb => k.block b (h.sd2.lt b hb) (fun f => h.no b f hb)) k.size, fun b hb => (sub b hb).elim (h.hi b) (fun x => Nat.le_trans h.ok.size x), h.hi2, fun b hb h2 => (sub b hb).elim (fun f => h.no b f h2) (fun x => by have := h.sd2.lt b h2; omega), ok_chg h.ok h.hi k⟩
theorem Tw.act2 {W w w' : World} {p m p2 q : Nat} {F F2 F' : Nat → Prop} {l l2 l' : List Rw} (h : Tw W p m p2 q F l F2 l2 w) (sd : Sd F' p2 q l' w') (sub : ∀ b, F' b → F2 b ∨ w.heap.size ≤ b) (k : Chg F2 w w') : Tw W p m p2 q F l F' l' w' :=
  ⟨h.sd.same (fun b hb => k.block b (h.sd.lt b hb) (h.no b hb)) k.size, sd, h.hi, fun b hb => (sub b hb).elim (h.hi2 b) (fun x => Nat.le_trans h.ok.size x), fun b hb h2 => (sub b h2).elim (h.no b hb) (fun x => by have := h.sd.lt b hb; omega), ok_chg h.ok h.hi2 k⟩
/-- The copy is laid into the object that waits. -/
theorem On.copy {W w w1 w2 : World} {p m q p2 : Nat} {F : Nat → Prop} {l : List Rw} {A2 A3 : Option Addr} {c2 n3 c3 : Nat} (h : On W p m q F l w) (t2 : TabAt p2 A2 l.length c2 l w1) (hp2 : w.heap.size ≤ p2) (ha2 : ∀ a, A2 = some a → w.heap.size ≤ a.block) (o1 : Ok w w1)
    (ho3 : OwnR w2 w1.heap.size A3 n3 c3 l) (o2 : Ok w1 w2) : ∃ F2, Tw W p m p2 q F l F2 l (w2.setCell ⟨q, 0, none⟩ (.slice A3 n3 c3)) := by
  have hq := h.rq.lt
  have o12 := o1.trans o2
  have hs1 := o1.size
  have hs2 := o2.size
  have t3 := t2.ok o2
  have hb : ∀ b, b ≠ q → (w2.setCell ⟨q, 0, none⟩ (.slice A3 n3 c3)).heap[b]? = w2.heap[b]? := fun b hne => heap_setCell_other w2 ⟨q, 0, none⟩ b _ hne
  have hA2 : ∀ a, A2 = some a → a.block < w1.heap.size := fun a e => (t2.own.2.lt a.block (by rw [e]; rfl)).2
  have hA3 : ∀ a, A3 = some a → w1.heap.size ≤ a.block ∧ a.block < w2.heap.size := fun a e => ho3.2.lt a.block (by rw [e]; rfl)
  have hp2l := t2.lt
  have r2 := h.rq.ok o12
  have hsz : (w2.setCell ⟨q, 0, none⟩ (.slice A3 n3 c3)).heap.size = w2.heap.size := World.size_setCell _ _ _
  refine ⟨fun b => b = q ∨ b = p2 ∨ (∃ a, A2 = some a ∧ a.block = b) ∨ ∃ a, A3 = some a ∧ a.block = b, ⟨(h.sd.ok o12).same (fun b hF => hb b (fun e => h.nq (e ▸ hF))) (by rw [hsz]; exact Nat.le_refl _), ⟨⟨A2, c2, A3, n3, c3, ?_, ?_, by omega, fun a e => ⟨by have := ha2 a e; omega, .inr (.inr (.inl ⟨a, e, rfl⟩))⟩, fun a e => ⟨by have := hA3 a e; omega, .inr (.inr (.inr ⟨a, e, rfl⟩)), fun a' e' => by have := hA3 a e; have := hA2 a' e'; omega⟩⟩, .inr (.inl rfl), .inl rfl, fun b hF => ?_, h.sd.ri, h.sd.rt, h.sd.len⟩, h.hi, fun b hF => ?_, fun b hF hF2 => ?_, ?_⟩⟩
  · exact t3.same (hb p2 (by omega)) (fun a e => hb a.block (by have := ha2 a e; omega))
  · refine ⟨World.cell?_setCell_same _ _ _ r2.c0, by rw [World.frozen?_setCell]; exact r2.f, ho3.1, ho3.rows.same (fun a e => hb a.block (by have := hA3 a e; omega)), ho3.nil', ho3.cap, fun a e => by have := hA3 a e; omega⟩
  · rw [hsz]
    rcases hF with rfl | rfl | ⟨a, e, rfl⟩ | ⟨a, e, rfl⟩
    · omega
    · omega
    · have := hA2 a e; omega
    · exact (hA3 a e).2
  · have hok := h.ok.size
    rcases hF with rfl | rfl | ⟨a, e, rfl⟩ | ⟨a, e, rfl⟩
    · exact h.hq
    · omega
    · have := ha2 a e; omega
    · have := (hA3 a e).1; omega
  · have hlt := h.sd.lt b hF
    rcases hF2 with rfl | rfl | ⟨a, e, rfl⟩ | ⟨a, e, rfl⟩
    · exact h.nq hF
    · omega
    · have := ha2 a e; omega
    · have := (hA3 a e).1; omega
  · exact Below.setCell (h.ok.trans o12) h.hq _
/-- Either, told by whether it was copied. -/
def Mid (W : World) (p m q : Nat) (F : Nat → Prop) (l : List Rw) (v : Value) (b : Bool) (w : World) : Prop :=
  (b = false ∧ v = .pointer none ∧ On W p m q F l w) ∨ (b = true ∧ ∃ p2 F2 l2, v = .pointer (some ⟨p2, 0, none⟩) ∧ Tw W p m p2 q F l F2 l2 w)
theorem Mid.sd {W w : World} {p m q : Nat} {F : Nat → Prop} {l : List Rw} {v : Value} {b : Bool} (h : Mid W p m q F l v b w) : Sd F p m l w := by
  rcases h with ⟨_, _, h⟩ | ⟨_, _, _, _, _, h⟩
  · exact h.sd
  · exact h.sd
theorem Mid.hi {W w : World} {p m q : Nat} {F : Nat → Prop} {l : List Rw} {v : Value} {b : Bool} (h : Mid W p m q F l v b w) : ∀ b, F b → W.heap.size ≤ b := by
  rcases h with ⟨_, _, h⟩ | ⟨_, _, _, _, _, h⟩
  · exact h.hi
  · exact h.hi
theorem Mid.wok {W w : World} {p m q : Nat} {F : Nat → Prop} {l : List Rw} {v : Value} {b : Bool} (h : Mid W p m q F l v b w) : Ok W w := by
  rcases h with ⟨_, _, h⟩ | ⟨_, _, _, _, _, h⟩
  · exact h.ok
  · exact h.ok
theorem Mid.ok' {W w w' : World} {p m q : Nat} {F : Nat → Prop} {l : List Rw} {v : Value} {b : Bool} (h : Mid W p m q F l v b w) (k : Ok w w') : Mid W p m q F l v b w' := by
  rcases h with ⟨h1, h2, h⟩ | ⟨h1, p2, F2, l2, h2, h⟩
  · exact .inl ⟨h1, h2, h.ok' k⟩
  · exact .inr ⟨h1, p2, F2, l2, h2, h.ok' k⟩
theorem Mid.act {W w w' : World} {p m q : Nat} {F F' : Nat → Prop} {l l' : List Rw} {v : Value} {b : Bool} (h : Mid W p m q F l v b w) (sd : Sd F' p m l' w') (sub : ∀ b, F' b → F b ∨ w.heap.size ≤ b) (k : Chg F w w') : Mid W p m q F' l' v b w' := by
  rcases h with ⟨h1, h2, h⟩ | ⟨h1, p2, F2, l2, h2, h⟩
  · exact .inl ⟨h1, h2, h.act sd sub k⟩
  · exact .inr ⟨h1, p2, F2, l2, h2, h.act1 sd sub k⟩
/-- A deed that came in, seen in a later world. -/
theorem deedV_of {W w : World} {F : Nat → Prop} {b o : Nat} {d : Dd} (h : DdAt W b o d) (k : Ok W w) (hF : ∀ b, F b → W.heap.size ≤ b) (hn : d.n ≤ 1200) (hz : d.A = none → d.c = 0) : DeedV F w d :=
  ⟨h.len, hn, h.rows.ok k, hz, fun h0 a e => by
    obtain ⟨b1, o1, e1, hc, _⟩ := h.rows 0 (by rw [h.len]; exact h0)
    rw [e] at e1
    obtain rfl := Option.some.inj e1
    have hlt : b1 < W.heap.size := World.block_lt_of_cell? _ _ hc
    exact ⟨fun f => by have := hF _ f; dsimp only at this; omega, Nat.lt_of_lt_of_le hlt k.size⟩⟩
/-- What Get tells. -/
def Gt (l : List Rw) (t : Str) (v : Str) (b : Bool) : Prop := (b = false ∧ v = ⟨#[]⟩ ∧ ∀ j, j < l.length → (rwA l j).key ≠ t) ∨ (b = true ∧ ∃ j, j < l.length ∧ (rwA l j).key = t ∧ v = (rwA l j).val)
theorem rises_one {l : List Rw} (hr : Rises l) {i j : Nat} (hi : i < l.length) (hj : j < l.length) (h : (rwA l i).key = (rwA l j).key) : i = j := by
  rcases Nat.lt_trichotomy i j with k | k | k
  · have h3 := hr i j k hj
    rw [h, ltB_irrefl] at h3
    cases h3
  · exact k
  · have h3 := hr j i k hi
    rw [h, ltB_irrefl] at h3
    cases h3
theorem Gt.uniq {l : List Rw} {t v v' : Str} {b b' : Bool} (hr : Rises l) (h : Gt l t v b) (h' : Gt l t v' b') : v' = v ∧ b' = b := by
  rcases h with ⟨rfl, rfl, h1⟩ | ⟨rfl, j, h1, h2, rfl⟩
  · rcases h' with ⟨rfl, rfl, _⟩ | ⟨rfl, j, h3, h4, rfl⟩
    · exact ⟨rfl, rfl⟩
    · exact absurd h4 (h1 j h3)
  · rcases h' with ⟨rfl, rfl, h3⟩ | ⟨rfl, i, h3, h4, rfl⟩
    · exact absurd h2 (h3 j h1)
    · rw [rises_one hr h3 h1 (h4.trans h2.symm)]
      exact ⟨rfl, rfl⟩
def GtP (l : List Rw) (t : Str) (W : World) (e : Ending) (w' : World) : Prop := ∃ v b, e = .returned (.tuple #[.string v, .bool b]) ∧ Gt l t v b ∧ Ok W w'
theorem get13 (p : Nat) (A : Option Addr) (n c : Nat) (l : List Rw) (t : Str) (w : World) (h : TabAt p A n c l w) (hn6 : n ≤ 1000000) (hr : Rises l) : Calls Tryz.prog 13 #[.pointer (some ⟨p, 0, none⟩), .string t] w (GtP l t w) := by
  refine (get_f p A n c l t w h hn6 hr).mono fun e w' hh => ?_
  obtain ⟨k, hp, he, ho⟩ := hh
  cases hf : foundB l t k with
  | true =>
    obtain ⟨h1, h2⟩ := place_yes hf
    rw [hf] at he
    exact ⟨_, _, he, .inr ⟨rfl, k, h1, h2, rfl⟩, ho⟩
  | false =>
    rw [hf] at he
    refine ⟨_, _, he, .inl ⟨rfl, rfl, fun j hj e => ?_⟩, ho⟩
    have := (get_one hr hp hj e).1
    rw [hf] at this
    cases this
theorem get14 (m : Nat) (A : Option Addr) (n c : Nat) (l : List Rw) (t : Str) (w : World) (h : RfA m A n c l w) (hn6 : n ≤ 100000) : Calls Tryz.prog 14 #[.pointer (some ⟨m, 0, none⟩), .string t] w (GtP l t w) := by
  have hl := h.len
  refine (rget_f m A n c l t w h hn6).mono fun e w' hh => ?_
  obtain ⟨ho, ⟨he, h1⟩ | ⟨j, h1, h2, he⟩⟩ := hh
  · exact ⟨_, _, he, .inl ⟨rfl, rfl, by rw [hl]; exact h1⟩, ho⟩
  · exact ⟨_, _, he, .inr ⟨rfl, j, by rw [hl]; exact h1, h2, rfl⟩, ho⟩
theorem rfA_new (w : World) : RfA w.heap.size none 0 0 [] (w.alloc (.cells #[.slice none 0 0] 31)) :=
  ⟨by rw [World.cell?_alloc_at _ _ _ _ rfl]; rfl, World.frozen?_alloc_at _ _ _ _ rfl, rfl, fun j hj => absurd hj (Nat.not_lt_zero _), fun _ => rfl, Nat.le_refl _, fun a e => by cases e⟩
theorem On.new {W w3 w5 : World} {p : Nat} (t : TabAt p none 0 0 [] w3) (hp : W.heap.size ≤ p) (o3 : Ok W w3) (o5 : Ok (w3.alloc (.cells #[.slice none 0 0] 31)) w5) : On W p w3.heap.size w5.heap.size (fun b => b = p ∨ b = w3.heap.size) [] (w5.alloc (.cells #[.slice none 0 0] 31)) := by
  have oa : Ok w3 (w3.alloc (.cells #[.slice none 0 0] 31)) := (Ok.refl w3).alloc _
  have ob : Ok w5 (w5.alloc (.cells #[.slice none 0 0] 31)) := (Ok.refl w5).alloc _
  have hs := o5.size
  rw [World.size_alloc] at hs
  have hl := t.lt
  have h3 := o3.size
  refine ⟨⟨⟨none, 0, none, 0, 0, t.ok (oa.trans (o5.trans ob)), (rfA_new w3).ok (o5.trans ob), by omega, (fun a e => by cases e), (fun a e => by cases e)⟩, .inl rfl, .inr rfl, fun b hb => ?_, rises_nil, rightL.nil, Nat.zero_le _⟩, fun b hb => ?_, fun hb => ?_, by omega, rfA_new w5, o3.trans (oa.trans (o5.trans ob))⟩
  · rw [World.size_alloc]
    rcases hb with rfl | rfl <;> omega
  · rcases hb with rfl | rfl <;> omega
  · rcases hb with hb | hb <;> omega
/-- Two lists of rows that lie apart. -/
def vs2 (A1 : Option Addr) (c1 : Nat) (A2 : Option Addr) (c2 n j : Nat) : Value := if j = 0 then .slice A1 n c1 else .slice A2 n c2
end Go.Proofs.YtebhcadolnjplaaGreat
