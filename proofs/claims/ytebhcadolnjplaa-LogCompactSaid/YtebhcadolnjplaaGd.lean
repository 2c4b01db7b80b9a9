/- A log in memory, and what its small functions tell. -/
import Derived.Test.YtebhcadolnjplaaGc
namespace Go.Proofs.Ytebhcadolnjplaa
open Go.RowKit

/-- A log: its block, its base, where its entries and its configurations' indexes lie, what they are. -/
structure LG where
  p : Nat
  i : Int
  t : Int
  s : S4
  AE : Option Addr
  cE : Nat
  AC : Option Addr
  cC : Nat
  es : List En
  xs : List Int
/-- The blocks that a log writes. -/
def Ow (p : Nat) (AE AC : Option Addr) (b : Nat) : Prop := b = p ∨ (∃ a, AE = some a ∧ a.block = b) ∨ (∃ a, AC = some a ∧ a.block = b)
structure Bx (L : LG) (w : World) : Prop where
  c0 : w.cell? ⟨L.p, 0, none⟩ = some (.int .i64 L.i)
  c1 : w.cell? ⟨L.p, 1, none⟩ = some (.int .i64 L.t)
  c2 : w.cell? ⟨L.p, 2, none⟩ = some (.slice L.s.A0 L.s.n0 L.s.c0)
  c3 : w.cell? ⟨L.p, 3, none⟩ = some (.slice L.s.A1 L.s.n1 L.s.c1)
  c4 : w.cell? ⟨L.p, 4, none⟩ = some (.slice L.s.A2 L.s.n2 L.s.c2)
  c5 : w.cell? ⟨L.p, 5, none⟩ = some (.slice L.s.A3 L.s.n3 L.s.c3)
  c6 : w.cell? ⟨L.p, 6, none⟩ = some (.slice L.AE L.es.length L.cE)
  c7 : w.cell? ⟨L.p, 7, none⟩ = some (.slice L.AC L.xs.length L.cC)
  c8 : w.cell? ⟨L.p, 8, none⟩ = some (.bool true)
  f : ∀ k, w.frozen? ⟨L.p, k, none⟩ = false
structure LogAt (S : Nat → Prop) (L : LG) (w : World) : Prop where
  box : Bx L w
  rows : ∃ rs : List ER, w.ownsRow 0 44 7 (.slice L.AE L.es.length L.cE) L.es.length (flat7 rs) ∧ rs.length = L.es.length ∧ ∀ j, j < L.es.length → EnAt S w (erA rs j) (enA L.es j)
  cfgs : OwnZ w 0 (.slice L.AC L.xs.length L.cC) L.xs
  own : ∀ b, Ow L.p L.AE L.AC b → S b
  neE : ∀ a, L.AE = some a → a.block ≠ L.p
  neC : ∀ a, L.AC = some a → a.block ≠ L.p
  neX : ∀ a b, L.AE = some a → L.AC = some b → a.block ≠ b.block
  lo : 0 ≤ L.i
  hi : L.i ≤ 1073741824
  le : L.es.length ≤ 1000
  lx : L.xs.length ≤ 1000
  sm : ∀ j, j < L.es.length → EnLe (enA L.es j)
theorem Bx.lt {L : LG} {w : World} (h : Bx L w) : L.p < w.heap.size := World.block_lt_of_cell? _ _ h.c0
theorem Bx.kp {S : Nat → Prop} {L : LG} {w w' : World} (h : Bx L w) (k : Kp S w w') (hp : ¬ S L.p) : Bx L w' :=
  ⟨k.cell h.c0 hp, k.cell h.c1 hp, k.cell h.c2 hp, k.cell h.c3 hp, k.cell h.c4 hp, k.cell h.c5 hp, k.cell h.c6 hp, k.cell h.c7 hp, k.cell h.c8 hp, fun j => by rw [World.frozen?_of_block (w := w) (k.block L.p h.lt hp)]; exact h.f j⟩
theorem Kp.owns {S : Nat → Prop} {w w' : World} (k : Kp S w w') {B e size n : Nat} {v : Value} {xs : List Value} (h : w.ownsRow B e size v n xs) (hn : ∀ g, v.ownBlock = some g → ¬ S g) : w'.ownsRow B e size v n xs := by
  refine ⟨h.1, ?_⟩
  rcases h.2 with q | ⟨g, cap, cur, rfl, hb, hg, rest⟩
  · exact .inl q
  · exact .inr ⟨g, cap, cur, rfl, hb, by rw [k.block g (Array.getElem?_eq_some_iff.1 hg).1 (hn g rfl)]; exact hg, rest⟩
/-- What another one's change keeps. -/
theorem LogAt.kp {S S' : Nat → Prop} {L : LG} {w w' : World} (h : LogAt S L w) (k : Kp S' w w') (hs : ∀ b, S' b → S b) (hn : ∀ b, Ow L.p L.AE L.AC b → ¬ S' b) : LogAt S L w' := by
  obtain ⟨rs, h1, h2, h3⟩ := h.rows
  refine ⟨h.box.kp k (hn _ (.inl rfl)), ⟨rs, k.owns h1 ?_, h2, fun j hj => (h3 j hj).kp k hs⟩, k.owns h.cfgs ?_, h.own, h.neE, h.neC, h.neX, h.lo, h.hi, h.le, h.lx, h.sm⟩
  · intro g e
    cases ha : L.AE with
    | none => rw [ha] at e; cases e
    | some a => rw [ha] at e; exact hn g (.inr (.inl ⟨a, ha, by simpa [Value.ownBlock] using e⟩))
  · intro g e
    cases ha : L.AC with
    | none => rw [ha] at e; cases e
    | some a => rw [ha] at e; exact hn g (.inr (.inr ⟨a, ha, by simpa [Value.ownBlock] using e⟩))
theorem LogAt.ok {S : Nat → Prop} {L : LG} {w w' : World} (h : LogAt S L w) (k : Ok w w') : LogAt S L w' := h.kp (S' := fun _ => False) (Kp.of k) (fun _ f => f.elim) (fun _ _ f => f)
theorem LogAt.lt {S : Nat → Prop} {L : LG} {w : World} (h : LogAt S L w) (b : Nat) (hb : Ow L.p L.AE L.AC b) : b < w.heap.size := by
  obtain ⟨rs, h1, _⟩ := h.rows
  rcases hb with rfl | ⟨a, ha, rfl⟩ | ⟨a, ha, rfl⟩
  · exact h.box.lt
  · exact (World.ownsRow.lt h1 a.block (by rw [ha]; rfl)).2
  · exact (World.ownsRow.lt h.cfgs a.block (by rw [ha]; rfl)).2
theorem LogAt.more {S S' : Nat → Prop} {L : LG} {w : World} (h : LogAt S L w) (hs : ∀ b, S' b → S b ∨ w.heap.size ≤ b) (ho : ∀ b, S b → S' b) : LogAt S' L w := by
  obtain ⟨rs, h1, h2, h3⟩ := h.rows
  exact ⟨h.box, ⟨rs, h1, h2, fun j hj => (h3 j hj).more hs⟩, h.cfgs, fun b hb => ho b (h.own b hb), h.neE, h.neC, h.neX, h.lo, h.hi, h.le, h.lx, h.sm⟩
/-- The cells of an entry that the log has. -/
theorem LogAt.at {S : Nat → Prop} {L : LG} {w : World} (h : LogAt S L w) (j : Nat) (hj : j < L.es.length) :
    ∃ g r, L.AE = some ⟨g, 0, none⟩ ∧ EnAt S w r (enA L.es j) ∧ ∀ k, k < 7 → w.cell? ⟨g, j * 7 + k, none⟩ = r.cells[k]? := by
  obtain ⟨rs, h1, h2, h3⟩ := h.rows
  rcases h1.2 with ⟨_, e⟩ | ⟨g, cap, cur, e, _⟩
  · omega
  · simp only [Value.slice.injEq] at e
    refine ⟨g, erA rs j, e.1, h3 j hj, fun k hk => ?_⟩
    have hc := World.ownsRow.cells h1 (g := g) (by rw [e.1]; rfl) (j * 7 + k)
    have hl : j * 7 + k < (flat7 rs).length := by rw [flat7_len, h2]; omega
    have ha := flat7_at rs j k (by omega) hk
    have hck : k < (erA rs j).cells.length := by show k < 7; exact hk
    rw [List.getElem?_eq_getElem hck] at ha ⊢
    have := hc _ ha
    have e2 : (⟨g, 0, none⟩ : Addr).add (j * 7 + k) = ⟨g, j * 7 + k, none⟩ := by unfold Addr.add; split <;> simp_all
    rwa [e2] at this

def Ret (w : World) (v : Value) (e : Ending) (w' : World) : Prop := e = .returned v ∧ Ok w w'
theorem none_f (p : Nat) (w : World) (c8 : w.cell? ⟨p, 8, none⟩ = some (.bool true)) : Calls Try.prog 55 #[.pointer (some ⟨p, 0, none⟩)] w (Ret w (.bool false)) := by
  go_enter Try.func55, Try.ntmps55
  go_wp2_with fail
  go_ret
  exact ⟨rfl, Ok.refl _⟩
set_option maxRecDepth 100000 in
theorem last_f (p : Nat) (i : Int) (A : Option Addr) (n c : Nat) (w : World) (c0 : w.cell? ⟨p, 0, none⟩ = some (.int .i64 i)) (c6 : w.cell? ⟨p, 6, none⟩ = some (.slice A n c)) (h0 : 0 ≤ i) (h1 : i ≤ 1073741824) (hn : n ≤ 1000000) :
    Calls Try.prog 56 #[.pointer (some ⟨p, 0, none⟩)] w (Ret w (.int .i64 (i + n))) := by
  go_enter Try.func56, Try.ntmps56
  have e : IntKind.i64.wrap (i + (n : Int)) = i + n := IntWalk.i64_in _ (by omega)
  go_wp2_with fail
  go_quiet (fail)
  go_wp2_with fail
  go_ret
  exact ⟨rfl, (Ok.refl _).drewN _⟩
def hasB (L : LG) (x : Int) : Bool := decide (L.i < x) && decide (x ≤ L.i + L.es.length)
set_option maxRecDepth 100000 in
theorem has_f (S : Nat → Prop) (L : LG) (x : Int) (w : World) (h : LogAt S L w) : Calls Try.prog 60 #[.pointer (some ⟨L.p, 0, none⟩), .int .i64 x] w (Ret w (.bool (hasB L x))) := by
  have c0 := h.box.c0
  have hl := last_f L.p L.i L.AE L.es.length L.cE w c0 h.box.c6 h.lo h.hi (Nat.le_trans h.le (by decide))
  clear h
  go_enter Try.func60, Try.ntmps60
  by_cases h1 : L.i < x
  · have d1 : decide (x > L.i) = true := decide_eq_true h1
    go_wp2_with fail
    refine hl.mono ?_
    rintro _ w1 ⟨rfl, o1⟩
    go_wp2_with fail
    go_ret
    exact ⟨by simp [hasB, h1], o1⟩
  · have d1 : decide (x > L.i) = false := decide_eq_false h1
    go_wp2_with fail
    go_ret
    have e : hasB L x = false := by
      have e : decide (L.i < x) = false := decide_eq_false (by omega)
      simp only [hasB, e, Bool.false_and]
    exact ⟨by rw [e]; rfl, Ok.refl _⟩

set_option maxRecDepth 100000 in
theorem at_f (S : Nat → Prop) (L : LG) (j : Nat) (w : World) (h : LogAt S L w) (hj : j < L.es.length) (g : Nat) (hg : L.AE = some ⟨g, 0, none⟩) : Calls Try.prog 61 #[.pointer (some ⟨L.p, 0, none⟩), .int .i64 (L.i + j + 1)] w (Ret w (.pointer (some ⟨g, j * 7, none⟩))) := by
  have c0 := h.box.c0
  have c6 := h.box.c6
  have h0 := h.lo
  have h1 := h.hi
  have hn := h.le
  rw [hg] at c6
  clear h
  obtain ⟨n, en⟩ : ∃ n, L.es.length = n := ⟨_, rfl⟩
  rw [en] at hj hn c6
  obtain ⟨i, ei⟩ : ∃ i, L.i = i := ⟨_, rfl⟩
  rw [ei] at h0 h1 c0 ⊢
  clear ei en
  have e1 : IntKind.i64.wrap (i + (j : Int) + 1 - i) = (j : Int) + 1 := by rw [show i + (j : Int) + 1 - i = (j : Int) + 1 from by omega]; exact IntWalk.i64_in _ (by omega)
  have e2 : IntKind.i64.wrap ((j : Int) + 1 - 1) = (j : Int) := by rw [show (j : Int) + 1 - 1 = (j : Int) from by omega]; exact IntWalk.i64_in _ (by omega)
  have a0 : (0 : Int) ≤ (j : Int) := Int.natCast_nonneg _
  have a1 : (j : Int) < (n : Int) := by omega
  go_enter Try.func61, Try.ntmps61
  go_wp2_with fail
  go_quiet (fail)
  go_wp2_with fail
  go_ret
  exact ⟨rfl, (Ok.refl _).drewN _⟩
end Go.Proofs.Ytebhcadolnjplaa
