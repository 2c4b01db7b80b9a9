/- Contracts of the writer of bytes: what each call leaves in memory is what the plain mathematics says. -/
import Derived.Test.YtolfdncmlfnbdaaRows
import Derived.Test.YtolfdncmlfnbdaaA
import Derived.WalkKit
import Derived.WalkSpells
import Derived.WalkLawsBesides
import Derived.RegionTactic
import Derived.ChangeAlike
import Derived.BigRegion
import Derived.Deep.QuietTactic
import Derived.BigQuiet
import Derived.Lib.Hide
import Derived.Laws.AppendOwnNone
namespace Go.Proofs.Ytolfdncmlfnbdaa
open Go.RowKit

def ub (b : B8) : Int := b.toNat
theorem ub_lo (b : B8) : 0 ≤ ub b := Int.natCast_nonneg _
theorem ub_hi (b : B8) : ub b < 256 := by have := b.isLt; unfold ub; omega
def bv (b : B8) : Value := .int .u8 (ub b)
theorem ub_eq (a b : B8) : (ub a == ub b) = (a == b) := by
  by_cases h : a = b
  · subst h; rw [beq_self_eq_true, beq_self_eq_true]
  · have : ub a ≠ ub b := fun e => h (BitVec.eq_of_toNat_eq (by unfold ub at e; omega))
    rw [beq_eq_false_iff_ne.2 this, beq_eq_false_iff_ne.2 h]

/-- The value v is a list of bytes in memory: these. -/
def BytesIn (w : World) (v : Value) (xs : List B8) : Prop :=
  (xs = [] ∧ ∃ A c, v = .slice A 0 c ∧ (A = none → c = 0)) ∨ ∃ b o c, v = .slice (some ⟨b, o, none⟩) xs.length c ∧ xs.length ≤ c ∧ xs.length ≤ 140737488351232 ∧ ∀ i, i < xs.length → w.cell? ⟨b, o + i, none⟩ = some (.int .u8 (ub (xs.getD i 0#8)))
/-- Below the blocks of w nothing has turned. -/
def Ok (w w' : World) : Prop := Below w.heap.size w w'
theorem Ok.refl (w : World) : Ok w w := Below.refl _ _
theorem Ok.drew {w w' : World} (h : Ok w w') : Ok w w'.drew := Below.drew h
theorem Ok.alloc {w w' : World} (h : Ok w w') (o : Obj) : Ok w (w'.alloc o) := Below.alloc h (Below.size h) o
theorem Ok.call {w w' w'' : World} (h : Ok w w') (k : Below w'.heap.size w' w'') : Ok w w'' := Below.trans h (k.mono (Below.size h))
theorem Ok.trans {w w' w'' : World} (h : Ok w w') (k : Ok w' w'') : Ok w w'' := h.call k
theorem Ok.cell {w w' : World} {a : Addr} {v : Value} (h : Ok w w') (hc : w.cell? a = some v) : w'.cell? a = some v := by
  rw [Below.cell h (World.block_lt_of_cell? _ _ hc)]; exact hc
theorem Ok.bytes {w w' : World} {v : Value} {xs : List B8} (h : Ok w w') (t : BytesIn w v xs) : BytesIn w' v xs := by
  rcases t with t | ⟨b, o, c, rfl, hn, hm, hc⟩
  · exact .inl t
  · exact .inr ⟨b, o, c, rfl, hn, hm, fun i hi => h.cell (hc i hi)⟩
theorem BytesIn.form {w : World} {v : Value} {xs : List B8} (h : BytesIn w v xs) : ∃ A c, v = .slice A xs.length c ∧ xs.length ≤ 140737488351232 := by
  rcases h with ⟨rfl, A, c, rfl, _⟩ | ⟨b, o, c, rfl, _, hm, _⟩
  · exact ⟨_, _, rfl, by simp⟩
  · exact ⟨_, _, rfl, hm⟩

theorem info5 : (Try.prog.info? 5).map (fun i => (i.zero, i.size, i.bytes)) = some (some (.int .u8 0), 1, 1) := by kernel_rfl
/-- A row of the call's own, from block base on, that holds these bytes; it may be nil. -/
def OwnN (w : World) (base : Nat) (v : Value) (xs : List B8) : Prop := w.ownsRow base 5 1 v xs.length (xs.map bv)
theorem OwnN.form {w : World} {base : Nat} {v : Value} {xs : List B8} (h : OwnN w base v xs) : ∃ A c, v = .slice A xs.length c := by
  rcases h.2 with ⟨rfl, h0⟩ | ⟨g, cap, cur, rfl, _⟩
  · exact ⟨none, 0, by rw [h0]⟩
  · exact ⟨_, _, rfl⟩
theorem OwnN.bytes {w : World} {base : Nat} {v : Value} {xs : List B8} (h : OwnN w base v xs) (hm : xs.length ≤ 140737488351232) : BytesIn w v xs := by
  rcases h.2 with ⟨rfl, h0⟩ | ⟨g, cap, cur, rfl, _, _, hn, _⟩
  · exact .inl ⟨List.length_eq_zero_iff.1 h0, _, _, rfl, fun _ => rfl⟩
  · refine .inr ⟨g, 0, cap, rfl, hn, hm, fun i hi => ?_⟩
    rw [Nat.zero_add, World.ownsRow.cellAt h i (by omega)]
    simp [hi, bv]
theorem wpList_app {ops : Array Oper} {rest : List Oper} {o : Oper} {a : Act} {w : World} {Q : Exit → Act → World → Prop} (hgd : o.guard = none) (s x : Operand)
    (ho : o.op = .call { callee := .builtin .append, args := #[s, x], argTypes := #[26, 26] })
    (base : Nat) (v : Value) (xs ys : List B8) (vx : Value) (hs : a.eval s = v) (hx : a.eval x = vx) (hown : OwnN w base v xs) (hy : BytesIn w vx ys)
    (hlen : xs.length + ys.length ≤ 140737488351232) (hbase : base ≤ w.heap.size)
    (h : ∀ A c w', OwnN w' base (.slice A (xs.length + ys.length) c) (xs ++ ys) → Below base w w' → wpList Try.prog ops Q rest (a.put o.dst (.slice A (xs.length + ys.length) c)) w') : wpList Try.prog ops Q (o :: rest) a w := by
  obtain ⟨i0, hi, hz0, hz1, hz2⟩ := info_parts info5
  have hlate : ∀ v' w', w'.ownsRow base 5 1 v' (xs.length + ys.length) (xs.map bv ++ ys.map bv) → w.grownBy w' v.ownBlock → wpList Try.prog ops Q rest (a.put o.dst v') w' := by
    intro v' w' h2 h3
    have hb : Below base w w' := (Below.refl base w).grown h3 hbase (fun k hk => (World.ownsRow.lt hown k hk).1)
    have h2' : OwnN w' base v' (xs ++ ys) := by unfold OwnN; rw [List.map_append, List.length_append]; exact h2
    obtain ⟨A, c, rfl⟩ := h2'.form
    rw [List.length_append] at h2' ⊢
    exact h A c w' h2' hb
  rcases hy with ⟨rfl, A, c, rfl, hA⟩ | ⟨b, off, c, rfl, _, hm, hc⟩
  · cases A with
    | some ad =>
      refine wpList_append_own _ hgd s x 26 ho base 5 i0 (.int .u8 0) 1 1 Try.underlying26 hi hz0 hz1 hz2 rfl (by decide) _ xs.length (xs.map bv) hs hown ad 0 c [] hx rfl (fun j u hu => by simp at hu) (fun u hu => by simp at hu) (by unfold maxLen; simp at hlen; omega) (by simp at hlen; omega) hbase ?_
      intro v' w' h2 h3 _
      exact hlate v' w' h2 h3
    | none =>
      obtain rfl := hA rfl
      refine wpList_append_own_none hgd s x 26 ho base 5 i0 1 Try.underlying26 hi _ xs.length (xs.map bv) hs hown hx ?_
      exact hlate v w (by have := hown; unfold OwnN at this; simpa using this) ⟨rfl, rfl, rfl, Nat.le_refl _, fun _ _ _ => rfl⟩
  · refine wpList_append_own _ hgd s x 26 ho base 5 i0 (.int .u8 0) 1 1 Try.underlying26 hi hz0 hz1 hz2 rfl (by decide) _ xs.length (xs.map bv) hs hown ⟨b, off, none⟩ ys.length c (ys.map bv) hx (by simp) ?_ ?_ (by unfold maxLen; omega) (by omega) hbase ?_
    · intro j u hu
      have hj : j < ys.length := by
        by_cases hl : j < ys.length
        · exact hl
        · rw [List.getElem?_eq_none (by simp; omega)] at hu; cases hu
      have e : (⟨b, off, none⟩ : Addr).add j = ⟨b, off + j, none⟩ := by unfold Addr.add; split <;> simp_all
      rw [e, hc j hj, ← hu]
      simp [hj, bv]
    · intro u hu
      obtain ⟨y, _, rfl⟩ := List.mem_map.1 hu
      rfl
    · intro v' w' h2 h3 _
      exact hlate v' w' h2 h3
theorem bytes_new (w : World) (xs : List B8) (cells : Array Value) (t : TypeId) (fz : Nat × Nat) (g n c : Nat) (hg : g = w.heap.size) (hn : n = xs.length) (hcn : n ≤ c) (h : xs.length ≤ 140737488351232) (hc : cells.toList = xs.map fun b => Value.int .u8 (ub b)) :
    BytesIn (w.alloc (.cells cells t fz)) (.slice (some ⟨g, 0, none⟩) n c) xs := by
  subst hg; subst hn
  refine .inr ⟨w.heap.size, 0, c, rfl, hcn, h, fun i hi => ?_⟩
  rw [cell_of_row _ _ _ _ _ _ (heap_alloc_new w _), ← Array.getElem?_toList, hc]
  simp [hi]
theorem BytesIn.nil (w : World) : BytesIn w (.slice none 0 0) [] := .inl ⟨rfl, _, _, rfl, fun _ => rfl⟩

/-- A writer at block g: what it has written; it is not spoilt. Its bytes lie behind it. -/
def Wr (g : Nat) (w : World) (v : Value) (xs : List B8) : Prop :=
  w.cell? ⟨g, 0, none⟩ = some v ∧ OwnN w (g + 1) v xs ∧ w.cell? ⟨g, 1, none⟩ = some (.bool false) ∧ w.cell? ⟨g, 2, none⟩ = some (.bool true) ∧ w.frozen? ⟨g, 0, none⟩ = false
/-- Behind a call: the writer has these bytes; nothing below it has turned. -/
def WrPost (g : Nat) (w : World) (res : Value) (ys : List B8) (e : Ending) (w' : World) : Prop :=
  e = .returned res ∧ (∃ A c, Wr g w' (.slice A ys.length c) ys) ∧ Below g w w'
theorem Wr.form {g : Nat} {w : World} {v : Value} {xs : List B8} (h : Wr g w v xs) : ∃ A c, v = .slice A xs.length c := h.2.1.form
theorem Wr.size {g : Nat} {w : World} {v : Value} {xs : List B8} (h : Wr g w v xs) : g < w.heap.size := World.block_lt_of_cell? _ _ h.1

/-- The writer's bytes have grown, and the new list is laid into the writer. -/
theorem Wr.grow {g : Nat} {w w' : World} {v : Value} {xs ys : List B8} {A : Option Addr} {n c : Nat} (h : Wr g w v xs) (hb : Below (g + 1) w w') (ho : OwnN w' (g + 1) (.slice A n c) ys) :
    Wr g (w'.setCell ⟨g, 0, none⟩ (.slice A n c)) (.slice A n c) ys ∧ Below g w (w'.setCell ⟨g, 0, none⟩ (.slice A n c)) := by
  have c0 : w'.cell? ⟨g, 0, none⟩ = some v := by rw [hb.cell (p := ⟨g, 0, none⟩) (Nat.lt_succ_self g)]; exact h.1
  have c1 : w'.cell? ⟨g, 1, none⟩ = some (.bool false) := by rw [hb.cell (p := ⟨g, 1, none⟩) (Nat.lt_succ_self g)]; exact h.2.2.1
  have c2 : w'.cell? ⟨g, 2, none⟩ = some (.bool true) := by rw [hb.cell (p := ⟨g, 2, none⟩) (Nat.lt_succ_self g)]; exact h.2.2.2.1
  have f0 : w'.frozen? ⟨g, 0, none⟩ = false := by rw [hb.frozen (p := ⟨g, 0, none⟩) (Nat.lt_succ_self g)]; exact h.2.2.2.2
  refine ⟨⟨by go_simp, ?_, by go_simp, by go_simp, by go_simp⟩, (hb.mono (Nat.le_succ g)).setCell (Nat.le_refl _) _⟩
  refine World.ownsRow.kept (row := some g) ho ⟨rfl, rfl, rfl, by simp [World.setCell], fun k _ hk => heap_setCell_other w' ⟨g, 0, none⟩ k _ (fun e => hk (by simp [e]))⟩ ?_
  rcases ho.2 with ⟨h1, _⟩ | ⟨g', cap', cur, h1, hg', _⟩
  · exact .inl (by rw [h1]; rfl)
  · refine .inr (by rw [h1]; simp [Value.ownBlock]; omega)

/- Numbers of Go's, taken apart. -/
theorem and127 (n : Nat) (h : n ≤ 4611686018427387903) : bits .and .i64 (n : Int) 127 = ((n % 128 : Nat) : Int) := by
  have hw : ∀ m : Int, 0 ≤ m → m < 2 ^ 63 → IntKind.i64.wrap m = m := fun m h0 h1 => by rw [IntKind.wrap_i64]; omega
  have := bits_mask .i64 63 (by decide) hw 7 (by decide) (n : Int) (by omega) (by omega)
  simpa using this
theorem or128 (n : Nat) : bits .or .i64 ((n % 128 : Nat) : Int) 128 = ub (BitVec.ofNat 8 (n % 128 + 128)) := by
  have hw : ∀ m : Int, 0 ≤ m → m < 2 ^ 63 → IntKind.i64.wrap m = m := fun m h0 h1 => by rw [IntKind.wrap_i64]; omega
  have h1 := (bits_nat .i64 63 (by decide) hw (n % 128) 128 (by omega) (by decide)).2
  have e : (n % 128 ||| 128) = n % 128 + 128 := by
    have := Nat.two_pow_add_eq_or_of_lt (i := 7) (b := n % 128) (by omega) 1
    rw [Nat.or_comm]; simp at this; omega
  rw [show ((128 : Int)) = ((128 : Nat) : Int) from rfl, h1, e, ub, BitVec.toNat_ofNat]
  omega
theorem low8 (n : Nat) : (n : Int) % 256 = ub (BitVec.ofNat 8 n) := by
  rw [ub, BitVec.toNat_ofNat]; simp
end Go.Proofs.Ytolfdncmlfnbdaa
