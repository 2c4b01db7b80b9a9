/- A handoff written. -/
import Derived.Test.YtdabdkedgigjdaaGreatB
import Derived.WalkKit
import Derived.WalkSpells
import Derived.WalkLawsBesides
import Derived.RegionTactic
import Derived.ChangeAlike
import Derived.BigRegion
import Derived.Deep.QuietTactic
import Derived.BigQuiet
import Derived.Lib.Hide
import Derived.Laws.AppendOwnNone
import Derived.Deep.DeepCutAuto
import Derived.Deep.RegionHeld3
import Derived.Lib.AppendStr
import Derived.Test.YtdabdkedgigjdaaGreatYb
import Derived.IntWalk
namespace Go.Proofs.YtdabdkedgigjdaaGreat

abbrev B8 := BitVec 8

/-- What is written of a number. -/
def encF : Nat → Nat → List B8
  | 0, n => [BitVec.ofNat 8 n]
  | f + 1, n => if 127 < n then BitVec.ofNat 8 (n % 128 + 128) :: encF f (n / 128) else [BitVec.ofNat 8 n]
def enc (n : Nat) : List B8 := encF 9 n
def encs (l : List Nat) : List B8 := (l.map enc).flatten

/-- What is read of bytes: the number, and the bytes behind it. -/
def rdF (m : Nat) : Nat → Nat → Nat → List B8 → Option (Nat × List B8)
  | 0, _, _, _ => none
  | _ + 1, _, _, [] => none
  | f + 1, k, n, y :: r =>
    if 127 < y.toNat then rdF m f (k + 1) (n + y.toNat % 128 * 128 ^ k) r
    else if (y.toNat = 0 ∧ 0 < k) ∨ m < n + y.toNat % 128 * 128 ^ k then none
    else some (n + y.toNat % 128 * 128 ^ k, r)
def rd (m : Nat) (xs : List B8) : Option (Nat × List B8) := rdF m 9 0 0 xs

theorem rdF_le (m f k n : Nat) (xs r : List B8) (N : Nat) (h : rdF m f k n xs = some (N, r)) : N ≤ m ∧ r.length < xs.length := by
  induction f generalizing k n xs with
  | zero => cases h
  | succ f ih =>
    cases xs with
    | nil => cases h
    | cons y xs =>
      rw [rdF] at h
      split at h
      · have := ih _ _ _ h
        exact ⟨this.1, by simp only [List.length_cons]; omega⟩
      · split at h
        · cases h
        · rename_i h2
          simp only [Option.some.injEq, Prod.mk.injEq] at h
          obtain ⟨rfl, rfl⟩ := h
          refine ⟨?_, by simp⟩
          have := fun e => h2 (.inr e)
          omega

theorem rdF_enc (m f k n : Nat) (xs r : List B8) (N : Nat) (h : rdF m f k n xs = some (N, r)) :
    ∃ d, N = n + d * 128 ^ k ∧ xs = encF f d ++ r ∧ (0 < k → 0 < d) := by
  induction f generalizing k n xs with
  | zero => cases h
  | succ f ih =>
    cases xs with
    | nil => cases h
    | cons y xs =>
      have hy := y.isLt
      rw [rdF] at h
      split at h
      · rename_i h1
        obtain ⟨d, e1, e2, e3⟩ := ih _ _ _ h
        have hd := e3 (by omega)
        refine ⟨y.toNat % 128 + d * 128, ?_, ?_, fun _ => by omega⟩
        · rw [e1, Nat.pow_succ, Nat.add_mul, Nat.add_assoc, Nat.mul_assoc, Nat.mul_comm (128 ^ k) 128]
        · rw [encF, if_pos (by omega), e2]
          have a1 : (y.toNat % 128 + d * 128) % 128 + 128 = y.toNat := by omega
          have a2 : (y.toNat % 128 + d * 128) / 128 = d := by omega
          rw [a1, a2]
          simp
      · rename_i h1
        split at h
        · cases h
        · rename_i h2
          simp only [Option.some.injEq, Prod.mk.injEq] at h
          obtain ⟨rfl, rfl⟩ := h
          refine ⟨y.toNat, ?_, ?_, fun hk => ?_⟩
          · rw [Nat.mod_eq_of_lt (show y.toNat < 128 by omega)]
          · rw [encF, if_neg h1]; simp
          · have := fun e => h2 (.inl e)
            omega
theorem rd_enc (m : Nat) (xs r : List B8) (N : Nat) (h : rd m xs = some (N, r)) : xs = enc N ++ r ∧ N ≤ m ∧ r.length < xs.length := by
  obtain ⟨d, e1, e2, _⟩ := rdF_enc m 9 0 0 xs r N h
  have hl := rdF_le m 9 0 0 xs r N h
  obtain rfl : N = d := by omega
  exact ⟨e2, hl⟩
theorem encF_len (f n : Nat) : (encF f n).length ≤ f + 1 := by
  induction f generalizing n with
  | zero => simp [encF]
  | succ f ih => rw [encF]; split
                 · have := ih (n / 128); simp only [List.length_cons]; omega
                 · simp
theorem enc_len (n : Nat) : (enc n).length ≤ 10 := encF_len 9 n
theorem encs_snoc (l : List Nat) (n : Nat) : encs (l ++ [n]) = encs l ++ enc n := by simp [encs]
theorem encs_take (l : List Nat) (k : Nat) (h : k < l.length) : encs (l.take (k + 1)) = encs (l.take k) ++ enc (l.getD k 0) := by
  rw [List.take_succ_eq_append_getElem h, encs_snoc]; simp [h]
end Go.Proofs.YtdabdkedgigjdaaGreat
namespace Go.Proofs.YtdabdkedgigjdaaGreat
open Go.RowKit

def ub (b : B8) : Int := b.toNat
theorem ub_lo (b : B8) : 0 ≤ ub b := Int.natCast_nonneg _
theorem ub_hi (b : B8) : ub b < 256 := by have := b.isLt; unfold ub; omega
def bv (b : B8) : Value := .int .u8 (ub b)
theorem ub_eq (a b : B8) : (ub a == ub b) = (a == b) := by
  by_cases h : a = b
  · subst h; rw [beq_self_eq_true, beq_self_eq_true]
  · have : ub a ≠ ub b := fun e => h (BitVec.eq_of_toNat_eq (by unfold ub at e; omega))
    rw [beq_eq_false_iff_ne.2 this, beq_eq_false_iff_ne.2 h]

/-- The value v is a list of bytes in memory: these. -/
def BytesIn (w : World) (v : Value) (xs : List B8) : Prop :=
  (xs = [] ∧ ∃ A c, v = .slice A 0 c ∧ (A = none → c = 0)) ∨ ∃ b o c, v = .slice (some ⟨b, o, none⟩) xs.length c ∧ xs.length ≤ c ∧ xs.length ≤ 140737488351232 ∧ ∀ i, i < xs.length → w.cell? ⟨b, o + i, none⟩ = some (.int .u8 (ub (xs.getD i 0#8)))
theorem Ok.trans {w w' w'' : World} (h : Ok w w') (k : Ok w' w'') : Ok w w'' := h.call k
theorem Ok.bytes {w w' : World} {v : Value} {xs : List B8} (h : Ok w w') (t : BytesIn w v xs) : BytesIn w' v xs := by
  rcases t with t | ⟨b, o, c, rfl, hn, hm, hc⟩
  · exact .inl t
  · exact .inr ⟨b, o, c, rfl, hn, hm, fun i hi => h.cell (hc i hi)⟩
theorem BytesIn.form {w : World} {v : Value} {xs : List B8} (h : BytesIn w v xs) : ∃ A c, v = .slice A xs.length c ∧ xs.length ≤ 140737488351232 := by
  rcases h with ⟨rfl, A, c, rfl, _⟩ | ⟨b, o, c, rfl, _, hm, _⟩
  · exact ⟨_, _, rfl, by simp⟩
  · exact ⟨_, _, rfl, hm⟩

theorem info5 : (Tryz.prog.info? 5).map (fun i => (i.zero, i.size, i.bytes)) = some (some (.int .u8 0), 1, 1) := by kernel_rfl
/-- A row of the call's own, from block base on, that holds these bytes; it may be nil. -/
def OwnN (w : World) (base : Nat) (v : Value) (xs : List B8) : Prop := w.ownsRow base 5 1 v xs.length (xs.map bv)
theorem OwnN.form {w : World} {base : Nat} {v : Value} {xs : List B8} (h : OwnN w base v xs) : ∃ A c, v = .slice A xs.length c := by
  rcases h.2 with ⟨rfl, h0⟩ | ⟨g, cap, cur, rfl, _⟩
  · exact ⟨none, 0, by rw [h0]⟩
  · exact ⟨_, _, rfl⟩
theorem OwnN.bytes {w : World} {base : Nat} {v : Value} {xs : List B8} (h : OwnN w base v xs) (hm : xs.length ≤ 140737488351232) : BytesIn w v xs := by
  rcases h.2 with ⟨rfl, h0⟩ | ⟨g, cap, cur, rfl, _, _, hn, _⟩
  · exact .inl ⟨List.length_eq_zero_iff.1 h0, _, _, rfl, fun _ => rfl⟩
  · refine .inr ⟨g, 0, cap, rfl, hn, hm, fun i hi => ?_⟩
    rw [Nat.zero_add, World.ownsRow.cellAt h i (by omega)]
    simp [hi, bv]
theorem wpList_app {ops : Array Oper} {rest : List Oper} {o : Oper} {a : Act} {w : World} {Q : Exit → Act → World → Prop} (hgd : o.guard = none) (s x : Operand)
    (ho : o.op = .call { callee := .builtin .append, args := #[s, x], argTypes := #[49, 49] })
    (base : Nat) (v : Value) (xs ys : List B8) (vx : Value) (hs : a.eval s = v) (hx : a.eval x = vx) (hown : OwnN w base v xs) (hy : BytesIn w vx ys)
    (hlen : xs.length + ys.length ≤ 140737488351232) (hbase : base ≤ w.heap.size)
    (h : ∀ A c w', OwnN w' base (.slice A (xs.length + ys.length) c) (xs ++ ys) → Below base w w' → wpList Tryz.prog ops Q rest (a.put o.dst (.slice A (xs.length + ys.length) c)) w') : wpList Tryz.prog ops Q (o :: rest) a w := by
  obtain ⟨i0, hi, hz0, hz1, hz2⟩ := info_parts info5
  have hlate : ∀ v' w', w'.ownsRow base 5 1 v' (xs.length + ys.length) (xs.map bv ++ ys.map bv) → w.grownBy w' v.ownBlock → wpList Tryz.prog ops Q rest (a.put o.dst v') w' := by
    intro v' w' h2 h3
    have hb : Below base w w' := (Below.refl base w).grown h3 hbase (fun k hk => (World.ownsRow.lt hown k hk).1)
    have h2' : OwnN w' base v' (xs ++ ys) := by unfold OwnN; rw [List.map_append, List.length_append]; exact h2
    obtain ⟨A, c, rfl⟩ := h2'.form
    rw [List.length_append] at h2' ⊢
    exact h A c w' h2' hb
  rcases hy with ⟨rfl, A, c, rfl, hA⟩ | ⟨b, off, c, rfl, _, hm, hc⟩
  · cases A with
    | some ad =>
      refine wpList_append_own _ hgd s x 49 ho base 5 i0 (.int .u8 0) 1 1 Tryz.underlying49 hi hz0 hz1 hz2 rfl (by decide) _ xs.length (xs.map bv) hs hown ad 0 c [] hx rfl (fun j u hu => by simp at hu) (fun u hu => by simp at hu) (by unfold maxLen; simp at hlen; omega) (by simp at hlen; omega) hbase ?_
      intro v' w' h2 h3 _
      exact hlate v' w' h2 h3
    | none =>
      obtain rfl := hA rfl
      refine wpList_append_own_none hgd s x 49 ho base 5 i0 1 Tryz.underlying49 hi _ xs.length (xs.map bv) hs hown hx ?_
      exact hlate v w (by have := hown; unfold OwnN at this; simpa using this) ⟨rfl, rfl, rfl, Nat.le_refl _, fun _ _ _ => rfl⟩
  · refine wpList_append_own _ hgd s x 49 ho base 5 i0 (.int .u8 0) 1 1 Tryz.underlying49 hi hz0 hz1 hz2 rfl (by decide) _ xs.length (xs.map bv) hs hown ⟨b, off, none⟩ ys.length c (ys.map bv) hx (by simp) ?_ ?_ (by unfold maxLen; omega) (by omega) hbase ?_
    · intro j u hu
      have hj : j < ys.length := by
        by_cases hl : j < ys.length
        · exact hl
        · rw [List.getElem?_eq_none (by simp; omega)] at hu; cases hu
      have e : (⟨b, off, none⟩ : Addr).add j = ⟨b, off + j, none⟩ := by unfold Addr.add; split <;> simp_all
      rw [e, hc j hj, ← hu]
      simp [hj, bv]
    · intro u hu
      obtain ⟨y, _, rfl⟩ := List.mem_map.1 hu
      rfl
    · intro v' w' h2 h3 _
      exact hlate v' w' h2 h3
theorem bytes_new (w : World) (xs : List B8) (cells : Array Value) (t : TypeId) (fz : Nat × Nat) (g n c : Nat) (hg : g = w.heap.size) (hn : n = xs.length) (hcn : n ≤ c) (h : xs.length ≤ 140737488351232) (hc : cells.toList = xs.map fun b => Value.int .u8 (ub b)) :
    BytesIn (w.alloc (.cells cells t fz)) (.slice (some ⟨g, 0, none⟩) n c) xs := by
  subst hg; subst hn
  refine .inr ⟨w.heap.size, 0, c, rfl, hcn, h, fun i hi => ?_⟩
  rw [cell_of_row _ _ _ _ _ _ (heap_alloc_new w _), ← Array.getElem?_toList, hc]
  simp [hi]
theorem BytesIn.nil (w : World) : BytesIn w (.slice none 0 0) [] := .inl ⟨rfl, _, _, rfl, fun _ => rfl⟩

/-- A writer at block g: what it has written; it is not spoilt. Its bytes lie behind it. -/
def Wr (g : Nat) (w : World) (v : Value) (xs : List B8) : Prop :=
  w.cell? ⟨g, 0, none⟩ = some v ∧ OwnN w (g + 1) v xs ∧ w.cell? ⟨g, 1, none⟩ = some (.bool false) ∧ w.cell? ⟨g, 2, none⟩ = some (.bool true) ∧ w.frozen? ⟨g, 0, none⟩ = false
/-- Behind a call: the writer has these bytes; nothing below it has turned. -/
def WrPost (g : Nat) (w : World) (res : Value) (ys : List B8) (e : Ending) (w' : World) : Prop :=
  e = .returned res ∧ (∃ A c, Wr g w' (.slice A ys.length c) ys) ∧ Below g w w'
theorem Wr.form {g : Nat} {w : World} {v : Value} {xs : List B8} (h : Wr g w v xs) : ∃ A c, v = .slice A xs.length c := h.2.1.form
theorem Wr.size {g : Nat} {w : World} {v : Value} {xs : List B8} (h : Wr g w v xs) : g < w.heap.size := World.block_lt_of_cell? _ _ h.1

/-- The writer's bytes have grown, and the new list is laid into the writer. -/
theorem Wr.grow {g : Nat} {w w' : World} {v : Value} {xs ys : List B8} {A : Option Addr} {n c : Nat} (h : Wr g w v xs) (hb : Below (g + 1) w w') (ho : OwnN w' (g + 1) (.slice A n c) ys) :
    Wr g (w'.setCell ⟨g, 0, none⟩ (.slice A n c)) (.slice A n c) ys ∧ Below g w (w'.setCell ⟨g, 0, none⟩ (.slice A n c)) := by
  have c0 : w'.cell? ⟨g, 0, none⟩ = some v := by rw [hb.cell (p := ⟨g, 0, none⟩) (Nat.lt_succ_self g)]; exact h.1
  have c1 : w'.cell? ⟨g, 1, none⟩ = some (.bool false) := by rw [hb.cell (p := ⟨g, 1, none⟩) (Nat.lt_succ_self g)]; exact h.2.2.1
  have c2 : w'.cell? ⟨g, 2, none⟩ = some (.bool true) := by rw [hb.cell (p := ⟨g, 2, none⟩) (Nat.lt_succ_self g)]; exact h.2.2.2.1
  have f0 : w'.frozen? ⟨g, 0, none⟩ = false := by rw [hb.frozen (p := ⟨g, 0, none⟩) (Nat.lt_succ_self g)]; exact h.2.2.2.2
  refine ⟨⟨by go_simp, ?_, by go_simp, by go_simp, by go_simp⟩, (hb.mono (Nat.le_succ g)).setCell (Nat.le_refl _) _⟩
  refine World.ownsRow.kept (row := some g) ho ⟨rfl, rfl, rfl, by simp [World.setCell], fun k _ hk => heap_setCell_other w' ⟨g, 0, none⟩ k _ (fun e => hk (by simp [e]))⟩ ?_
  rcases ho.2 with ⟨h1, _⟩ | ⟨g', cap', cur, h1, hg', _⟩
  · exact .inl (by rw [h1]; rfl)
  · refine .inr (by rw [h1]; simp [Value.ownBlock]; omega)

/- Numbers of Go's, taken apart. -/
theorem and127 (n : Nat) (h : n ≤ 4611686018427387903) : bits .and .i64 (n : Int) 127 = ((n % 128 : Nat) : Int) := by
  have hw : ∀ m : Int, 0 ≤ m → m < 2 ^ 63 → IntKind.i64.wrap m = m := fun m h0 h1 => by rw [IntKind.wrap_i64]; omega
  have := bits_mask .i64 63 (by decide) hw 7 (by decide) (n : Int) (by omega) (by omega)
  simpa using this
theorem or128 (n : Nat) : bits .or .i64 ((n % 128 : Nat) : Int) 128 = ub (BitVec.ofNat 8 (n % 128 + 128)) := by
  have hw : ∀ m : Int, 0 ≤ m → m < 2 ^ 63 → IntKind.i64.wrap m = m := fun m h0 h1 => by rw [IntKind.wrap_i64]; omega
  have h1 := (bits_nat .i64 63 (by decide) hw (n % 128) 128 (by omega) (by decide)).2
  have e : (n % 128 ||| 128) = n % 128 + 128 := by
    have := Nat.two_pow_add_eq_or_of_lt (i := 7) (b := n % 128) (by omega) 1
    rw [Nat.or_comm]; simp at this; omega
  rw [show ((128 : Int)) = ((128 : Nat) : Int) from rfl, h1, e, ub, BitVec.toNat_ofNat]
  omega
theorem low8 (n : Nat) : (n : Int) % 256 = ub (BitVec.ofNat 8 n) := by
  rw [ub, BitVec.toNat_ofNat]; simp
end Go.Proofs.YtdabdkedgigjdaaGreat
namespace Go.Proofs.YtdabdkedgigjdaaGreat
open Go.RowKit

theorem encF_more (f n : Nat) (h : 127 < n) : encF (f + 1) n = BitVec.ofNat 8 (n % 128 + 128) :: encF f (n / 128) := by rw [encF, if_pos h]
theorem encF_last (f n : Nat) (h : ¬ 127 < n) : encF f n = [BitVec.ofNat 8 n] := by
  cases f with
  | zero => rfl
  | succ f => rw [encF, if_neg h]

set_option maxRecDepth 100000 in
set_option maxHeartbeats 1000000 in
theorem number_w (g : Nat) (v : Value) (xs : List B8) (n : Nat) (W : World) (hw : Wr g W v xs) (hn : n ≤ 4611686018427387903) (hx : xs.length ≤ 140737488350000) :
    Calls Tryz.prog 114 #[.pointer (some ⟨g, 0, none⟩), .int .i64 (n : Int)] W (WrPost g W (.tuple #[]) (xs ++ enc n)) := by
  have HW := Lib.hid hw
  have HE : Hid (enc n = [] ++ encF 9 n) := Lib.hid rfl
  have hn0 : decide ((n : Int) < 0) = false := decide_eq_false (by omega)
  have hn1 : decide ((4611686018427387903 : Int) < (n : Int)) = false := decide_eq_false (by omega)
  clear hw
  go_enter Tryz.func114, Tryz.ntmps114
  have HN : Hid (n < 128 ^ 10) := Lib.hid (by omega)
  go_wp2_with fail
  clear hn0 hn1
  go_loopw [1] (fun i wr => ∃ (m f : Nat) (pre : List B8), i = .int .i64 m ∧ m ≤ 4611686018427387903 ∧ m < 128 ^ (f + 1) ∧ enc n = pre ++ encF f m ∧ (∃ A c, Wr g wr (.slice A (xs ++ pre).length c) (xs ++ pre)) ∧ Below g W wr) (fun i _ => (intOf i).toNat)
  case atStart =>
    obtain ⟨A, c, rfl⟩ := HW.out.form
    exact ⟨n, 9, [], rfl, hn, HN.out, HE.out, ⟨A, c, by simpa using HW.out⟩, Below.refl _ _⟩
  case round =>
    obtain ⟨m, f, pre, rfl, hm, hmf, hpre, ⟨A, c, hwr⟩, hbe⟩ := hrel
    have hL0 : ∃ L, (xs ++ pre).length = L := ⟨_, rfl⟩
    obtain ⟨L, hL⟩ := hL0
    rw [hL] at hwr
    have HLL := Lib.hid hL
    have HPL : Hid ((xs ++ pre).length ≤ 140737488350010) := Lib.hid (by
      have h1 := congrArg List.length hpre
      have h2 := enc_len n
      rw [List.length_append] at h1 ⊢; omega)
    clear hL
    have hc0 := hwr.1
    have hsz := hwr.size
    have HWR := Lib.hid hwr
    have HBE := Lib.hid hbe
    have HPRE := Lib.hid hpre
    clear hwr hbe hpre
    by_cases hlt : 127 < m
    · have hf : ∃ f', f = f' + 1 := by
        cases f with
        | zero => simp at hmf; omega
        | succ f' => exact ⟨f', rfl⟩
      obtain ⟨f', rfl⟩ := hf
      have HEN := Lib.hid (encF_more f' m hlt)
      have HMF : Hid (m / 128 < 128 ^ (f' + 1)) := Lib.hid (by
        rw [Nat.pow_succ] at hmf
        exact Nat.div_lt_of_lt_mul (by rw [Nat.mul_comm]; exact hmf))
      clear hmf
      have hd1 : decide ((127 : Int) < (m : Int)) = true := decide_eq_true (by omega)
      have h1 := and127 m hm
      have h2 : bits .or .i64 ((m : Int) % 128) 128 = ub (BitVec.ofNat 8 (m % 128 + 128)) := by have := or128 m; rwa [show (((m % 128 : Nat)) : Int) = (m : Int) % 128 from by simp] at this
      have HNEW : Hid (BytesIn (wr.alloc (.cells #[.int .u8 (ub (BitVec.ofNat 8 (m % 128 + 128)))] 5)) (.slice (some ⟨wr.heap.size, 0, none⟩) 1 1) [BitVec.ofNat 8 (m % 128 + 128)]) := Lib.hid (bytes_new wr _ _ 5 _ _ _ 1 rfl rfl (by decide) (by simp) rfl)
      generalize BitVec.ofNat 8 (m % 128 + 128) = y at *
      have hy2 : ub y % 256 = ub y := by have := ub_lo y; have := ub_hi y; omega
      have HOKA : Hid (Ok wr (wr.alloc (.cells #[.int .u8 (ub y)] 5))) := Lib.hid ((Ok.refl wr).alloc _)
      have HOW : Hid (OwnN (wr.alloc (.cells #[.int .u8 (ub y)] 5)) (g + 1) (.slice A L c) (xs ++ pre)) := Lib.hid (World.ownsRow.alloc HWR.out.2.1 _)
      have HCG : Hid ((wr.alloc (.cells #[.int .u8 (ub y)] 5)).cell? ⟨g, 0, none⟩ = some (.slice A L c)) := Lib.hid (HOKA.out.cell hc0)
      have HFG : Hid ((wr.alloc (.cells #[.int .u8 (ub y)] 5)).frozen? ⟨g, 0, none⟩ = false) := Lib.hid (by rw [Below.frozen HOKA.out (p := ⟨g, 0, none⟩) hsz]; exact HWR.out.2.2.2.2)
      go_wp2_with (at_builtin; go_must (refine wpList_app rfl (.tmp 19) (.tmp 24) rfl (g + 1) (.slice A L c) (xs ++ pre) [y] (.slice (some ⟨wr.heap.size, 0, none⟩) 1 1) rfl rfl HOW.out HNEW.out (by have := HPL.out; have := HLL.out; simp only [List.length_singleton]; omega) (by rw [World.size_alloc]; omega) ?_; intro A' c' w2 hown2 hbel2; have HOWN2 := Lib.hid hown2; have HBEL2 := Lib.hid hbel2; clear hown2 hbel2; rw [HLL.out]; have hcg : w2.cell? ⟨g, 0, none⟩ = some (.slice A L c) := (by rw [HBEL2.out.cell (p := ⟨g, 0, none⟩) (Nat.lt_succ_self g)]; exact HCG.out); have hfg : w2.frozen? ⟨g, 0, none⟩ = false := (by rw [HBEL2.out.frozen (p := ⟨g, 0, none⟩) (Nat.lt_succ_self g)]; exact HFG.out)))
      have HG : Hid (Wr g (w2.setCell ⟨g, 0, none⟩ (.slice A' (L + 1) c')) (.slice A' (L + 1) c') ((xs ++ pre) ++ [y]) ∧ Below g wr (w2.setCell ⟨g, 0, none⟩ (.slice A' (L + 1) c'))) := Lib.hid (by
        have h3 := HOWN2.out
        rw [HLL.out] at h3
        have hbb : Below (g + 1) wr w2 := (Below.mono HOKA.out (show g + 1 ≤ wr.heap.size from hsz)).trans HBEL2.out
        exact HWR.out.grow hbb h3)
      refine ⟨⟨m / 128, f', pre ++ [y], by go_num, by omega, HMF.out, ?_, ⟨A', c', ?_⟩, HBE.out.trans HG.out.2⟩, by simp [intOf]; omega⟩
      · rw [HPRE.out, HEN.out]; simp
      · have h4 := HG.out.1
        rw [← List.append_assoc, List.length_append, HLL.out]
        exact h4
    · have HEN := Lib.hid (encF_last f m hlt)
      clear hmf
      have hd1 : decide ((127 : Int) < (m : Int)) = false := decide_eq_false (by omega)
      have HY : Hid ((m : Int) = ub (BitVec.ofNat 8 m)) := Lib.hid (by rw [ub, BitVec.toNat_ofNat]; omega)
      have HNEW : Hid (BytesIn (wr.alloc (.cells #[.int .u8 (m : Int)] 5)) (.slice (some ⟨wr.heap.size, 0, none⟩) 1 1) [BitVec.ofNat 8 m]) := Lib.hid (bytes_new wr _ _ 5 _ _ _ 1 rfl rfl (by decide) (by simp) (by simp [HY.out.symm]))
      generalize BitVec.ofNat 8 m = y at *
      have HOKA : Hid (Ok wr (wr.alloc (.cells #[.int .u8 (m : Int)] 5))) := Lib.hid ((Ok.refl wr).alloc _)
      have HOW : Hid (OwnN (wr.alloc (.cells #[.int .u8 (m : Int)] 5)) (g + 1) (.slice A L c) (xs ++ pre)) := Lib.hid (World.ownsRow.alloc HWR.out.2.1 _)
      have HCG : Hid ((wr.alloc (.cells #[.int .u8 (m : Int)] 5)).cell? ⟨g, 0, none⟩ = some (.slice A L c)) := Lib.hid (HOKA.out.cell hc0)
      have HFG : Hid ((wr.alloc (.cells #[.int .u8 (m : Int)] 5)).frozen? ⟨g, 0, none⟩ = false) := Lib.hid (by rw [Below.frozen HOKA.out (p := ⟨g, 0, none⟩) hsz]; exact HWR.out.2.2.2.2)
      go_wp2_with (at_builtin; go_must (refine wpList_app rfl (.tmp 34) (.tmp 37) rfl (g + 1) (.slice A L c) (xs ++ pre) [y] (.slice (some ⟨wr.heap.size, 0, none⟩) 1 1) rfl rfl HOW.out HNEW.out (by have := HPL.out; have := HLL.out; simp only [List.length_singleton]; omega) (by rw [World.size_alloc]; omega) ?_; intro A' c' w2 hown2 hbel2; have HOWN2 := Lib.hid hown2; have HBEL2 := Lib.hid hbel2; clear hown2 hbel2; rw [HLL.out]; have hcg : w2.cell? ⟨g, 0, none⟩ = some (.slice A L c) := (by rw [HBEL2.out.cell (p := ⟨g, 0, none⟩) (Nat.lt_succ_self g)]; exact HCG.out); have hfg : w2.frozen? ⟨g, 0, none⟩ = false := (by rw [HBEL2.out.frozen (p := ⟨g, 0, none⟩) (Nat.lt_succ_self g)]; exact HFG.out)))
      have HG : Hid (Wr g (w2.setCell ⟨g, 0, none⟩ (.slice A' (L + 1) c')) (.slice A' (L + 1) c') ((xs ++ pre) ++ [y]) ∧ Below g wr (w2.setCell ⟨g, 0, none⟩ (.slice A' (L + 1) c'))) := Lib.hid (by
        have h3 := HOWN2.out
        rw [HLL.out] at h3
        have hbb : Below (g + 1) wr w2 := (Below.mono HOKA.out (show g + 1 ≤ wr.heap.size from hsz)).trans HBEL2.out
        exact HWR.out.grow hbb h3)
      go_end0
      refine ⟨rfl, ⟨A', c', ?_⟩, HBE.out.trans HG.out.2⟩
      rw [HPRE.out, HEN.out, ← List.append_assoc, List.length_append, HLL.out]
      exact HG.out.1
end Go.Proofs.YtdabdkedgigjdaaGreat
namespace Go.Proofs.YtdabdkedgigjdaaGreat
open Go.RowKit

def Wrx (g : Nat) (w : World) (xs : List B8) : Prop := ∃ A c, Wr g w (.slice A xs.length c) xs
theorem Wrx.of {g : Nat} {w : World} {v : Value} {xs : List B8} (h : Wr g w v xs) : Wrx g w xs := by
  obtain ⟨A, c, rfl⟩ := h.form
  exact ⟨A, c, h⟩

set_option maxHeartbeats 400000 in
theorem none_w (g : Nat) (v : Value) (xs : List B8) (W : World) (hw : Wr g W v xs) :
    Calls Tryz.prog 88 #[.pointer (some ⟨g, 0, none⟩)] W fun e w' => e = .returned (.bool false) ∧ W = w' := by
  have hc := hw.2.2.2.1
  clear hw
  go_enter Tryz.func88, Tryz.ntmps88
  go_wp2
  go_ret
  exact ⟨rfl, rfl⟩

set_option maxHeartbeats 400000 in
theorem newWriter_w (W : World) :
    Calls Tryz.prog 40 #[] W fun e w' => e = .returned (.pointer (some ⟨W.heap.size, 0, none⟩)) ∧ Wrx W.heap.size w' [] ∧ Below W.heap.size W w' ∧ w'.heap.size = W.heap.size + 1 := by
  have HF : Hid (Wrx W.heap.size (W.alloc (.cells #[.slice none 0 0, .bool false, .bool true] 123)) []) := Lib.hid (by
    refine ⟨none, 0, ?_, World.ownsRow_nil _ _ _ _, ?_, ?_, World.frozen?_alloc_at _ _ _ _ rfl⟩ <;> (rw [World.cell?_alloc_at _ _ _ _ rfl]; rfl)
    )
  go_enter Tryz.func40, Tryz.ntmps40
  go_wp2
  go_ret
  exact ⟨rfl, HF.out, (Below.refl _ _).alloc (Nat.le_refl _) _, by simp⟩

theorem encs_len (l : List Nat) : (encs l).length ≤ 10 * l.length := by
  induction l with
  | nil => simp [encs]
  | cons a l ih =>
    have := enc_len a
    simp only [encs, List.map_cons, List.flatten_cons, List.length_append, List.length_cons] at *
    omega
theorem encs_take_len (l : List Nat) (k : Nat) (h : k ≤ l.length) : (encs (l.take k)).length ≤ 10 * k := by
  have := encs_len (l.take k)
  rw [List.length_take, Nat.min_eq_left h] at this
  exact this

/- Numbers: the list's cells lie below the writer, or there is one alone. -/
set_option maxRecDepth 100000 in
set_option maxHeartbeats 1000000 in
theorem numbers_w (g : Nat) (v : Value) (xs : List B8) (W : World) (hw : Wr g W v xs) (l : List Nat) (A : Option Addr) (n c : Nat) (hn : l.length = n) (hnm : n ≤ 1000000) (hxs : xs.length ≤ 1000000)
    (hcell : ∀ k, k < n → ∃ b o, A = some ⟨b, o, none⟩ ∧ W.cell? ⟨b, o + k, none⟩ = some (.int .i64 ((l.getD k 0 : Nat) : Int)) ∧ l.getD k 0 ≤ 4611686018427387903 ∧ (0 < k → b < g)) :
    Calls Tryz.prog 86 #[.pointer (some ⟨g, 0, none⟩), .slice A n c] W (WrPost g W (.pointer (some ⟨g, 0, none⟩)) (xs ++ encs l)) := by
  have HW := Lib.hid hw
  have HC := Lib.hid hcell
  have HN := Lib.hid hn
  clear hw hcell hn
  go_enter Tryz.func86, Tryz.ntmps86
  go_wp2_with fail
  refine (none_w g v xs _ HW.out).mono ?_
  rintro e w1 ⟨rfl, rfl⟩
  go_wp2_with fail
  go_loopw [12] (fun i wr => ∃ k : Nat, k ≤ n ∧ i = .int .i64 k ∧ Wrx g wr (xs ++ encs (l.take k)) ∧ Below g W wr ∧ (k = 0 → wr = W)) (fun i _ => n - (intOf i).toNat)
  case atStart => exact ⟨0, Nat.zero_le _, rfl, by simpa [encs] using Wrx.of HW.out, Below.refl _ _, fun _ => rfl⟩
  case round =>
    obtain ⟨k, hk, rfl, ⟨A', c', hwr⟩, hbe, hk0⟩ := hrel
    by_cases hlt : k < n
    · obtain ⟨b, o, rfl, hc, hle, hbg⟩ := HC.out k hlt
      have hc' : wr.cell? ⟨b, o + k, none⟩ = some (.int .i64 ((l.getD k 0 : Nat) : Int)) := by
        by_cases h0 : k = 0
        · rw [hk0 h0]; exact hc
        · rw [hbe.cell (p := ⟨b, o + k, none⟩) (hbg (by omega))]; exact hc
      have HE := Lib.hid (encs_take l k (by rw [HN.out]; exact hlt))
      have HL := Lib.hid (encs_take_len l k (by rw [HN.out]; omega))
      have HWR := Lib.hid hwr
      have HBE := Lib.hid hbe
      clear hwr hbe hk0 hbg hc
      generalize l.getD k 0 = m at *
      go_wp2_with fail
      refine (number_w g _ (xs ++ encs (l.take k)) m _ HWR.out hle (by have := HL.out; rw [List.length_append]; omega)).mono ?_
      rintro e w2 ⟨rfl, hwx, hb2⟩
      have HWX := Lib.hid hwx
      have HB2 := Lib.hid hb2
      clear hwx hb2
      go_wp2_with fail
      go_roundw
      case rel => exact ⟨k + 1, by omega, by go_num, by rw [HE.out, ← List.append_assoc]; exact HWX.out, HBE.out.trans HB2.out, fun h => by omega⟩
      case measure => simp [intOf]; omega
    · have hke : k = n := by omega
      subst hke
      have HWR : Hid (Wrx g wr (xs ++ encs l)) := Lib.hid (by
        have := (⟨A', c', hwr⟩ : Wrx g wr (xs ++ encs (l.take k)))
        rwa [List.take_of_length_le (by rw [HN.out]; exact Nat.le_refl _)] at this)
      have HBE := Lib.hid hbe
      clear hwr hbe hk0
      go_wp2_with fail
      go_ret
      exact ⟨rfl, HWR.out, HBE.out⟩

/-- Done: a copy of what was written. -/
def DonePost (W : World) (xs : List B8) (e : Ending) (w' : World) : Prop :=
  (∃ A c, e = .returned (.tuple #[.slice A xs.length c, .int .i64 0]) ∧ BytesIn w' (.slice A xs.length c) xs) ∧ Ok W w' ∧ True
set_option maxRecDepth 100000 in
set_option maxHeartbeats 1000000 in
theorem done_w (g : Nat) (v : Value) (xs : List B8) (W : World) (hw : Wr g W v xs) (hx : xs.length ≤ 140737488350000) :
    Calls Tryz.prog 41 #[.pointer (some ⟨g, 0, none⟩)] W (DonePost W xs) := by
  obtain ⟨A, c, rfl⟩ := hw.form
  have HW := Lib.hid hw
  have HB : Hid (BytesIn W (.slice A xs.length c) xs) := Lib.hid (hw.2.1.bytes (by omega))
  have h0 := hw.1
  have h1 := hw.2.2.1
  have HON : Hid (OwnN W W.heap.size (.slice none 0 0) []) := Lib.hid (World.ownsRow_nil _ _ _ _)
  generalize hL : xs.length = L at *
  have HL := Lib.hid hL
  clear hw hL
  go_enter Tryz.func41, Tryz.ntmps41
  go_wp2_with fail
  refine (none_w g _ xs _ HW.out).mono ?_
  rintro e w1 ⟨rfl, rfl⟩
  go_wp2_with (at_builtin; go_must (refine wpList_app rfl (.const (.slice none 0 0)) (.tmp 15) rfl W.heap.size (.slice none 0 0) [] xs (.slice A L c) rfl rfl HON.out HB.out (by rw [HL.out]; simp; omega) (Nat.le_refl _) ?_; intro A' c' w2 hown2 hbel2; simp only [List.nil_append, List.length_nil, Nat.zero_add] at hown2 ⊢; have HOWN2 := Lib.hid hown2; have HBEL2 := Lib.hid hbel2; clear hown2 hbel2; rw [HL.out]))
  go_ret2
  exact ⟨⟨A', c', by rw [HL.out]; rfl, by rw [HL.out]; have := HOWN2.out.bytes (by rw [HL.out]; omega); rwa [HL.out] at this⟩, HBEL2.out, trivial⟩

theorem Ok.drewN {w w' : World} (h : Ok w w') (n : Nat) : Ok w (w'.drewN n) := by
  obtain ⟨h1, h2, h3, h4, h5⟩ := h
  exact ⟨h1, h2, h3, h4, h5⟩

/-- Two lists of bytes that are one: so it says. -/
theorem same_cells {w : World} {v : Value} {xs : List B8} {A : Option Addr} {n c : Nat} (h : BytesIn w v xs) (hv : v = .slice A n c) (i : Nat) (hi : i < n) : n = xs.length ∧ ∃ b o, A = some ⟨b, o, none⟩ ∧ w.cell? ⟨b, o + i, none⟩ = some (.int .u8 (ub (xs.getD i 0#8))) := by
  rcases h with ⟨rfl, A', c', rfl, _⟩ | ⟨b, o, c', rfl, _, _, hc⟩
  · simp only [Value.slice.injEq] at hv; omega
  · simp only [Value.slice.injEq] at hv
    obtain ⟨rfl, rfl, rfl⟩ := hv
    exact ⟨rfl, b, o, rfl, hc i hi⟩

set_option maxRecDepth 100000 in
set_option maxHeartbeats 1000000 in
theorem sameBytes_v (va vb : Value) (xs : List B8) (W : World) (ha : BytesIn W va xs) (hb : BytesIn W vb xs) :
    Calls Tryz.prog 43 #[va, vb] W fun e w' => e = .returned (.bool true) ∧ Ok W w' := by
  obtain ⟨A, ca, rfl, hm⟩ := ha.form
  obtain ⟨B, cb, rfl, _⟩ := hb.form
  have HA := Lib.hid ha
  have HB := Lib.hid hb
  clear ha hb
  generalize hn : xs.length = n at *
  have HN := Lib.hid hn
  clear hn
  have hne : ((n : Int) != n) = false := by simp
  go_enter Tryz.func43, Tryz.ntmps43
  go_wp2_with fail
  go_loopw [5] (fun i wr => ∃ k : Nat, k ≤ n ∧ i = .int .i64 k ∧ Ok W wr) (fun i _ => n - (intOf i).toNat)
  case atStart => exact ⟨0, Nat.zero_le _, rfl, Ok.refl _⟩
  case round =>
    obtain ⟨k, hk, rfl, hok⟩ := hrel
    by_cases hlt : k < n
    · obtain ⟨_, b, o, rfl, hc⟩ := same_cells HA.out rfl k hlt
      obtain ⟨_, b', o', rfl, hc'⟩ := same_cells HB.out rfl k hlt
      have hx := hok.cell hc
      have hy := hok.cell hc'
      have HO := Lib.hid hok
      clear hc hc' hok
      generalize xs.getD k 0#8 = y at *
      have hi0 : (0 : Int) ≤ (k : Int) := Int.natCast_nonneg _
      have hi1 : (k : Int) < (n : Int) := by omega
      go_wp2_with fail
      go_quiet (fail)
      go_wp2_with fail
      go_roundw
      case rel => exact ⟨k + 1, by omega, by go_num, HO.out.drewN _⟩
      case measure => simp [intOf]; omega
    · have hke : k = n := by omega
      subst hke
      have HO := Lib.hid hok
      clear hok
      go_wp2_with fail
      go_ret
      exact ⟨rfl, HO.out⟩
end Go.Proofs.YtdabdkedgigjdaaGreat
namespace Go.Proofs.YtdabdkedgigjdaaGreat
open Go.RowKit

/-- A reader at block g: its bytes, which lie in memory as it was at W0, below it; whether it has failed. Nothing below block g has turned since W0. -/
def Rd (W0 : World) (g : Nat) (w : World) (xs : List B8) (failed : Bool) : Prop :=
  W0.heap.size ≤ g ∧ Ok W0 w ∧ (∃ v, BytesIn W0 v xs ∧ w.cell? ⟨g, 0, none⟩ = some v) ∧ w.cell? ⟨g, 1, none⟩ = some (.bool failed) ∧ w.cell? ⟨g, 2, none⟩ = some (.bool true) ∧
    w.frozen? ⟨g, 0, none⟩ = false ∧ w.frozen? ⟨g, 1, none⟩ = false
/-- At most block g has turned of what was there, and nothing is new. -/
def Only (g : Nat) (w w' : World) : Prop := w'.os = w.os ∧ w'.tape = w.tape ∧ w'.output = w.output ∧ w'.heap.size = w.heap.size ∧ ∀ k, k ≠ g → w'.heap[k]? = w.heap[k]?
theorem Only.refl (g : Nat) (w : World) : Only g w w := ⟨rfl, rfl, rfl, rfl, fun _ _ => rfl⟩
theorem Only.trans {g : Nat} {a b c : World} (h : Only g a b) (k : Only g b c) : Only g a c :=
  ⟨k.1.trans h.1, k.2.1.trans h.2.1, k.2.2.1.trans h.2.2.1, k.2.2.2.1.trans h.2.2.2.1, fun i hi => (k.2.2.2.2 i hi).trans (h.2.2.2.2 i hi)⟩
theorem Only.set {g : Nat} {a b : World} (h : Only g a b) (o : Nat) (v : Value) : Only g a (b.setCell ⟨g, o, none⟩ v) :=
  h.trans ⟨rfl, rfl, rfl, by simp [World.setCell], fun k hk => heap_setCell_other b ⟨g, o, none⟩ k v hk⟩
theorem Only.below {g : Nat} {a b : World} (h : Only g a b) {B : Nat} (hB : B ≤ g) : Below B a b :=
  ⟨h.1, h.2.1, h.2.2.1, Nat.le_of_eq h.2.2.2.1.symm, fun k hk => h.2.2.2.2 k (by omega)⟩

def RdPost (W0 : World) (g : Nat) (w : World) (res : Value) (ys : List B8) (failed : Bool) (e : Ending) (w' : World) : Prop :=
  e = .returned res ∧ Rd W0 g w' ys failed ∧ Only g w w'

theorem Rd.set {W0 : World} {g : Nat} {w : World} {xs ys : List B8} {f f' : Bool} {v : Value} (h : Rd W0 g w xs f) (hy : BytesIn W0 v ys) {w' : World} (ho : Only g w w')
    (h0 : w'.cell? ⟨g, 0, none⟩ = some v) (h1 : w'.cell? ⟨g, 1, none⟩ = some (.bool f')) (h2 : w'.cell? ⟨g, 2, none⟩ = some (.bool true)) (h3 : w'.frozen? ⟨g, 0, none⟩ = false) (h4 : w'.frozen? ⟨g, 1, none⟩ = false) :
    Rd W0 g w' ys f' :=
  ⟨h.1, Below.trans h.2.1 (ho.below h.1), ⟨v, hy, h0⟩, h1, h2, h3, h4⟩

set_option maxHeartbeats 400000 in
theorem fail_r (W0 : World) (g : Nat) (w : World) (xs : List B8) (f : Bool) (h : Rd W0 g w xs f) :
    Calls Tryz.prog 139 #[.pointer (some ⟨g, 0, none⟩)] w (RdPost W0 g w (.tuple #[]) [] true) := by
  have HR := Lib.hid h
  obtain ⟨_, _, ⟨v, _, h0⟩, h1, h2, h3, h4⟩ := h
  have HF : Hid (RdPost W0 g w (.tuple #[]) [] true (.returned (.tuple #[])) ((w.setCell ⟨g, 0, none⟩ (.slice none 0 0)).setCell ⟨g, 1, none⟩ (.bool true))) := Lib.hid
    ⟨rfl, HR.out.set (BytesIn.nil W0) (((Only.refl g w).set 0 _).set 1 _) (by go_simp) (by go_simp) (by go_simp) (by go_simp) (by go_simp), ((Only.refl g w).set 0 _).set 1 _⟩
  go_enter Tryz.func139, Tryz.ntmps139
  go_wp2
  go_end0
  exact HF.out

/-- What octet does at a list with a first byte. -/
theorem bytes_tail {w : World} {xs : List B8} {y : B8} {v : Value} (h : BytesIn w v (y :: xs)) : ∃ b o c, v = .slice (some ⟨b, o, none⟩) (xs.length + 1) c ∧ xs.length + 1 ≤ c ∧ w.cell? ⟨b, o, none⟩ = some (.int .u8 (ub y)) ∧
    (∀ A, (A = (if c = 1 then some (⟨b, o, none⟩ : Addr) else some ⟨b, o + 1, none⟩)) → BytesIn w (.slice A xs.length (c - 1)) xs) := by
  rcases h with ⟨h, _⟩ | ⟨b, o, c, rfl, hn, hm, hc⟩
  · cases h
  · simp only [List.length_cons] at hn hm hc
    refine ⟨b, o, c, rfl, hn, ?_, ?_⟩
    · have h0 := hc 0 (by omega); rw [Nat.add_zero] at h0; exact h0
    · rintro A rfl
      by_cases h1 : c = 1
      · subst h1
        rw [if_pos rfl]
        obtain rfl : xs = [] := List.length_eq_zero_iff.1 (by omega)
        exact .inl ⟨rfl, _, _, rfl, fun e => by cases e⟩
      · rw [if_neg h1]
        refine .inr ⟨b, o + 1, c - 1, rfl, by omega, by omega, fun i hi => ?_⟩
        have := hc (i + 1) (by omega)
        rw [show o + 1 + i = o + (i + 1) from by omega, this]
        simp

set_option maxHeartbeats 400000 in
theorem octet_none (W0 : World) (g : Nat) (w : World) (f : Bool) (h : Rd W0 g w [] f) :
    Calls Tryz.prog 138 #[.pointer (some ⟨g, 0, none⟩)] w (RdPost W0 g w (.int .u8 0) [] true) := by
  have HR := Lib.hid h
  obtain ⟨_, _, ⟨v, hv, h0⟩, h1, h2, h3, h4⟩ := h
  obtain ⟨A, c, rfl, _⟩ := hv.form
  clear hv
  simp only [List.length_nil] at h0
  go_enter Tryz.func138, Tryz.ntmps138
  go_wp2_with fail
  refine (fail_r W0 g w [] f HR.out).mono ?_
  rintro e w' ⟨rfl, hr, ho⟩
  have HR2 := Lib.hid hr
  have HO := Lib.hid ho
  clear hr ho
  go_wp2_with fail
  go_ret
  exact ⟨rfl, HR2.out, HO.out⟩

set_option maxHeartbeats 400000 in
theorem octet_some (W0 : World) (g : Nat) (w : World) (y : B8) (xs : List B8) (f : Bool) (h : Rd W0 g w (y :: xs) f) :
    Calls Tryz.prog 138 #[.pointer (some ⟨g, 0, none⟩)] w (RdPost W0 g w (.int .u8 (ub y)) xs f) := by
  have HR := Lib.hid h
  obtain ⟨hg, hok, ⟨v, hv, h0⟩, h1, h2, h3, h4⟩ := h
  have hlm : xs.length + 1 ≤ 140737488351232 := by
    obtain ⟨_, _, _, hl⟩ := hv.form
    simpa using hl
  obtain ⟨b, o, c, rfl, hc, hcell, htail⟩ := bytes_tail hv
  have hcell := hok.cell hcell
  have HT := Lib.hid htail
  have HF : Hid (∀ A c', BytesIn W0 (.slice A xs.length c') xs → RdPost W0 g w (.int .u8 (ub y)) xs f (.returned (.int .u8 (ub y))) (w.setCell ⟨g, 0, none⟩ (.slice A xs.length c'))) := Lib.hid fun A c' hA =>
    ⟨rfl, HR.out.set hA ((Only.refl g w).set 0 _) (by go_simp) (by go_simp) (by go_simp) (by go_simp) (by go_simp), (Only.refl g w).set 0 _⟩
  clear hok htail hv
  have hz : ((xs.length : Int) + 1 == 0) = false := by rw [beq_eq_false_iff_ne]; omega
  by_cases hc1 : c = 1
  · obtain rfl := hc1
    have hx0 : xs = [] := List.length_eq_zero_iff.1 (by omega)
    subst hx0
    have HB : Hid (BytesIn W0 (.slice (some ⟨b, o, none⟩) 0 0) []) := Lib.hid (by
      have := HT.out _ rfl
      rwa [if_pos rfl] at this)
    clear hz
    simp only [List.length_nil, Nat.zero_add] at h0
    go_enter Tryz.func138, Tryz.ntmps138
    go_wp2_with fail
    go_ret
    exact HF.out _ _ HB.out
  · have HB : Hid (BytesIn W0 (.slice (some ⟨b, o + 1, none⟩) xs.length (c - 1)) xs) := Lib.hid (by
      have := HT.out _ rfl
      rwa [if_neg hc1] at this)
    have hc2 : 1 < c := by omega
    go_enter Tryz.func138, Tryz.ntmps138
    go_wp2_with fail
    go_ret
    exact HF.out _ _ HB.out

theorem and127b (y : B8) : bits .and .u8 (ub y) 127 = ((y.toNat % 128 : Nat) : Int) := by
  have := bits_mask .u8 8 (by decide) wraps_u8 7 (by decide) (ub y) (ub_lo y) (ub_hi y)
  rw [show (2 : Int) ^ 7 - 1 = 127 from by decide] at this
  rw [this, ub]; simp
theorem or_shift (n m k : Nat) (hn : n < 128 ^ k) (hm : m < 128) (hk : k ≤ 8) : bits .or .i64 (n : Int) (((m * 128 ^ k : Nat)) : Int) = ((n + m * 128 ^ k : Nat) : Int) := by
  have hw : ∀ m : Int, 0 ≤ m → m < 2 ^ 63 → IntKind.i64.wrap m = m := fun m h0 h1 => by rw [IntKind.wrap_i64]; omega
  have h63 : (128 : Nat) ^ (k + 1) ≤ 2 ^ 63 := by
    have : (128 : Nat) ^ (k + 1) = 2 ^ (7 * (k + 1)) := by rw [Nat.pow_mul]
    rw [this]; exact Nat.pow_le_pow_right (by decide) (by omega)
  have hm2 : m * 128 ^ k + 128 ^ k ≤ 128 ^ (k + 1) := by
    have : (m + 1) * 128 ^ k ≤ 128 * 128 ^ k := Nat.mul_le_mul_right _ (by omega)
    rw [Nat.add_mul, Nat.one_mul] at this
    rw [Nat.pow_succ, Nat.mul_comm (128 ^ k) 128]; exact this
  have h1 := (bits_nat .i64 63 (by decide) hw n (m * 128 ^ k) (by omega) (by omega)).2
  rw [h1]
  have e : 128 ^ k = 2 ^ (7 * k) := by rw [Nat.pow_mul]
  have h2 := Nat.two_pow_add_eq_or_of_lt (i := 7 * k) (b := n) (by rw [← e]; exact hn) m
  rw [← e] at h2
  rw [Nat.or_comm, Nat.mul_comm m, ← h2, Nat.add_comm]
end Go.Proofs.YtdabdkedgigjdaaGreat
namespace Go.Proofs.YtdabdkedgigjdaaGreat
open Go.RowKit

def resN : Option (Nat × List B8) → Nat | some (n, _) => n | none => 0
def resL : Option (Nat × List B8) → List B8 | some (_, r) => r | none => []
def resF : Option (Nat × List B8) → Bool | some _ => false | none => true

theorem or_byte (n k : Nat) (y : B8) (hn : n < 128 ^ k) (hk : k ≤ 8) : bits .or .i64 (n : Int) (wrap64 ((y.toNat : Int) % 128 * 2 ^ (7 * k))) = ((n + y.toNat % 128 * 128 ^ k : Nat) : Int) := by
  have e : ((y.toNat : Int) % 128 * 2 ^ (7 * k)) = ((y.toNat % 128 * 128 ^ k : Nat) : Int) := by
    have : (128 : Nat) ^ k = 2 ^ (7 * k) := by rw [Nat.pow_mul]
    rw [this]; simp
  have hb : y.toNat % 128 * 128 ^ k < 2 ^ 63 := by
    have h1 : y.toNat % 128 * 128 ^ k ≤ 127 * 128 ^ 8 := Nat.mul_le_mul (by omega) (Nat.pow_le_pow_right (by decide) hk)
    exact Nat.lt_of_le_of_lt h1 (by decide)
  have hw : wrap64 ((y.toNat % 128 * 128 ^ k : Nat) : Int) = ((y.toNat % 128 * 128 ^ k : Nat) : Int) := IntWalk.wrap64_in _ ⟨by omega, by omega⟩
  rw [e, hw]
  exact or_shift n _ k hn (Nat.mod_lt _ (by decide)) hk
theorem or_zero (n : Nat) (h : n < 2 ^ 63) : bits .or .i64 (n : Int) 0 = n := by
  have hw : ∀ m : Int, 0 ≤ m → m < 2 ^ 63 → IntKind.i64.wrap m = m := fun m h0 h1 => by rw [IntKind.wrap_i64]; omega
  have := (bits_nat .i64 63 (by decide) hw n 0 h (by decide)).2
  simpa using this
theorem pow_le9 (k : Nat) (hk : k ≤ 9) : (128 : Nat) ^ k ≤ 2 ^ 63 := by
  have : (128 : Nat) ^ k = 2 ^ (7 * k) := by rw [Nat.pow_mul]
  rw [this]; exact Nat.pow_le_pow_right (by decide) (by omega)
theorem pow_step (n y k : Nat) (hn : n < 128 ^ k) : n + y % 128 * 128 ^ k < 128 ^ (k + 1) := by
  have : (y % 128 + 1) * 128 ^ k ≤ 128 * 128 ^ k := Nat.mul_le_mul_right _ (by omega)
  rw [Nat.add_mul, Nat.one_mul] at this
  rw [Nat.pow_succ, Nat.mul_comm (128 ^ k) 128]; omega

set_option maxRecDepth 100000 in
set_option maxHeartbeats 4000000 in
theorem number_r (W0 : World) (g : Nat) (W : World) (xs : List B8) (m : Nat) (hm : m ≤ 4611686018427387903) (h : Rd W0 g W xs false) :
    Calls Tryz.prog 119 #[.pointer (some ⟨g, 0, none⟩), .int .i64 (m : Int)] W (RdPost W0 g W (.int .i64 (resN (rd m xs) : Int)) (resL (rd m xs)) (resF (rd m xs))) := by
  have HR := Lib.hid h
  have H0 : Hid (rd m xs = rdF m 9 0 0 xs) := Lib.hid rfl
  clear h
  go_enter Tryz.func119, Tryz.ntmps119
  go_wp2_with fail
  go_loopw [5, 6] (fun x s wr => ∃ (k n : Nat) (ys : List B8), s = .int .i64 ((7 * k : Nat) : Int) ∧ x = .int .i64 (n : Int) ∧ k ≤ 9 ∧ n < 128 ^ k ∧ Rd W0 g wr ys false ∧ Only g W wr ∧ rd m xs = rdF m (9 - k) k n ys) (fun _ s _ => 63 - (intOf s).toNat)
  case atStart => exact ⟨0, 0, xs, rfl, rfl, by omega, by decide, HR.out, Only.refl _ _, H0.out⟩
  case round =>
    obtain ⟨k, n, ys, rfl, rfl, hk, hn, hr, ho, he⟩ := hrel
    have HRR := Lib.hid hr
    have HO := Lib.hid ho
    have HE := Lib.hid he
    have HNK := Lib.hid hn
    clear hr ho he hn
    by_cases hlt : k < 9
    · have hd0 : decide (((7 * k : Nat) : Int) < 63) = true := decide_eq_true (by omega)
      have hd0' : decide (7 * (k : Int) < 63) = true := decide_eq_true (by omega)
      cases ys with
      | nil =>
        have HE : Hid (rd m xs = none) := Lib.hid (by rw [HE.out, show 9 - k = (8 - k) + 1 from by omega]; rfl)
        go_wp2_with fail
        refine (octet_none W0 g _ false HRR.out).mono ?_
        rintro e w2 ⟨rfl, hr2, ho2⟩
        have hf := hr2.2.2.2.1
        have HR2 := Lib.hid hr2
        have HO2 := Lib.hid ho2
        clear hr2 ho2
        have ha : bits .and .u8 0 127 = 0 := by decide
        have hor := or_zero n (Nat.lt_of_lt_of_le HNK.out (pow_le9 k hk))
        have hw0 : wrap64 0 = 0 := IntWalk.wrap64_in 0 ⟨by decide, by decide⟩
        go_wp2_with fail
        refine (fail_r W0 g _ _ _ HR2.out).mono ?_
        rintro e w3 ⟨rfl, hr3, ho3⟩
        have HFIN : Hid (RdPost W0 g W (.int .i64 0) [] true (.returned (.int .i64 0)) w3) := Lib.hid ⟨rfl, hr3, (HO.out.trans HO2.out).trans ho3⟩
        clear hr3 ho3
        go_wp2_with fail
        go_ret
        rw [HE.out]
        exact HFIN.out
      | cons y r =>
        go_wp2_with fail
        refine (octet_some W0 g _ y r false HRR.out).mono ?_
        rintro e w2 ⟨rfl, hr2, ho2⟩
        have HR2 := Lib.hid hr2
        have HO2 := Lib.hid ho2
        clear hr2 ho2
        have ha := and127b y
        have hor := or_byte n k y HNK.out (by omega)
        have HST := Lib.hid (pow_step n y.toNat k HNK.out)
        have hbig : n + y.toNat % 128 * 128 ^ k < 9223372036854775808 := Nat.lt_of_lt_of_le HST.out (Nat.le_trans (pow_le9 (k + 1) (by omega)) (by decide))
        have HRD : Hid (rdF m (9 - k) k n (y :: r) = if 127 < y.toNat then rdF m (8 - k) (k + 1) (n + y.toNat % 128 * 128 ^ k) r else if (y.toNat = 0 ∧ 0 < k) ∨ m < n + y.toNat % 128 * 128 ^ k then none else some (n + y.toNat % 128 * 128 ^ k, r)) := Lib.hid (by
          rw [show 9 - k = (8 - k) + 1 from by omega]; rfl)
        have HBIG := Lib.hid hbig
        clear hbig
        generalize hN : n + y.toNat % 128 * 128 ^ k = N at *
        have HNN := Lib.hid hN
        clear hN
        by_cases hy : 127 < y.toNat
        · have hd1 : decide ((127 : Int) < ub y) = true := decide_eq_true (by unfold ub; omega)
          have HE2 : Hid (rd m xs = rdF m (9 - (k + 1)) (k + 1) N r) := Lib.hid (by rw [HE.out, HRD.out, if_pos hy, show 9 - (k + 1) = 8 - k from by omega])
          clear hy
          go_wp2_with fail
          go_roundw
          case rel => exact ⟨k + 1, N, r, by congr 1, rfl, by omega, HST.out, HR2.out, HO.out.trans HO2.out, HE2.out⟩
          case measure => simp [intOf]; omega
        · have hd1 : decide ((127 : Int) < ub y) = false := decide_eq_false (by unfold ub; omega)
          have hf := HR2.out.2.2.2.1
          have HE := Lib.hid (HE.out.trans (HRD.out.trans (if_neg hy)))
          by_cases hz : y.toNat = 0 ∧ 0 < k
          · have HE : Hid (rd m xs = none) := Lib.hid (by rw [HE.out, if_pos (.inl hz)])
            have hz0 : (ub y == 0) = true := by rw [beq_iff_eq]; unfold ub; omega
            have hz1 : decide ((0 : Int) < ((7 * k : Nat) : Int)) = true := decide_eq_true (by omega)
            have hz2 : decide ((0 : Int) < 7 * (k : Int)) = true := decide_eq_true (by omega)
            clear hy hz
            go_wp2_with fail
            refine (fail_r W0 g _ _ _ HR2.out).mono ?_
            rintro e w3 ⟨rfl, hr3, ho3⟩
            have HFIN : Hid (RdPost W0 g W (.int .i64 0) [] true (.returned (.int .i64 0)) w3) := Lib.hid ⟨rfl, hr3, (HO.out.trans HO2.out).trans ho3⟩
            clear hr3 ho3
            go_wp2_with fail
            go_ret
            rw [HE.out]
            exact HFIN.out
          · by_cases hy0' : y.toNat = 0
            · have hz0 : (ub y == 0) = true := by rw [beq_iff_eq]; unfold ub; omega
              have hz1 : decide ((0 : Int) < ((7 * k : Nat) : Int)) = false := decide_eq_false (by omega)
              have hz2 : decide ((0 : Int) < 7 * (k : Int)) = false := decide_eq_false (by omega)
              clear hy hy0'
              by_cases hb1 : 4611686018427387903 < N
              · have HE : Hid (rd m xs = none) := Lib.hid (by rw [HE.out, if_pos (.inr (by omega))])
                have hd2 : decide ((4611686018427387903 : Int) < (N : Int)) = true := decide_eq_true (by omega)
                clear hb1
                go_wp2_with fail
                refine (fail_r W0 g _ _ _ HR2.out).mono ?_
                rintro e w3 ⟨rfl, hr3, ho3⟩
                have HFIN : Hid (RdPost W0 g W (.int .i64 0) [] true (.returned (.int .i64 0)) w3) := Lib.hid ⟨rfl, hr3, (HO.out.trans HO2.out).trans ho3⟩
                clear hr3 ho3
                go_wp2_with fail
                go_ret
                rw [HE.out]
                exact HFIN.out
              · have hd2 : decide ((4611686018427387903 : Int) < (N : Int)) = false := decide_eq_false (by omega)
                clear hb1
                by_cases hb2 : m < N
                · have HE : Hid (rd m xs = none) := Lib.hid (by rw [HE.out, if_pos (.inr hb2)])
                  have hd3 : decide (m < N) = true := decide_eq_true hb2
                  clear hb2
                  go_wp2_with fail
                  refine (fail_r W0 g _ _ _ HR2.out).mono ?_
                  rintro e w3 ⟨rfl, hr3, ho3⟩
                  have HFIN : Hid (RdPost W0 g W (.int .i64 0) [] true (.returned (.int .i64 0)) w3) := Lib.hid ⟨rfl, hr3, (HO.out.trans HO2.out).trans ho3⟩
                  clear hr3 ho3
                  go_wp2_with fail
                  go_ret
                  rw [HE.out]
                  exact HFIN.out
                · have HE : Hid (rd m xs = some (N, r)) := Lib.hid (by rw [HE.out, if_neg (by rintro (h | h); exact hz h; exact hb2 h)])
                  have hd3 : decide (m < N) = false := decide_eq_false hb2
                  clear hb2
                  go_wp2_with fail
                  go_ret
                  rw [HE.out]
                  exact ⟨rfl, HR2.out, HO.out.trans HO2.out⟩
            · have hz0 : (ub y == 0) = false := by rw [beq_eq_false_iff_ne]; unfold ub; omega
              clear hy hy0'
              by_cases hb1 : 4611686018427387903 < N
              · have HE : Hid (rd m xs = none) := Lib.hid (by rw [HE.out, if_pos (.inr (by omega))])
                have hd2 : decide ((4611686018427387903 : Int) < (N : Int)) = true := decide_eq_true (by omega)
                clear hb1
                go_wp2_with fail
                refine (fail_r W0 g _ _ _ HR2.out).mono ?_
                rintro e w3 ⟨rfl, hr3, ho3⟩
                have HFIN : Hid (RdPost W0 g W (.int .i64 0) [] true (.returned (.int .i64 0)) w3) := Lib.hid ⟨rfl, hr3, (HO.out.trans HO2.out).trans ho3⟩
                clear hr3 ho3
                go_wp2_with fail
                go_ret
                rw [HE.out]
                exact HFIN.out
              · have hd2 : decide ((4611686018427387903 : Int) < (N : Int)) = false := decide_eq_false (by omega)
                clear hb1
                by_cases hb2 : m < N
                · have HE : Hid (rd m xs = none) := Lib.hid (by rw [HE.out, if_pos (.inr hb2)])
                  have hd3 : decide (m < N) = true := decide_eq_true hb2
                  clear hb2
                  go_wp2_with fail
                  refine (fail_r W0 g _ _ _ HR2.out).mono ?_
                  rintro e w3 ⟨rfl, hr3, ho3⟩
                  have HFIN : Hid (RdPost W0 g W (.int .i64 0) [] true (.returned (.int .i64 0)) w3) := Lib.hid ⟨rfl, hr3, (HO.out.trans HO2.out).trans ho3⟩
                  clear hr3 ho3
                  go_wp2_with fail
                  go_ret
                  rw [HE.out]
                  exact HFIN.out
                · have HE : Hid (rd m xs = some (N, r)) := Lib.hid (by rw [HE.out, if_neg (by rintro (h | h); exact hz h; exact hb2 h)])
                  have hd3 : decide (m < N) = false := decide_eq_false hb2
                  clear hb2
                  go_wp2_with fail
                  go_ret
                  rw [HE.out]
                  exact ⟨rfl, HR2.out, HO.out.trans HO2.out⟩
    · have hke : k = 9 := by omega
      subst hke
      have HE : Hid (rd m xs = none) := Lib.hid (by rw [HE.out]; rfl)
      have HR2 := HRR
      have HO2 : Hid (Only g wr wr) := Lib.hid (Only.refl g wr)
      go_wp2_with fail
      refine (fail_r W0 g _ _ _ HR2.out).mono ?_
      rintro e w3 ⟨rfl, hr3, ho3⟩
      have HFIN : Hid (RdPost W0 g W (.int .i64 0) [] true (.returned (.int .i64 0)) w3) := Lib.hid ⟨rfl, hr3, (HO.out.trans HO2.out).trans ho3⟩
      clear hr3 ho3
      go_wp2_with fail
      go_ret
      rw [HE.out]
      exact HFIN.out
end Go.Proofs.YtdabdkedgigjdaaGreat
namespace Go.Proofs.YtdabdkedgigjdaaGreat
open Go.RowKit

set_option maxHeartbeats 400000 in
theorem dead_r (W0 : World) (g : Nat) (w : World) (xs : List B8) (f : Bool) (h : Rd W0 g w xs f) :
    Calls Tryz.prog 94 #[.pointer (some ⟨g, 0, none⟩)] w fun e w' => e = .returned (.bool f) ∧ w = w' := by
  have h1 := h.2.2.2.1
  have h2 := h.2.2.2.2.1
  clear h
  go_enter Tryz.func94, Tryz.ntmps94
  go_wp2
  go_ret
  exact ⟨rfl, rfl⟩

set_option maxHeartbeats 400000 in
theorem left_r (W0 : World) (g : Nat) (w : World) (xs : List B8) (f : Bool) (h : Rd W0 g w xs f) (hf : f = true → xs = []) :
    Calls Tryz.prog 47 #[.pointer (some ⟨g, 0, none⟩)] w fun e w' => e = .returned (.int .i64 (xs.length : Int)) ∧ w = w' := by
  have HR := Lib.hid h
  obtain ⟨v, hv, h0⟩ := h.2.2.1
  have hform := hv.form
  clear hv h
  cases f with
  | true =>
    obtain rfl := hf rfl
    clear hform h0 hf
    go_enter Tryz.func47, Tryz.ntmps47
    go_wp2_with fail
    refine (dead_r W0 g w _ true HR.out).mono ?_
    rintro e w' ⟨rfl, rfl⟩
    go_wp2_with fail
    go_ret
    exact ⟨rfl, rfl⟩
  | false =>
    obtain ⟨A, c, rfl, _⟩ := hform
    clear hf
    go_enter Tryz.func47, Tryz.ntmps47
    go_wp2_with fail
    refine (dead_r W0 g w _ false HR.out).mono ?_
    rintro e w' ⟨rfl, rfl⟩
    go_wp2_with fail
    go_ret
    exact ⟨rfl, rfl⟩

/-- What End tells. -/
def endOf (xs : List B8) (f : Bool) : Int := if f || decide (0 < xs.length) then 4 else 0
set_option maxHeartbeats 400000 in
theorem Number_r (W0 : World) (g : Nat) (w : World) (xs : List B8) (m : Nat) (hm : m ≤ 4611686018427387903) (h : Rd W0 g w xs false) :
    Calls Tryz.prog 90 #[.pointer (some ⟨g, 0, none⟩), .int .i64 (m : Int)] w (RdPost W0 g w (.int .i64 (resN (rd m xs) : Int)) (resL (rd m xs)) (resF (rd m xs))) := by
  have HR := Lib.hid h
  clear h
  go_enter Tryz.func90, Tryz.ntmps90
  go_wp2_with fail
  refine (dead_r W0 g w _ false HR.out).mono ?_
  rintro e w' ⟨rfl, rfl⟩
  go_wp2_with fail
  refine (number_r W0 g w xs m hm HR.out).mono ?_
  rintro e w' ⟨rfl, hr, ho⟩
  have HR2 := Lib.hid hr
  have HO := Lib.hid ho
  clear hr ho
  go_wp2_with fail
  go_ret
  exact ⟨rfl, HR2.out, HO.out⟩

def NewRd (W : World) (xs : List B8) (e : Ending) (w' : World) : Prop :=
  ∃ W0 g, e = .returned (.pointer (some ⟨g, 0, none⟩)) ∧ Rd W0 g w' xs false ∧ Ok W W0 ∧ g + 1 = w'.heap.size
set_option maxRecDepth 100000 in
set_option maxHeartbeats 1000000 in
theorem newReader_r (W : World) (v : Value) (xs : List B8) (h : BytesIn W v xs) (_hx : xs.length ≤ 140737488350000) :
    Calls Tryz.prog 44 #[v] W (NewRd W xs) := by
  obtain ⟨A, c, rfl, _⟩ := h.form
  have HB := Lib.hid h
  have HON : Hid (OwnN W W.heap.size (.slice none 0 0) []) := Lib.hid (World.ownsRow_nil _ _ _ _)
  clear h
  go_enter Tryz.func44, Tryz.ntmps44
  go_wp2_with (at_builtin; go_must (refine wpList_app rfl (.const (.slice none 0 0)) (.tmp 3) rfl W.heap.size (.slice none 0 0) [] xs (.slice A xs.length c) rfl rfl HON.out HB.out (by simp; omega) (Nat.le_refl _) ?_; intro A' c' w2 hown2 hbel2; simp only [List.nil_append, List.length_nil, Nat.zero_add] at hown2 ⊢; have HOWN2 := Lib.hid hown2; have HBEL2 := Lib.hid hbel2; clear hown2 hbel2))
  go_ret
  refine ⟨w2, w2.heap.size, rfl, ⟨Nat.le_refl _, (Ok.refl w2).alloc _, ⟨_, HOWN2.out.bytes (by omega), ?_⟩, ?_, ?_, World.frozen?_alloc_at _ _ _ _ rfl, World.frozen?_alloc_at _ _ _ _ rfl⟩, HBEL2.out, by simp⟩
  all_goals (rw [World.cell?_alloc_at _ _ _ _ rfl]; rfl)
end Go.Proofs.YtdabdkedgigjdaaGreat
namespace Go.Proofs.YtdabdkedgigjdaaGreat
open Go.RowKit

def topN : Nat := 4611686018427387903
theorem rdF_top (m : Nat) (hm : m ≤ topN) : ∀ (f k n : Nat) (xs : List B8), rdF m f k n xs = (rdF topN f k n xs).bind fun p => if p.1 ≤ m then some p else none
  | 0, _, _, _ => rfl
  | _ + 1, _, _, [] => rfl
  | f + 1, k, n, y :: r => by
    rw [rdF, rdF]
    by_cases h : 127 < y.toNat
    · rw [if_pos h, if_pos h]; exact rdF_top m hm f _ _ r
    · rw [if_neg h, if_neg h]
      generalize n + y.toNat % 128 * 128 ^ k = N
      by_cases h1 : y.toNat = 0 ∧ 0 < k
      · have e1 : (y.toNat = 0 ∧ 0 < k) ∨ m < N := Or.inl h1
        have e2 : (y.toNat = 0 ∧ 0 < k) ∨ topN < N := Or.inl h1
        rw [if_pos e1, if_pos e2]; rfl
      · by_cases h2 : topN < N
        · have e1 : (y.toNat = 0 ∧ 0 < k) ∨ m < N := Or.inr (by omega)
          have e2 : (y.toNat = 0 ∧ 0 < k) ∨ topN < N := Or.inr h2
          rw [if_pos e1, if_pos e2]; rfl
        · have e2 : ¬ ((y.toNat = 0 ∧ 0 < k) ∨ topN < N) := fun h => h.elim h1 h2
          rw [if_neg e2]
          by_cases h3 : m < N
          · have e1 : (y.toNat = 0 ∧ 0 < k) ∨ m < N := Or.inr h3
            rw [if_pos e1]
            simp only [Option.bind_some]
            rw [if_neg (by omega)]
          · have e1 : ¬ ((y.toNat = 0 ∧ 0 < k) ∨ m < N) := fun h => h.elim h1 h3
            rw [if_neg e1]
            simp only [Option.bind_some]
            rw [if_pos (by omega)]
/-- The number that bytes begin with, and how many they are. -/
def getM (xs : List B8) : Nat × Nat := match rd topN xs with
  | none => (0, 0)
  | some (n, r) => (n, xs.length - r.length)
theorem rdF_drop (m f k n : Nat) : ∀ (xs r : List B8) (N : Nat), rdF m f k n xs = some (N, r) → r = xs.drop (xs.length - r.length) := by
  induction f generalizing k n with
  | zero => intro xs r N h; cases h
  | succ f ih =>
    intro xs r N h
    cases xs with
    | nil => cases h
    | cons y xs =>
      rw [rdF] at h
      split at h
      · have h1 := ih _ _ _ _ _ h
        have h2 := (rdF_le _ _ _ _ _ _ _ h).2
        rw [List.length_cons, show xs.length + 1 - r.length = (xs.length - r.length) + 1 from by omega, List.drop_succ_cons]
        exact h1
      · split at h
        · cases h
        · simp only [Option.some.injEq, Prod.mk.injEq] at h
          obtain ⟨_, rfl⟩ := h
          rw [List.length_cons, show xs.length + 1 - xs.length = 1 from by omega]; rfl

set_option maxRecDepth 100000 in
set_option maxHeartbeats 2000000 in
theorem get_w (v : Value) (xs : List B8) (w : World) (h : BytesIn w v xs) :
    Calls Tryz.prog 121 #[v] w fun e w' => e = .returned (.tuple #[.int .i64 ((getM xs).1 : Int), .int .i64 ((getM xs).2 : Int)]) ∧ w = w' := by
  obtain ⟨A, c, rfl, hmax⟩ := h.form
  have HB := Lib.hid h
  have H0 : Hid (rd topN xs = rdF topN 9 0 0 xs) := Lib.hid rfl
  have HG : Hid (∀ r, rd topN xs = r → getM xs = match r with | none => (0, 0) | some (n, r) => (n, xs.length - r.length)) := Lib.hid fun r e => by rw [← e]; rfl
  generalize getM xs = R at HG ⊢
  obtain ⟨L, hL⟩ : ∃ L, xs.length = L := ⟨_, rfl⟩
  have HL := Lib.hid hL
  rw [hL] at HB hmax ⊢
  clear h hL
  go_enter Tryz.func121, Tryz.ntmps121
  go_wp2_with fail
  go_loop [4, 5] (fun x s => ∃ (k n : Nat), s = .int .i64 (k : Int) ∧ x = .int .i64 (n : Int) ∧ k ≤ 9 ∧ k ≤ L ∧ n < 128 ^ k ∧ rd topN xs = rdF topN (9 - k) k n (xs.drop k)) (fun _ s => 9 - (intOf s).toNat)
  case atStart => exact ⟨0, 0, rfl, rfl, by omega, by omega, by decide, H0.out⟩
  case round =>
    obtain ⟨k, n, rfl, rfl, hk, hkL, hn, he⟩ := hrel
    have HE := Lib.hid he
    have HNK := Lib.hid hn
    clear he hn
    by_cases hlt : k < L
    · have d1 : decide ((k : Int) < (L : Int)) = true := decide_eq_true (by omega)
      by_cases h9 : k < 9
      · have d2 : decide ((k : Int) < 9) = true := decide_eq_true (by omega)
        obtain ⟨b, o, rfl, hc⟩ : ∃ b o, A = some ⟨b, o, none⟩ ∧ w.cell? ⟨b, o + k, none⟩ = some (.int .u8 (ub (xs.getD k 0#8))) := by
          rcases HB.out with ⟨e, _⟩ | ⟨b, o, c', e, _, _, hc⟩
          · have := HL.out; rw [e] at this; simp at this; omega
          · simp only [Value.slice.injEq] at e
            exact ⟨b, o, e.1, hc k (by rw [HL.out]; exact hlt)⟩
        have HD : Hid (xs.drop k = xs.getD k 0#8 :: xs.drop (k + 1)) := Lib.hid (by
          rw [List.drop_eq_getElem_cons (by rw [HL.out]; exact hlt)]
          simp [HL.out, hlt])
        generalize xs.getD k 0#8 = y at hc HD
        have hi0 : (0 : Int) ≤ (k : Int) := Int.natCast_nonneg _
        have hi1 : (k : Int) < (L : Int) := by omega
        have ha := and127b y
        have hor := or_byte n k y HNK.out (by omega)
        have HST := Lib.hid (pow_step n y.toNat k HNK.out)
        have hbig : n + y.toNat % 128 * 128 ^ k < 9223372036854775808 := Nat.lt_of_lt_of_le HST.out (Nat.le_trans (pow_le9 (k + 1) (by omega)) (by decide))
        have HRD : Hid (rdF topN (9 - k) k n (y :: xs.drop (k + 1)) = if 127 < y.toNat then rdF topN (9 - (k + 1)) (k + 1) (n + y.toNat % 128 * 128 ^ k) (xs.drop (k + 1)) else if (y.toNat = 0 ∧ 0 < k) ∨ topN < n + y.toNat % 128 * 128 ^ k then none else some (n + y.toNat % 128 * 128 ^ k, xs.drop (k + 1))) := Lib.hid (by
          rw [show 9 - k = (9 - (k + 1)) + 1 from by omega]; rfl)
        have HE := Lib.hid (HE.out.trans ((congrArg (rdF topN (9 - k) k n) HD.out).trans HRD.out))
        have HBIG := Lib.hid hbig
        clear hbig HRD HD
        generalize hN : n + y.toNat % 128 * 128 ^ k = N at *
        have hNn : (0 : Int) ≤ (N : Int) := Int.natCast_nonneg _
        have hn0 : decide ((N : Int) < 0) = false := decide_eq_false (by omega)
        clear hN hNn
        by_cases hy : 127 < y.toNat
        · have hd1 : decide (ub y < 128) = false := decide_eq_false (by unfold ub; omega)
          have HE2 := Lib.hid (HE.out.trans (if_pos hy))
          clear hy
          go_wp2
          go_round
          case rel => exact ⟨k + 1, N, by go_num, rfl, by omega, by omega, HST.out, HE2.out⟩
          case measure => simp [intOf]; omega
        · have hd1 : decide (ub y < 128) = true := decide_eq_true (by unfold ub; omega)
          have HE := Lib.hid (HE.out.trans (if_neg hy))
          by_cases hz : y.toNat = 0 ∧ 0 < k
          · have HE := Lib.hid (HG.out _ (HE.out.trans (if_pos (Or.inl hz))))
            have hz0 : (ub y == 0) = true := by rw [beq_iff_eq]; unfold ub; omega
            have hz2 : decide ((0 : Int) < (k : Int)) = true := decide_eq_true (by omega)
            have hk0 : 0 < k := hz.2
            clear hy hz
            go_wp2
            go_ret2
            rw [HE.out]
            exact ⟨rfl, rfl⟩
          · by_cases hb1 : topN < N
            · have HE := Lib.hid (HG.out _ (HE.out.trans (if_pos (Or.inr hb1))))
              have hd2 : decide ((4611686018427387903 : Int) < (N : Int)) = true := decide_eq_true (by unfold topN at hb1; omega)
              by_cases hk0 : 0 < k
              · have hz0 : (ub y == 0) = false := by rw [beq_eq_false_iff_ne]; unfold ub; omega
                have hz2 : decide ((0 : Int) < (k : Int)) = true := decide_eq_true (by omega)
                clear hy hz hb1
                go_wp2
                go_ret2
                rw [HE.out]
                exact ⟨rfl, rfl⟩
              · have hz2 : decide ((0 : Int) < (k : Int)) = false := decide_eq_false (by omega)
                clear hy hz hb1
                go_wp2
                go_ret2
                rw [HE.out]
                exact ⟨rfl, rfl⟩
            · have e3 : ¬ ((y.toNat = 0 ∧ 0 < k) ∨ topN < N) := fun h => h.elim hz hb1
              have HE := Lib.hid (HG.out _ (HE.out.trans (if_neg e3)))
              have hd2 : decide ((4611686018427387903 : Int) < (N : Int)) = false := decide_eq_false (by unfold topN at hb1; omega)
              have HK1 : Hid (L - (xs.drop (k + 1)).length = k + 1) := Lib.hid (by rw [List.length_drop, HL.out]; omega)
              have HF : Hid (R = (N, k + 1)) := Lib.hid (by
                rw [HE.out]
                show (N, xs.length - (xs.drop (k + 1)).length) = _
                rw [HL.out, HK1.out])
              clear e3 hb1
              by_cases hk0 : 0 < k
              · have hz0 : (ub y == 0) = false := by rw [beq_eq_false_iff_ne]; unfold ub; omega
                have hz2 : decide ((0 : Int) < (k : Int)) = true := decide_eq_true (by omega)
                clear hy hz
                go_wp2
                go_ret2
                rw [HF.out]
                exact ⟨by go_num, rfl⟩
              · have hz2 : decide ((0 : Int) < (k : Int)) = false := decide_eq_false (by omega)
                clear hy hz
                go_wp2
                go_ret2
                rw [HF.out]
                exact ⟨by go_num, rfl⟩
      · have d2 : decide ((k : Int) < 9) = false := decide_eq_false (by omega)
        have HE := Lib.hid (HG.out _ (HE.out.trans (by rw [show 9 - k = 0 from by omega]; rfl : _ = none)))
        go_wp2
        go_ret2
        rw [HE.out]
        exact ⟨rfl, rfl⟩
    · have d1 : decide ((k : Int) < (L : Int)) = false := decide_eq_false (by omega)
      have HD : Hid (xs.drop k = []) := Lib.hid (List.drop_eq_nil_of_le (by rw [HL.out]; omega))
      have HE := Lib.hid (HG.out _ (HE.out.trans (by rw [HD.out]; cases 9 - k <;> rfl : _ = none)))
      go_wp2
      go_ret2
      rw [HE.out]
      exact ⟨rfl, rfl⟩
end Go.Proofs.YtdabdkedgigjdaaGreat
namespace Go.Proofs.YtdabdkedgigjdaaGreat
open Go.RowKit

theorem bytes_take {w : World} {A : Option Addr} {n c N : Nat} {xs : List B8} (h : BytesIn w (.slice A n c) xs) (hN : N ≤ xs.length) : BytesIn w (.slice A N c) (xs.take N) := by
  rcases h with ⟨rfl, A', c', e, hA⟩ | ⟨b, o, c', e, hn, hm, hc⟩
  · simp only [Value.slice.injEq] at e
    obtain ⟨rfl, rfl, rfl⟩ := e
    obtain rfl : N = 0 := by simpa using hN
    exact .inl ⟨rfl, _, _, rfl, hA⟩
  · simp only [Value.slice.injEq] at e
    obtain ⟨rfl, rfl, rfl⟩ := e
    refine .inr ⟨b, o, c, by rw [List.length_take, Nat.min_eq_left hN], by rw [List.length_take]; omega, by rw [List.length_take]; omega, fun i hi => ?_⟩
    rw [List.length_take, Nat.min_eq_left hN] at hi
    rw [hc i (by omega)]
    simp [hi]
theorem bytes_drop {w : World} {A : Option Addr} {n c N : Nat} {xs : List B8} (h : BytesIn w (.slice A n c) xs) (hN : N ≤ xs.length) : BytesIn w (.slice (if c = N then A else A.map (·.add N)) (n - N) (c - N)) (xs.drop N) := by
  rcases h with ⟨rfl, A', c', e, hA⟩ | ⟨b, o, c', e, hn, hm, hc⟩
  · simp only [Value.slice.injEq] at e
    obtain ⟨rfl, rfl, rfl⟩ := e
    obtain rfl : N = 0 := by simpa using hN
    refine .inl ⟨rfl, _, _, rfl, fun e => ?_⟩
    have : A = none := by
      split at e
      · exact e
      · simpa using e
    have := hA this
    omega
  · simp only [Value.slice.injEq] at e
    obtain ⟨rfl, rfl, rfl⟩ := e
    by_cases h0 : N = xs.length
    · refine .inl ⟨by simp [h0], (if c = N then some ⟨b, o, none⟩ else (some (⟨b, o, none⟩ : Addr)).map (·.add N)), c - N, by rw [h0]; simp, fun e => ?_⟩
      split at e <;> cases e
    · have hne : c ≠ N := by omega
      rw [if_neg hne]
      refine .inr ⟨b, o + N, c - N, by simp only [Option.map, Addr.add]; split <;> simp_all, by rw [List.length_drop]; omega, by rw [List.length_drop]; omega, fun i hi => ?_⟩
      rw [List.length_drop] at hi
      rw [show o + N + i = o + (N + i) from by omega, hc (N + i) (by omega)]
      simp


/-- A document's reader at block m. -/
def Rf (W0 : World) (m : Nat) (w : World) (xs : List B8) (f : Bool) : Prop :=
  W0.heap.size ≤ m ∧ Ok W0 w ∧ (∃ v, BytesIn W0 v xs ∧ w.cell? ⟨m, 0, none⟩ = some v) ∧ w.cell? ⟨m, 1, none⟩ = some (.bool f) ∧ w.frozen? ⟨m, 0, none⟩ = false ∧ w.frozen? ⟨m, 1, none⟩ = false
theorem Rf.set {W0 : World} {m : Nat} {w : World} {xs ys : List B8} {f f' : Bool} {v : Value} (h : Rf W0 m w xs f) (hy : BytesIn W0 v ys) {w' : World} (ho : Only m w w')
    (h0 : w'.cell? ⟨m, 0, none⟩ = some v) (h1 : w'.cell? ⟨m, 1, none⟩ = some (.bool f')) (h3 : w'.frozen? ⟨m, 0, none⟩ = false) (h4 : w'.frozen? ⟨m, 1, none⟩ = false) : Rf W0 m w' ys f' :=
  ⟨h.1, Below.trans h.2.1 (ho.below h.1), ⟨v, hy, h0⟩, h1, h3, h4⟩
def RfPost (W0 : World) (m : Nat) (w : World) (res : Value) (ys : List B8) (f : Bool) (e : Ending) (w' : World) : Prop := e = .returned res ∧ Rf W0 m w' ys f ∧ Only m w w'
/-- A number read: what is told, what is left, whether it has failed. -/
def numM (m : Nat) (xs : List B8) (f : Bool) : Nat × List B8 × Bool := if f = true then (0, xs, true) else (resN (rd m xs), resL (rd m xs), resF (rd m xs))
theorem numM_ok (m : Nat) (xs : List B8) (f : Bool) (h : f = true → xs = []) : (numM m xs f).2.2 = true → (numM m xs f).2.1 = [] := by
  unfold numM
  split
  · rename_i hf; intro _; exact h hf
  · cases rd m xs with
    | none => intro _; rfl
    | some p => intro e; cases e
theorem numM_le (m : Nat) (xs : List B8) (f : Bool) : (numM m xs f).1 ≤ m := by
  unfold numM
  split
  · exact Nat.zero_le _
  · cases hrd : rd m xs with
    | none => exact Nat.zero_le _
    | some p => exact (rd_enc _ _ _ _ hrd).2.1

set_option maxHeartbeats 400000 in
theorem Num_any (W0 : World) (g : Nat) (w : World) (xs : List B8) (f : Bool) (m : Nat) (hm : m ≤ topN) (h : Rd W0 g w xs f) :
    Calls Tryz.prog 90 #[.pointer (some ⟨g, 0, none⟩), .int .i64 (m : Int)] w (RdPost W0 g w (.int .i64 ((numM m xs f).1 : Int)) (numM m xs f).2.1 (numM m xs f).2.2) := by
  cases f with
  | false =>
    have := Number_r W0 g w xs m hm h
    simpa [numM] using this
  | true =>
    have HR := Lib.hid h
    have e : numM m xs true = (0, xs, true) := rfl
    rw [e]
    clear h e
    go_enter Tryz.func90, Tryz.ntmps90
    go_wp2_with fail
    refine (dead_r W0 g w _ true HR.out).mono ?_
    rintro e w' ⟨rfl, rfl⟩
    go_wp2_with fail
    go_ret
    exact ⟨rfl, HR.out, Only.refl _ _⟩

set_option maxHeartbeats 400000 in
theorem rfail_w (W0 : World) (m : Nat) (w : World) (xs : List B8) (f : Bool) (h : Rf W0 m w xs f) :
    Calls Tryz.prog 122 #[.pointer (some ⟨m, 0, none⟩)] w (RfPost W0 m w (.tuple #[]) [] true) := by
  have HR := Lib.hid h
  obtain ⟨_, _, ⟨v, _, h0⟩, h1, h3, h4⟩ := h
  have HF : Hid (RfPost W0 m w (.tuple #[]) [] true (.returned (.tuple #[])) ((w.setCell ⟨m, 1, none⟩ (.bool true)).setCell ⟨m, 0, none⟩ (.slice none 0 0))) := Lib.hid
    ⟨rfl, HR.out.set (BytesIn.nil W0) (((Only.refl m w).set 1 _).set 0 _) (by go_simp) (by go_simp) (by go_simp) (by go_simp), ((Only.refl m w).set 1 _).set 0 _⟩
  go_enter Tryz.func122, Tryz.ntmps122
  go_wp2
  go_end0
  exact HF.out

theorem rd_get (m : Nat) (hm : m ≤ topN) (xs : List B8) : ((getM xs).2 = 0 ∨ m < (getM xs).1) ∧ rd m xs = none ∨ ((getM xs).2 ≠ 0 ∧ (getM xs).1 ≤ m ∧ (getM xs).2 ≤ xs.length ∧ rd m xs = some ((getM xs).1, xs.drop (getM xs).2)) := by
  have h1 := rdF_top m hm 9 0 0 xs
  have h2 : rd m xs = rdF m 9 0 0 xs := rfl
  rw [h2, h1]
  unfold getM
  have h3 : rd topN xs = rdF topN 9 0 0 xs := rfl
  rw [← h3]
  cases hr : rd topN xs with
  | none => exact .inl ⟨.inl rfl, rfl⟩
  | some p =>
    obtain ⟨n, r⟩ := p
    have hle := rdF_le _ _ _ _ _ _ _ (h3.symm.trans hr)
    have hdr := rdF_drop _ _ _ _ _ _ _ (h3.symm.trans hr)
    simp only [Option.bind_some]
    by_cases hn : n ≤ m
    · rw [if_pos hn]
      exact .inr ⟨by omega, hn, by omega, by rw [← hdr]⟩
    · rw [if_neg hn]
      exact .inl ⟨.inr (by omega), rfl⟩

set_option maxRecDepth 100000 in
set_option maxHeartbeats 2000000 in
theorem rnum_w (W0 : World) (g : Nat) (w : World) (xs : List B8) (f : Bool) (m : Nat) (hm : m ≤ topN) (h : Rf W0 g w xs f) :
    Calls Tryz.prog 92 #[.pointer (some ⟨g, 0, none⟩), .int .i64 (m : Int)] w (RfPost W0 g w (.int .i64 ((numM m xs f).1 : Int)) (numM m xs f).2.1 (numM m xs f).2.2) := by
  have HR := Lib.hid h
  obtain ⟨_, hok, ⟨v, hv, h0⟩, h1, h3, h4⟩ := h
  cases f with
  | true =>
    have e : numM m xs true = (0, xs, true) := rfl
    rw [e]
    clear e
    go_enter Tryz.func92, Tryz.ntmps92
    go_wp2
    go_ret
    exact ⟨rfl, HR.out, Only.refl _ _⟩
  | false =>
    obtain ⟨A, c, rfl, _⟩ := hv.form
    have HV := Lib.hid hv
    have HG := Lib.hid (get_w _ xs w (hok.bytes hv))
    have hcr : xs.length ≤ c := by
      rcases hv with ⟨rfl, _⟩ | ⟨_, _, _, e, hc, _⟩
      · simp
      · simp only [Value.slice.injEq] at e; omega
    have hcase := rd_get m hm xs
    have HNM : Hid (numM m xs false = (resN (rd m xs), resL (rd m xs), resF (rd m xs))) := Lib.hid rfl
    generalize rd m xs = R at hcase HNM
    generalize getM xs = P at HG hcase
    obtain ⟨n, N⟩ := P
    simp only at HG hcase
    generalize numM m xs false = Z at HNM ⊢
    clear hv hok
    rcases hcase with ⟨hbad, hR⟩ | ⟨hb1, hb2, hb3, hR⟩
    · have HZ : Hid (Z = (0, [], true)) := Lib.hid (by rw [HNM.out, hR]; rfl)
      clear hR HNM
      by_cases hN : N = 0
      · have d1 : ((N : Int) == 0) = true := beq_iff_eq.2 (by omega)
        clear hN hbad
        go_enter Tryz.func92, Tryz.ntmps92
        go_wp2_with fail
        refine HG.out.mono ?_
        rintro _ w1 ⟨rfl, rfl⟩
        go_wp2_with fail
        refine (rfail_w W0 g _ _ _ HR.out).mono ?_
        rintro _ w2 ⟨rfl, hr2, ho2⟩
        have HR2 := Lib.hid hr2
        have HO2 := Lib.hid ho2
        clear hr2 ho2
        go_wp2_with fail
        go_ret
        rw [HZ.out]
        exact ⟨rfl, HR2.out, HO2.out⟩
      · have d1 : ((N : Int) == 0) = false := beq_eq_false_iff_ne.2 (by omega)
        have d2 : decide ((m : Int) < (n : Int)) = true := decide_eq_true (by rcases hbad with h | h <;> omega)
        have d3 : decide (m < n) = true := decide_eq_true (by rcases hbad with h | h <;> omega)
        clear hN hbad
        go_enter Tryz.func92, Tryz.ntmps92
        go_wp2_with fail
        refine HG.out.mono ?_
        rintro _ w1 ⟨rfl, rfl⟩
        go_wp2_with fail
        refine (rfail_w W0 g _ _ _ HR.out).mono ?_
        rintro _ w2 ⟨rfl, hr2, ho2⟩
        have HR2 := Lib.hid hr2
        have HO2 := Lib.hid ho2
        clear hr2 ho2
        go_wp2_with fail
        go_ret
        rw [HZ.out]
        exact ⟨rfl, HR2.out, HO2.out⟩
    · have HZ : Hid (Z = (n, xs.drop N, false)) := Lib.hid (by rw [HNM.out, hR]; rfl)
      have d1 : ((N : Int) == 0) = false := beq_eq_false_iff_ne.2 (by omega)
      have d2 : decide ((m : Int) < (n : Int)) = false := decide_eq_false (by omega)
      have d3 : decide (m < n) = false := decide_eq_false (by omega)
      have HD : Hid (BytesIn W0 (.slice (if c = N then A else A.map (·.add N)) (xs.length - N) (c - N)) (xs.drop N)) := Lib.hid (bytes_drop HV.out hb3)
      have HF : Hid (∀ V, BytesIn W0 V (xs.drop N) → Rf W0 g (w.setCell ⟨g, 0, none⟩ V) (xs.drop N) false) := Lib.hid fun V hV =>
        HR.out.set hV ((Only.refl g w).set 0 _) (by go_simp) (by go_simp) (by go_simp) (by go_simp)
      clear hR HNM
      generalize hl : xs.length = l at *
      have HL := Lib.hid hl
      clear hl
      have hNl : N ≤ l := by omega
      have hNc : N ≤ c := by omega
      have hN0 : (0 : Int) ≤ (N : Int) := by omega
      have hN1 : (N : Int) ≤ (l : Int) := by omega
      have hN2 : (N : Int) ≤ (c : Int) := by omega
      clear hb1 hb2 hb3
      cases A with
      | none =>
        have HD2 : Hid (BytesIn W0 (.slice none (l - N) (c - N)) (xs.drop N)) := Lib.hid (by
          have := HD.out
          split at this <;> exact this)
        go_enter Tryz.func92, Tryz.ntmps92
        go_wp2_with fail
        refine HG.out.mono ?_
        rintro _ w1 ⟨rfl, rfl⟩
        go_wp2_with fail
        go_ret
        rw [HZ.out]
        exact ⟨rfl, HF.out _ HD2.out, (Only.refl g w).set 0 _⟩
      | some a =>
        by_cases hcN : c = N
        · have HD2 : Hid (BytesIn W0 (.slice (some a) 0 0) (xs.drop N)) := Lib.hid (by
            have := HD.out
            rwa [if_pos hcN, show l - N = 0 by omega, show c - N = 0 by omega] at this)
          subst hcN
          go_enter Tryz.func92, Tryz.ntmps92
          go_wp2_with fail
          refine HG.out.mono ?_
          rintro _ w1 ⟨rfl, rfl⟩
          go_wp2_with fail
          go_ret
          rw [HZ.out]
          exact ⟨rfl, HF.out _ HD2.out, (Only.refl g w).set 0 _⟩
        · have HD2 : Hid (BytesIn W0 (.slice (some (a.add N)) (l - N) (c - N)) (xs.drop N)) := Lib.hid (by
            have := HD.out
            rwa [if_neg hcN] at this)
          go_enter Tryz.func92, Tryz.ntmps92
          go_wp2_with fail
          refine HG.out.mono ?_
          rintro _ w1 ⟨rfl, rfl⟩
          go_wp2_with fail
          go_ret
          rw [HZ.out]
          exact ⟨rfl, HF.out _ HD2.out, (Only.refl g w).set 0 _⟩
end Go.Proofs.YtdabdkedgigjdaaGreat
namespace Go.Proofs.YtdabdkedgigjdaaGreat
open Go.RowKit

/-- A text's bytes. -/
def ofStr (s : ByteArray) : List B8 := s.data.toList.map fun b => BitVec.ofNat 8 b.toNat
theorem ofStr_len (s : ByteArray) : (ofStr s).length = s.size := by simp [ofStr]
theorem ofStr_cells (s : ByteArray) : (ofStr s).map bv = Lib.strCells s := by
  unfold ofStr Lib.strCells
  rw [List.map_map]
  apply List.map_congr_left
  intro b _
  have := b.toNat_lt
  simp only [Function.comp, bv, ub, BitVec.toNat_ofNat]
  rw [Nat.mod_eq_of_lt (by simpa using this)]

set_option maxRecDepth 100000 in
set_option maxHeartbeats 1000000 in
theorem text_w (g : Nat) (v : Value) (xs : List B8) (s : ByteArray) (W : World) (hw : Wr g W v xs) (hs : s.size ≤ 1000000000) (hx : xs.length ≤ 140000000000000) :
    Calls Tryz.prog 115 #[.pointer (some ⟨g, 0, none⟩), .string s] W (WrPost g W (.tuple #[]) (xs ++ enc s.size ++ ofStr s)) := by
  have HW := Lib.hid hw
  clear hw
  obtain ⟨i0, hi, hz0, hz1, hz2⟩ := info_parts info5
  have HI := Lib.hid hi
  have HZ0 := Lib.hid hz0
  have HZ1 := Lib.hid hz1
  have HZ2 := Lib.hid hz2
  clear hi hz0 hz1 hz2
  have HEL := Lib.hid (enc_len s.size)
  have HSL := Lib.hid (ofStr_len s)
  have HSC := Lib.hid (ofStr_cells s)
  have HN : Hid (s.size = s.size) := Lib.hid rfl
  go_enter Tryz.func115, Tryz.ntmps115
  go_wp2_with fail
  refine (number_w g v xs s.size _ HW.out (by omega) (by omega)).mono ?_
  rintro e w1 ⟨rfl, ⟨A, c, hw1⟩, hb1⟩
  have hc0 := hw1.1
  have hf0 := hw1.2.2.2.2
  have hsz := hw1.size
  have HW1 := Lib.hid hw1
  have HB1 := Lib.hid hb1
  clear hw1 hb1
  generalize hL : (xs ++ enc s.size).length = L at *
  have HL := Lib.hid hL
  have HLL : Hid (L ≤ 140000000000010) := Lib.hid (by rw [← hL, List.length_append]; have := HEL.out; omega)
  clear hL
  go_wp2_with (at_builtin; go_must (refine Lib.wpList_append_own_string _ rfl (.tmp 12) (.tmp 13) 49 9 rfl (g + 1) 5 i0 Tryz.underlying49 Tryz.underlying9 HI.out HZ0.out HZ1.out HZ2.out (.slice A L c) L ((xs ++ enc s.size).map bv) rfl (by have := HW1.out.2.1; unfold OwnN at this; rwa [HL.out] at this) s rfl (by unfold maxLen; have := HN.out; have := HLL.out; omega) (by have := HN.out; have := HLL.out; omega) (by omega) ?_; intro v' w2 h2 h3 _; have HG2 := Lib.hid h3; have HOW2 := Lib.hid h2; clear h2 h3; obtain ⟨A', c', hv'⟩ : ∃ A' c', v' = .slice A' (L + s.size) c' := (by have h2 := HOW2.out; rcases h2.2 with ⟨rfl, h5⟩ | ⟨g', cap', cur, rfl, _⟩; exact ⟨none, 0, by rw [show L + s.size = 0 by omega]⟩; exact ⟨_, _, rfl⟩); subst hv'; have hcg : w2.cell? ⟨g, 0, none⟩ = some (.slice A L c) := (by have hb := (Below.refl (g + 1) w1).grown HG2.out (by omega) (fun k hk => (World.ownsRow.lt HW1.out.2.1 k hk).1); rw [hb.cell (p := ⟨g, 0, none⟩) (Nat.lt_succ_self g)]; exact HW1.out.1); have hfg : w2.frozen? ⟨g, 0, none⟩ = false := (by have hb := (Below.refl (g + 1) w1).grown HG2.out (by omega) (fun k hk => (World.ownsRow.lt HW1.out.2.1 k hk).1); rw [hb.frozen (p := ⟨g, 0, none⟩) (Nat.lt_succ_self g)]; exact HW1.out.2.2.2.2); clear hc0 hf0))
  have HG : Hid (Wr g (w2.setCell ⟨g, 0, none⟩ (.slice A' (L + s.size) c')) (.slice A' (L + s.size) c') ((xs ++ enc s.size) ++ ofStr s) ∧ Below g w1 (w2.setCell ⟨g, 0, none⟩ (.slice A' (L + s.size) c'))) := Lib.hid (by
    have hb := (Below.refl (g + 1) w1).grown HG2.out (by omega) (fun k hk => (World.ownsRow.lt HW1.out.2.1 k hk).1)
    refine HW1.out.grow hb ?_
    unfold OwnN
    rw [List.map_append, HSC.out, List.length_append, HL.out, HSL.out]
    exact HOW2.out)
  go_end0
  refine ⟨rfl, ⟨A', c', ?_⟩, HB1.out.trans HG.out.2⟩
  rw [List.length_append, HL.out, HSL.out]
  exact HG.out.1
end Go.Proofs.YtdabdkedgigjdaaGreat
namespace Go.Proofs.YtdabdkedgigjdaaGreat
open Go.RowKit
/-- Bytes appended; and what stays. -/
theorem wpList_app2 {ops : Array Oper} {rest : List Oper} {o : Oper} {a : Act} {w : World} {Q : Exit → Act → World → Prop} (hgd : o.guard = none) (s x : Operand)
    (ho : o.op = .call { callee := .builtin .append, args := #[s, x], argTypes := #[49, 49] })
    (base : Nat) (v : Value) (xs ys : List B8) (vx : Value) (hs : a.eval s = v) (hx : a.eval x = vx) (hown : OwnN w base v xs) (hy : BytesIn w vx ys)
    (hlen : xs.length + ys.length ≤ 140737488351232) (hbase : base ≤ w.heap.size)
    (h : ∀ A c w', OwnN w' base (.slice A (xs.length + ys.length) c) (xs ++ ys) → Below base w w' → (∀ b, b < w.heap.size → v.ownBlock ≠ some b → w'.heap[b]? = w.heap[b]? ∧ (Value.slice A (xs.length + ys.length) c).ownBlock ≠ some b) → wpList Tryz.prog ops Q rest (a.put o.dst (.slice A (xs.length + ys.length) c)) w') : wpList Tryz.prog ops Q (o :: rest) a w := by
  obtain ⟨i0, hi, hz0, hz1, hz2⟩ := info_parts info5
  have hlate : ∀ v' w', w'.ownsRow base 5 1 v' (xs.length + ys.length) (xs.map bv ++ ys.map bv) → w.grownBy w' v.ownBlock → (v'.ownBlock = v.ownBlock ∨ v'.ownBlock = some w.heap.size) → wpList Tryz.prog ops Q rest (a.put o.dst v') w' := by
    intro v' w' h2 h3 h5
    have hst : ∀ b, b < w.heap.size → v.ownBlock ≠ some b → w'.heap[b]? = w.heap[b]? ∧ v'.ownBlock ≠ some b := fun b h6 h7 => ⟨h3.block b h6 (fun e => h7 e.symm), by rcases h5 with h5 | h5 <;> rw [h5]; exact h7; exact fun h => by cases h; omega⟩
    have hb : Below base w w' := (Below.refl base w).grown h3 hbase (fun k hk => (World.ownsRow.lt hown k hk).1)
    have h2' : OwnN w' base v' (xs ++ ys) := by unfold OwnN; rw [List.map_append, List.length_append]; exact h2
    obtain ⟨A, c, rfl⟩ := h2'.form
    rw [List.length_append] at h2' hst ⊢
    exact h A c w' h2' hb hst
  rcases hy with ⟨rfl, A, c, rfl, hA⟩ | ⟨b, off, c, rfl, _, hm, hc⟩
  · cases A with
    | some ad =>
      refine wpList_append_own_at _ hgd s x 49 ho base 5 i0 (.int .u8 0) 1 1 Tryz.underlying49 hi hz0 hz1 hz2 rfl (by decide) _ xs.length (xs.map bv) hs hown ad 0 c [] hx rfl (fun j u hu => by simp at hu) (fun u hu => by simp at hu) (by unfold maxLen; simp at hlen; omega) (by simp at hlen; omega) hbase ?_
      intro v' w' h2 h3 _ h5
      exact hlate v' w' h2 h3 h5
    | none =>
      obtain rfl := hA rfl
      refine wpList_append_own_none hgd s x 49 ho base 5 i0 1 Tryz.underlying49 hi _ xs.length (xs.map bv) hs hown hx ?_
      exact hlate v w (by have := hown; unfold OwnN at this; simpa using this) ⟨rfl, rfl, rfl, Nat.le_refl _, fun _ _ _ => rfl⟩ (.inl rfl)
  · refine wpList_append_own_at _ hgd s x 49 ho base 5 i0 (.int .u8 0) 1 1 Tryz.underlying49 hi hz0 hz1 hz2 rfl (by decide) _ xs.length (xs.map bv) hs hown ⟨b, off, none⟩ ys.length c (ys.map bv) hx (by simp) ?_ ?_ (by unfold maxLen; omega) (by omega) hbase ?_
    · intro j u hu
      have hj : j < ys.length := by
        by_cases hl : j < ys.length
        · exact hl
        · rw [List.getElem?_eq_none (by simp; omega)] at hu; cases hu
      have e : (⟨b, off, none⟩ : Addr).add j = ⟨b, off + j, none⟩ := by unfold Addr.add; split <;> simp_all
      rw [e, hc j hj, ← hu]
      simp [hj, bv]
    · intro u hu
      obtain ⟨y, _, rfl⟩ := List.mem_map.1 hu
      rfl
    · intro v' w' h2 h3 _ h5
      exact hlate v' w' h2 h3 h5
/-- The writer of bytes at block g, spoilt or not; and a block b that it does not touch. -/
def Ws (sp : Bool) (P : Nat → Prop) (g : Nat) (w : World) (v : Value) (xs : List B8) : Prop :=
  (w.cell? ⟨g, 0, none⟩ = some v ∧ OwnN w (g + 1) v xs ∧ w.cell? ⟨g, 1, none⟩ = some (.bool sp) ∧ w.cell? ⟨g, 2, none⟩ = some (.bool true) ∧ w.frozen? ⟨g, 0, none⟩ = false ∧ w.frozen? ⟨g, 1, none⟩ = false) ∧ ∀ b, P b → b ≠ g ∧ b < w.heap.size ∧ v.ownBlock ≠ some b
def WsPost (sp : Bool) (P : Nat → Prop) (g : Nat) (w : World) (res : Value) (ys : List B8) (e : Ending) (w' : World) : Prop :=
  e = .returned res ∧ (∃ A c, Ws sp P g w' (.slice A ys.length c) ys) ∧ Below g w w' ∧ ∀ b, P b → w'.heap[b]? = w.heap[b]?
theorem Ws.form {sp : Bool} {P : Nat → Prop} {g : Nat} {w : World} {v : Value} {xs : List B8} (h : Ws sp P g w v xs) : ∃ A c, v = .slice A xs.length c := h.1.2.1.form
theorem Ws.size {sp : Bool} {P : Nat → Prop} {g : Nat} {w : World} {v : Value} {xs : List B8} (h : Ws sp P g w v xs) : g < w.heap.size := World.block_lt_of_cell? _ _ h.1.1
theorem Ws.grow {sp : Bool} {P : Nat → Prop} {g : Nat} {w w' : World} {v : Value} {xs ys : List B8} {A : Option Addr} {n c : Nat} (h : Ws sp P g w v xs) (hb : Below (g + 1) w w') (ho : OwnN w' (g + 1) (.slice A n c) ys) (hs : ∀ b, P b → w'.heap[b]? = w.heap[b]? ∧ (Value.slice A n c).ownBlock ≠ some b) :
    Ws sp P g (w'.setCell ⟨g, 0, none⟩ (.slice A n c)) (.slice A n c) ys ∧ Below g w (w'.setCell ⟨g, 0, none⟩ (.slice A n c)) ∧ ∀ b, P b → (w'.setCell ⟨g, 0, none⟩ (.slice A n c)).heap[b]? = w.heap[b]? := by
  have c0 : w'.cell? ⟨g, 0, none⟩ = some v := by rw [hb.cell (p := ⟨g, 0, none⟩) (Nat.lt_succ_self g)]; exact h.1.1
  have c1 : w'.cell? ⟨g, 1, none⟩ = some (.bool sp) := by rw [hb.cell (p := ⟨g, 1, none⟩) (Nat.lt_succ_self g)]; exact h.1.2.2.1
  have c2 : w'.cell? ⟨g, 2, none⟩ = some (.bool true) := by rw [hb.cell (p := ⟨g, 2, none⟩) (Nat.lt_succ_self g)]; exact h.1.2.2.2.1
  have f0 : w'.frozen? ⟨g, 0, none⟩ = false := by rw [hb.frozen (p := ⟨g, 0, none⟩) (Nat.lt_succ_self g)]; exact h.1.2.2.2.2.1
  have f1 : w'.frozen? ⟨g, 1, none⟩ = false := by rw [hb.frozen (p := ⟨g, 1, none⟩) (Nat.lt_succ_self g)]; exact h.1.2.2.2.2.2
  have hz : w.heap.size ≤ w'.heap.size := hb.size
  refine ⟨⟨⟨by go_simp, ?_, by go_simp, by go_simp, by go_simp, by go_simp⟩, fun b hb => ⟨(h.2 b hb).1, by simp [World.setCell]; exact Nat.lt_of_lt_of_le (h.2 b hb).2.1 hz, (hs b hb).2⟩⟩, (hb.mono (Nat.le_succ g)).setCell (Nat.le_refl _) _, fun b hb => by rw [Below.heap_setCell _ _ _ _ (h.2 b hb).1]; exact (hs b hb).1⟩
  refine World.ownsRow.kept (row := some g) ho ⟨rfl, rfl, rfl, by simp [World.setCell], fun k _ hk => heap_setCell_other w' ⟨g, 0, none⟩ k _ (fun e => hk (by simp [e]))⟩ ?_
  rcases ho.2 with ⟨h1, _⟩ | ⟨g', cap', cur, h1, hg', _⟩
  · exact .inl (by rw [h1]; rfl)
  · refine .inr (by rw [h1]; simp [Value.ownBlock]; omega)
end Go.Proofs.YtdabdkedgigjdaaGreat
namespace Go.Proofs.YtdabdkedgigjdaaGreat
open Go.RowKit
theorem own_eq (A : Option Addr) (p q p' q' : Nat) : (Value.slice A p q).ownBlock = (Value.slice A p' q').ownBlock := by cases A <;> rfl
set_option maxRecDepth 100000 in
set_option maxHeartbeats 1000000 in
theorem number_s (sp : Bool) (P : Nat → Prop) (g : Nat) (v : Value) (xs : List B8) (n : Nat) (W : World) (hw : Ws sp P g W v xs) (hn : n ≤ 4611686018427387903) (hx : xs.length ≤ 140737488350000) :
    Calls Tryz.prog 114 #[.pointer (some ⟨g, 0, none⟩), .int .i64 (n : Int)] W (WsPost sp P g W (.tuple #[]) (xs ++ enc n)) := by
  have HW := Lib.hid hw
  have HE : Hid (enc n = [] ++ encF 9 n) := Lib.hid rfl
  have hn0 : decide ((n : Int) < 0) = false := decide_eq_false (by omega)
  have hn1 : decide ((4611686018427387903 : Int) < (n : Int)) = false := decide_eq_false (by omega)
  clear hw
  go_enter Tryz.func114, Tryz.ntmps114
  have HN : Hid (n < 128 ^ 10) := Lib.hid (by omega)
  go_wp2_with fail
  clear hn0 hn1
  go_loopw [1] (fun i wr => ∃ (m f : Nat) (pre : List B8), i = .int .i64 m ∧ m ≤ 4611686018427387903 ∧ m < 128 ^ (f + 1) ∧ enc n = pre ++ encF f m ∧ (∃ A c, Ws sp P g wr (.slice A (xs ++ pre).length c) (xs ++ pre)) ∧ Below g W wr ∧ ∀ b, P b → wr.heap[b]? = W.heap[b]?) (fun i _ => (intOf i).toNat)
  case atStart =>
    obtain ⟨A, c, rfl⟩ := HW.out.form
    exact ⟨n, 9, [], rfl, hn, HN.out, HE.out, ⟨A, c, by simpa using HW.out⟩, Below.refl _ _, fun _ _ => rfl⟩
  case round =>
    obtain ⟨m, f, pre, rfl, hm, hmf, hpre, ⟨A, c, hwr⟩, hbe, hkb⟩ := hrel
    have hL0 : ∃ L, (xs ++ pre).length = L := ⟨_, rfl⟩
    obtain ⟨L, hL⟩ := hL0
    rw [hL] at hwr
    have HLL := Lib.hid hL
    have HPL : Hid ((xs ++ pre).length ≤ 140737488350010) := Lib.hid (by
      have h1 := congrArg List.length hpre
      have h2 := enc_len n
      rw [List.length_append] at h1 ⊢; omega)
    clear hL
    have hc0 := hwr.1.1
    have hsz := hwr.size
    have HWR := Lib.hid hwr
    have HBE := Lib.hid hbe
    have HKB := Lib.hid hkb
    clear hkb
    have HPRE := Lib.hid hpre
    clear hwr hbe hpre
    by_cases hlt : 127 < m
    · have hf : ∃ f', f = f' + 1 := by
        cases f with
        | zero => simp at hmf; omega
        | succ f' => exact ⟨f', rfl⟩
      obtain ⟨f', rfl⟩ := hf
      have HEN := Lib.hid (encF_more f' m hlt)
      have HMF : Hid (m / 128 < 128 ^ (f' + 1)) := Lib.hid (by
        rw [Nat.pow_succ] at hmf
        exact Nat.div_lt_of_lt_mul (by rw [Nat.mul_comm]; exact hmf))
      clear hmf
      have hd1 : decide ((127 : Int) < (m : Int)) = true := decide_eq_true (by omega)
      have h1 := and127 m hm
      have h2 : bits .or .i64 ((m : Int) % 128) 128 = ub (BitVec.ofNat 8 (m % 128 + 128)) := by have := or128 m; rwa [show (((m % 128 : Nat)) : Int) = (m : Int) % 128 from by simp] at this
      have HNEW : Hid (BytesIn (wr.alloc (.cells #[.int .u8 (ub (BitVec.ofNat 8 (m % 128 + 128)))] 5)) (.slice (some ⟨wr.heap.size, 0, none⟩) 1 1) [BitVec.ofNat 8 (m % 128 + 128)]) := Lib.hid (bytes_new wr _ _ 5 _ _ _ 1 rfl rfl (by decide) (by simp) rfl)
      generalize BitVec.ofNat 8 (m % 128 + 128) = y at *
      have hy2 : ub y % 256 = ub y := by have := ub_lo y; have := ub_hi y; omega
      have HOKA : Hid (Ok wr (wr.alloc (.cells #[.int .u8 (ub y)] 5))) := Lib.hid ((Ok.refl wr).alloc _)
      have HOW : Hid (OwnN (wr.alloc (.cells #[.int .u8 (ub y)] 5)) (g + 1) (.slice A L c) (xs ++ pre)) := Lib.hid (World.ownsRow.alloc HWR.out.1.2.1 _)
      have HCG : Hid ((wr.alloc (.cells #[.int .u8 (ub y)] 5)).cell? ⟨g, 0, none⟩ = some (.slice A L c)) := Lib.hid (HOKA.out.cell hc0)
      have HFG : Hid ((wr.alloc (.cells #[.int .u8 (ub y)] 5)).frozen? ⟨g, 0, none⟩ = false) := Lib.hid (by rw [Below.frozen HOKA.out (p := ⟨g, 0, none⟩) hsz]; exact HWR.out.1.2.2.2.2.1)
      go_wp2_with (at_builtin; go_must (refine wpList_app2 rfl (.tmp 19) (.tmp 24) rfl (g + 1) (.slice A L c) (xs ++ pre) [y] (.slice (some ⟨wr.heap.size, 0, none⟩) 1 1) rfl rfl HOW.out HNEW.out (by have := HPL.out; have := HLL.out; simp only [List.length_singleton]; omega) (by rw [World.size_alloc]; omega) ?_; intro A' c' w2 hown2 hbel2 hst2; have HST2 := Lib.hid (fun b (hb : P b) => hst2 b (by rw [World.size_alloc]; have := (HWR.out.2 b hb).2.1; omega) (HWR.out.2 b hb).2.2); clear hst2; have HOWN2 := Lib.hid hown2; have HBEL2 := Lib.hid hbel2; clear hown2 hbel2; rw [HLL.out]; have hcg : w2.cell? ⟨g, 0, none⟩ = some (.slice A L c) := (by rw [HBEL2.out.cell (p := ⟨g, 0, none⟩) (Nat.lt_succ_self g)]; exact HCG.out); have hfg : w2.frozen? ⟨g, 0, none⟩ = false := (by rw [HBEL2.out.frozen (p := ⟨g, 0, none⟩) (Nat.lt_succ_self g)]; exact HFG.out)))
      have HG : Hid (Ws sp P g (w2.setCell ⟨g, 0, none⟩ (.slice A' (L + 1) c')) (.slice A' (L + 1) c') ((xs ++ pre) ++ [y]) ∧ Below g wr (w2.setCell ⟨g, 0, none⟩ (.slice A' (L + 1) c')) ∧ ∀ b, P b → (w2.setCell ⟨g, 0, none⟩ (.slice A' (L + 1) c')).heap[b]? = wr.heap[b]?) := Lib.hid (by
        have h3 := HOWN2.out
        rw [HLL.out] at h3
        have hbb : Below (g + 1) wr w2 := (Below.mono HOKA.out (show g + 1 ≤ wr.heap.size from hsz)).trans HBEL2.out
        exact HWR.out.grow hbb h3 fun b hb => ⟨(HST2.out b hb).1.trans (HOKA.out.block b (HWR.out.2 b hb).2.1), by rw [own_eq _ _ _ ((xs ++ pre).length + [y].length) c']; exact (HST2.out b hb).2⟩)
      refine ⟨⟨m / 128, f', pre ++ [y], by go_num, by omega, HMF.out, ?_, ⟨A', c', ?_⟩, HBE.out.trans HG.out.2.1, fun b hb => (HG.out.2.2 b hb).trans (HKB.out b hb)⟩, by simp [intOf]; omega⟩
      · rw [HPRE.out, HEN.out]; simp
      · have h4 := HG.out.1
        rw [← List.append_assoc, List.length_append, HLL.out]
        exact h4
    · have HEN := Lib.hid (encF_last f m hlt)
      clear hmf
      have hd1 : decide ((127 : Int) < (m : Int)) = false := decide_eq_false (by omega)
      have HY : Hid ((m : Int) = ub (BitVec.ofNat 8 m)) := Lib.hid (by rw [ub, BitVec.toNat_ofNat]; omega)
      have HNEW : Hid (BytesIn (wr.alloc (.cells #[.int .u8 (m : Int)] 5)) (.slice (some ⟨wr.heap.size, 0, none⟩) 1 1) [BitVec.ofNat 8 m]) := Lib.hid (bytes_new wr _ _ 5 _ _ _ 1 rfl rfl (by decide) (by simp) (by simp [HY.out.symm]))
      generalize BitVec.ofNat 8 m = y at *
      have HOKA : Hid (Ok wr (wr.alloc (.cells #[.int .u8 (m : Int)] 5))) := Lib.hid ((Ok.refl wr).alloc _)
      have HOW : Hid (OwnN (wr.alloc (.cells #[.int .u8 (m : Int)] 5)) (g + 1) (.slice A L c) (xs ++ pre)) := Lib.hid (World.ownsRow.alloc HWR.out.1.2.1 _)
      have HCG : Hid ((wr.alloc (.cells #[.int .u8 (m : Int)] 5)).cell? ⟨g, 0, none⟩ = some (.slice A L c)) := Lib.hid (HOKA.out.cell hc0)
      have HFG : Hid ((wr.alloc (.cells #[.int .u8 (m : Int)] 5)).frozen? ⟨g, 0, none⟩ = false) := Lib.hid (by rw [Below.frozen HOKA.out (p := ⟨g, 0, none⟩) hsz]; exact HWR.out.1.2.2.2.2.1)
      go_wp2_with (at_builtin; go_must (refine wpList_app2 rfl (.tmp 34) (.tmp 37) rfl (g + 1) (.slice A L c) (xs ++ pre) [y] (.slice (some ⟨wr.heap.size, 0, none⟩) 1 1) rfl rfl HOW.out HNEW.out (by have := HPL.out; have := HLL.out; simp only [List.length_singleton]; omega) (by rw [World.size_alloc]; omega) ?_; intro A' c' w2 hown2 hbel2 hst2; have HST2 := Lib.hid (fun b (hb : P b) => hst2 b (by rw [World.size_alloc]; have := (HWR.out.2 b hb).2.1; omega) (HWR.out.2 b hb).2.2); clear hst2; have HOWN2 := Lib.hid hown2; have HBEL2 := Lib.hid hbel2; clear hown2 hbel2; rw [HLL.out]; have hcg : w2.cell? ⟨g, 0, none⟩ = some (.slice A L c) := (by rw [HBEL2.out.cell (p := ⟨g, 0, none⟩) (Nat.lt_succ_self g)]; exact HCG.out); have hfg : w2.frozen? ⟨g, 0, none⟩ = false := (by rw [HBEL2.out.frozen (p := ⟨g, 0, none⟩) (Nat.lt_succ_self g)]; exact HFG.out)))
      have HG : Hid (Ws sp P g (w2.setCell ⟨g, 0, none⟩ (.slice A' (L + 1) c')) (.slice A' (L + 1) c') ((xs ++ pre) ++ [y]) ∧ Below g wr (w2.setCell ⟨g, 0, none⟩ (.slice A' (L + 1) c')) ∧ ∀ b, P b → (w2.setCell ⟨g, 0, none⟩ (.slice A' (L + 1) c')).heap[b]? = wr.heap[b]?) := Lib.hid (by
        have h3 := HOWN2.out
        rw [HLL.out] at h3
        have hbb : Below (g + 1) wr w2 := (Below.mono HOKA.out (show g + 1 ≤ wr.heap.size from hsz)).trans HBEL2.out
        exact HWR.out.grow hbb h3 fun b hb => ⟨(HST2.out b hb).1.trans (HOKA.out.block b (HWR.out.2 b hb).2.1), by rw [own_eq _ _ _ ((xs ++ pre).length + [y].length) c']; exact (HST2.out b hb).2⟩)
      go_end0
      refine ⟨rfl, ⟨A', c', ?_⟩, HBE.out.trans HG.out.2.1, fun b hb => (HG.out.2.2 b hb).trans (HKB.out b hb)⟩
      rw [HPRE.out, HEN.out, ← List.append_assoc, List.length_append, HLL.out]
      exact HG.out.1

set_option maxHeartbeats 400000 in
/-- A number that is none spoils the writer. -/
theorem number_bad (sp : Bool) (P : Nat → Prop) (g : Nat) (v : Value) (xs : List B8) (n : Int) (W : World) (hw : Ws sp P g W v xs) (hn : n < 0 ∨ 4611686018427387903 < n) :
    Calls Tryz.prog 114 #[.pointer (some ⟨g, 0, none⟩), .int .i64 n] W (WsPost true P g W (.tuple #[]) xs) := by
  obtain ⟨A, c, rfl⟩ := hw.form
  have hz := hw.size
  obtain ⟨⟨c0, hown, c1, c2, f0, f1⟩, hb⟩ := hw
  have HG : Hid (WsPost true P g W (.tuple #[]) xs (.returned (.tuple #[])) (W.setCell ⟨g, 1, none⟩ (.bool true))) := Lib.hid (by
    refine ⟨rfl, ⟨A, c, ⟨by go_simp, ?_, by go_simp, by go_simp, by go_simp, by go_simp⟩, fun b k => ⟨(hb b k).1, by simp [World.setCell]; exact (hb b k).2.1, (hb b k).2.2⟩⟩, (Below.refl g W).setCell (Nat.le_refl _) _, fun b k => Below.heap_setCell _ _ _ _ (hb b k).1⟩
    refine World.ownsRow.kept (row := some g) hown ⟨rfl, rfl, rfl, by simp [World.setCell], fun k _ hk => heap_setCell_other W ⟨g, 1, none⟩ k _ (fun e => hk (by simp [e]))⟩ ?_
    rcases hown.2 with ⟨h1, _⟩ | ⟨g', cap', cur, h1, hg', _⟩
    · exact .inl (by rw [h1]; rfl)
    · refine .inr (by rw [h1]; simp [Value.ownBlock]; omega))
  clear hown c2 hb f0 c0
  rcases hn with hn | hn
  · have hd : decide (n < 0) = true := decide_eq_true hn
    go_enter Tryz.func114, Tryz.ntmps114
    go_wp2_with fail
    go_end0
    exact HG.out
  · have hd : decide (n < 0) = false := decide_eq_false (by omega)
    have hd1 : decide ((4611686018427387903 : Int) < n) = true := decide_eq_true hn
    go_enter Tryz.func114, Tryz.ntmps114
    go_wp2_with fail
    go_end0
    exact HG.out
end Go.Proofs.YtdabdkedgigjdaaGreat
namespace Go.Proofs.YtdabdkedgigjdaaGreat
open Go.RowKit
def badN (n : Int) : Bool := decide (n < 0) || decide (4611686018427387903 < n)
def encI (n : Int) : List B8 := if badN n then [] else enc n.toNat
def encsI (l : List Int) : List B8 := (l.map encI).flatten
theorem encI_len (n : Int) : (encI n).length ≤ 10 := by
  unfold encI
  split
  · simp
  · exact enc_len _
theorem encsI_len (l : List Int) : (encsI l).length ≤ 10 * l.length := by
  induction l with
  | nil => simp [encsI]
  | cons a l ih =>
    have := encI_len a
    simp only [encsI, List.map_cons, List.flatten_cons, List.length_append, List.length_cons] at *
    omega
theorem encsI_take (l : List Int) (k : Nat) (h : k < l.length) : encsI (l.take (k + 1)) = encsI (l.take k) ++ encI (l.getD k 0) := by
  rw [List.take_succ_eq_append_getElem h, encsI, encsI, List.map_append, List.flatten_append]
  congr 1
  simp [h]
theorem bad_take (l : List Int) (k : Nat) (h : k < l.length) : (l.take (k + 1)).any badN = ((l.take k).any badN || badN (l.getD k 0)) := by
  rw [List.take_succ_eq_append_getElem h, List.any_append]
  congr 1
  simp [h]
theorem number_any (sp : Bool) (P : Nat → Prop) (g : Nat) (v : Value) (xs : List B8) (n : Int) (W : World) (hw : Ws sp P g W v xs) (hx : xs.length ≤ 140737488350000) :
    Calls Tryz.prog 114 #[.pointer (some ⟨g, 0, none⟩), .int .i64 n] W (WsPost (sp || badN n) P g W (.tuple #[]) (xs ++ encI n)) := by
  by_cases h : badN n = true
  · have h2 : n < 0 ∨ 4611686018427387903 < n := by unfold badN at h; simpa using h
    rw [encI, if_pos h, h, Bool.or_true, List.append_nil]
    exact number_bad sp P g v xs n W hw h2
  · have h1 : badN n = false := by simpa using h
    have h2 : ¬ n < 0 ∧ ¬ 4611686018427387903 < n := by unfold badN at h1; simpa using h1
    obtain ⟨m, rfl⟩ : ∃ m : Nat, n = m := ⟨n.toNat, by omega⟩
    rw [encI, if_neg h, h1, Bool.or_false]
    exact number_s sp P g v xs m W hw (by omega) hx
set_option maxHeartbeats 400000 in
theorem none_s (sp : Bool) (P : Nat → Prop) (g : Nat) (v : Value) (xs : List B8) (W : World) (hw : Ws sp P g W v xs) :
    Calls Tryz.prog 88 #[.pointer (some ⟨g, 0, none⟩)] W fun e w' => e = .returned (.bool false) ∧ W = w' := by
  have hc := hw.1.2.2.2.1
  clear hw
  go_enter Tryz.func88, Tryz.ntmps88
  go_wp2
  go_ret
  exact ⟨rfl, rfl⟩
def Wsx (sp : Bool) (P : Nat → Prop) (g : Nat) (w : World) (xs : List B8) : Prop := ∃ A c, Ws sp P g w (.slice A xs.length c) xs
theorem Wsx.of {sp : Bool} {P : Nat → Prop} {g : Nat} {w : World} {v : Value} {xs : List B8} (h : Ws sp P g w v xs) : Wsx sp P g w xs := by
  obtain ⟨A, c, rfl⟩ := h.form
  exact ⟨A, c, h⟩

set_option maxRecDepth 100000 in
set_option maxHeartbeats 1000000 in
theorem numbers_s (sp : Bool) (P : Nat → Prop) (b : Nat) (hb : P b) (g : Nat) (v : Value) (xs : List B8) (W : World) (hw : Ws sp P g W v xs) (l : List Int) (o n c : Nat) (hn : l.length = n) (hnm : n ≤ 1000000) (hxs : xs.length ≤ 100000000)
    (hcell : ∀ k, k < n → W.cell? ⟨b, o + k, none⟩ = some (.int .i64 (l.getD k 0))) :
    Calls Tryz.prog 86 #[.pointer (some ⟨g, 0, none⟩), .slice (some ⟨b, o, none⟩) n c] W (WsPost (sp || l.any badN) P g W (.pointer (some ⟨g, 0, none⟩)) (xs ++ encsI l)) := by
  have HW := Lib.hid hw
  have HC := Lib.hid hcell
  have HN := Lib.hid hn
  clear hw hcell hn
  go_enter Tryz.func86, Tryz.ntmps86
  go_wp2_with fail
  refine (none_s sp P g v xs _ HW.out).mono ?_
  rintro e w1 ⟨rfl, rfl⟩
  go_wp2_with fail
  go_loopw [12] (fun i wr => ∃ k : Nat, k ≤ n ∧ i = .int .i64 k ∧ Wsx (sp || (l.take k).any badN) P g wr (xs ++ encsI (l.take k)) ∧ Below g W wr ∧ ∀ b, P b → wr.heap[b]? = W.heap[b]?) (fun i _ => n - (intOf i).toNat)
  case atStart => exact ⟨0, Nat.zero_le _, rfl, by simpa [encsI] using Wsx.of HW.out, Below.refl _ _, fun _ _ => rfl⟩
  case round =>
    obtain ⟨k, hk, rfl, ⟨A', c', hwr⟩, hbe, hkb⟩ := hrel
    by_cases hlt : k < n
    · have hc' : wr.cell? ⟨b, o + k, none⟩ = some (.int .i64 (l.getD k 0)) := by
        rw [World.cell?_of_block (a := ⟨b, o + k, none⟩) (hkb b hb)]; exact HC.out k hlt
      have HE := Lib.hid (encsI_take l k (by rw [HN.out]; exact hlt))
      have HBD := Lib.hid (bad_take l k (by rw [HN.out]; exact hlt))
      have HL : Hid ((encsI (l.take k)).length ≤ 10 * k) := Lib.hid (by have := encsI_len (l.take k); rw [List.length_take] at this; omega)
      have HWR := Lib.hid hwr
      have HBE := Lib.hid hbe
      have HKB := Lib.hid hkb
      clear hwr hbe hkb
      generalize l.getD k 0 = m at *
      go_wp2_with fail
      refine (number_any _ P g _ (xs ++ encsI (l.take k)) m _ HWR.out (by have := HL.out; rw [List.length_append]; omega)).mono ?_
      rintro e w2 ⟨rfl, hwx, hb2, hk2⟩
      have HWX := Lib.hid hwx
      have HB2 := Lib.hid (And.intro hb2 hk2)
      clear hwx hb2 hk2
      go_wp2_with fail
      go_roundw
      case rel => exact ⟨k + 1, by omega, by go_num, by rw [HE.out, HBD.out, ← List.append_assoc, ← Bool.or_assoc]; exact HWX.out, HBE.out.trans HB2.out.1, fun b hb => (HB2.out.2 b hb).trans (HKB.out b hb)⟩
      case measure => simp [intOf]; omega
    · have hke : k = n := by omega
      subst hke
      have HWR : Hid (Wsx (sp || l.any badN) P g wr (xs ++ encsI l)) := Lib.hid (by
        have := (⟨A', c', hwr⟩ : Wsx (sp || (l.take k).any badN) P g wr (xs ++ encsI (l.take k)))
        rwa [List.take_of_length_le (by rw [HN.out]; exact Nat.le_refl _)] at this)
      have HBE := Lib.hid (And.intro hbe hkb)
      clear hwr hbe hkb
      go_wp2_with fail
      go_ret
      exact ⟨rfl, HWR.out, HBE.out.1, HBE.out.2⟩
end Go.Proofs.YtdabdkedgigjdaaGreat
namespace Go.Proofs.YtdabdkedgigjdaaGreat
open Go.RowKit
theorem own_not {w : World} {b B n : Nat} {v : Value} {xs : List Value} (h : (v = .slice none 0 0 ∧ n = 0) ∨ ∃ g cap cur, v = .slice (some ⟨g, 0, none⟩) n cap ∧ B ≤ g ∧ w.heap[g]? = some (.cells cur 5 (0, 0)) ∧ n ≤ cap ∧ cap ≤ maxLen ∧ cur.size = cap * 1 ∧ cur.toList.take (n * 1) = xs) (hty : ∀ cs fz, w.heap[b]? ≠ some (.cells cs 5 fz)) : v.ownBlock ≠ some b := by
  rcases h with ⟨rfl, _⟩ | ⟨g, cap, cur, rfl, _, h8, _⟩
  · intro e; cases e
  · intro e
    have e2 : g = b := by simpa [Value.ownBlock] using e
    subst e2
    exact hty _ _ h8
set_option maxRecDepth 100000 in
set_option maxHeartbeats 1000000 in
theorem text_s (sp : Bool) (P : Nat → Prop) (g : Nat) (v : Value) (xs : List B8) (s : ByteArray) (W : World) (hw : Ws sp P g W v xs) (hty : ∀ b, P b → ∀ cs fz, W.heap[b]? ≠ some (.cells cs 5 fz)) (hs : s.size ≤ 1000000000) (hx : xs.length ≤ 140000000000000) :
    Calls Tryz.prog 115 #[.pointer (some ⟨g, 0, none⟩), .string s] W (WsPost sp P g W (.tuple #[]) (xs ++ enc s.size ++ ofStr s)) := by
  have HW := Lib.hid hw
  have HTY := Lib.hid hty
  clear hw hty
  obtain ⟨i0, hi, hz0, hz1, hz2⟩ := info_parts info5
  have HI := Lib.hid hi
  have HZ0 := Lib.hid hz0
  have HZ1 := Lib.hid hz1
  have HZ2 := Lib.hid hz2
  clear hi hz0 hz1 hz2
  have HEL := Lib.hid (enc_len s.size)
  have HSL := Lib.hid (ofStr_len s)
  have HSC := Lib.hid (ofStr_cells s)
  have HN : Hid (s.size = s.size) := Lib.hid rfl
  go_enter Tryz.func115, Tryz.ntmps115
  go_wp2_with fail
  refine (number_s sp P g v xs s.size _ HW.out (by omega) (by omega)).mono ?_
  rintro e w1 ⟨rfl, ⟨A, c, hw1⟩, hb1, hk1⟩
  have hc0 := hw1.1.1
  have hf0 := hw1.1.2.2.2.2.1
  have hsz := hw1.size
  have HW1 := Lib.hid hw1
  have HB1 := Lib.hid hb1
  have HK1 := Lib.hid hk1
  clear hk1
  clear hw1 hb1
  generalize hL : (xs ++ enc s.size).length = L at *
  have HL := Lib.hid hL
  have HLL : Hid (L ≤ 140000000000010) := Lib.hid (by rw [← hL, List.length_append]; have := HEL.out; omega)
  clear hL
  go_wp2_with (at_builtin; go_must (refine Lib.wpList_append_own_string _ rfl (.tmp 12) (.tmp 13) 49 9 rfl (g + 1) 5 i0 Tryz.underlying49 Tryz.underlying9 HI.out HZ0.out HZ1.out HZ2.out (.slice A L c) L ((xs ++ enc s.size).map bv) rfl (by have := HW1.out.1.2.1; unfold OwnN at this; rwa [HL.out] at this) s rfl (by unfold maxLen; have := HN.out; have := HLL.out; omega) (by have := HN.out; have := HLL.out; omega) (by omega) ?_; intro v' w2 h2 h3 _; have HG2 := Lib.hid h3; have HOW2 := Lib.hid h2; have HST : Hid (∀ b, P b → w2.heap[b]? = w1.heap[b]? ∧ v'.ownBlock ≠ some b) := Lib.hid (fun b hb => ⟨h3.block b (HW1.out.2 b hb).2.1 (fun e => (HW1.out.2 b hb).2.2 e.symm), fun e => own_not h2.2 (fun cs fz e2 => HTY.out b hb cs fz (by rw [← HK1.out b hb, ← h3.block b (HW1.out.2 b hb).2.1 (fun e => (HW1.out.2 b hb).2.2 e.symm)]; exact e2)) e⟩); clear h2 h3; obtain ⟨A', c', hv'⟩ : ∃ A' c', v' = .slice A' (L + s.size) c' := (by have h2 := HOW2.out; rcases h2.2 with ⟨rfl, h5⟩ | ⟨g', cap', cur, rfl, _⟩; exact ⟨none, 0, by rw [show L + s.size = 0 by omega]⟩; exact ⟨_, _, rfl⟩); subst hv'; have hcg : w2.cell? ⟨g, 0, none⟩ = some (.slice A L c) := (by have hb := (Below.refl (g + 1) w1).grown HG2.out (by omega) (fun k hk => (World.ownsRow.lt HW1.out.1.2.1 k hk).1); rw [hb.cell (p := ⟨g, 0, none⟩) (Nat.lt_succ_self g)]; exact HW1.out.1.1); have hfg : w2.frozen? ⟨g, 0, none⟩ = false := (by have hb := (Below.refl (g + 1) w1).grown HG2.out (by omega) (fun k hk => (World.ownsRow.lt HW1.out.1.2.1 k hk).1); rw [hb.frozen (p := ⟨g, 0, none⟩) (Nat.lt_succ_self g)]; exact HW1.out.1.2.2.2.2.1); clear hc0 hf0))
  have HG : Hid (Ws sp P g (w2.setCell ⟨g, 0, none⟩ (.slice A' (L + s.size) c')) (.slice A' (L + s.size) c') ((xs ++ enc s.size) ++ ofStr s) ∧ Below g w1 (w2.setCell ⟨g, 0, none⟩ (.slice A' (L + s.size) c')) ∧ ∀ b, P b → (w2.setCell ⟨g, 0, none⟩ (.slice A' (L + s.size) c')).heap[b]? = w1.heap[b]?) := Lib.hid (by
    have hb := (Below.refl (g + 1) w1).grown HG2.out (by omega) (fun k hk => (World.ownsRow.lt HW1.out.1.2.1 k hk).1)
    refine HW1.out.grow hb ?_ HST.out
    unfold OwnN
    rw [List.map_append, HSC.out, List.length_append, HL.out, HSL.out]
    exact HOW2.out)
  go_end0
  refine ⟨rfl, ⟨A', c', ?_⟩, HB1.out.trans HG.out.2.1, fun b hb => (HG.out.2.2 b hb).trans (HK1.out b hb)⟩
  rw [List.length_append, HL.out, HSL.out]
  exact HG.out.1
end Go.Proofs.YtdabdkedgigjdaaGreat
namespace Go.Proofs.YtdabdkedgigjdaaGreat
open Go.RowKit
def encT (s : ByteArray) : List B8 := enc s.size ++ ofStr s
def encsT (l : List ByteArray) : List B8 := (l.map encT).flatten
theorem encT_len (s : ByteArray) : (encT s).length ≤ 10 + s.size := by
  have := enc_len s.size
  unfold encT
  rw [List.length_append, ofStr_len]
  omega
theorem encsT_take (l : List ByteArray) (k : Nat) (h : k < l.length) : encsT (l.take (k + 1)) = encsT (l.take k) ++ encT (l.getD k ⟨#[]⟩) := by
  rw [List.take_succ_eq_append_getElem h, encsT, encsT, List.map_append, List.flatten_append]
  congr 1
  simp [h]
theorem encsT_len (l : List ByteArray) (M : Nat) (h : ∀ s ∈ l, s.size ≤ M) : (encsT l).length ≤ (10 + M) * l.length := by
  induction l with
  | nil => simp [encsT]
  | cons a l ih =>
    have h1 := encT_len a
    have h2 := h a (List.mem_cons_self ..)
    have h3 := ih (fun s hs => h s (List.mem_cons_of_mem _ hs))
    simp only [encsT, List.map_cons, List.flatten_cons, List.length_append, List.length_cons] at *
    rw [Nat.mul_succ]
    omega

set_option maxRecDepth 100000 in
set_option maxHeartbeats 1000000 in
theorem texts_s (sp : Bool) (P : Nat → Prop) (b : Nat) (hb : P b) (g : Nat) (v : Value) (xs : List B8) (W : World) (hw : Ws sp P g W v xs) (hty : ∀ b, P b → ∀ cs fz, W.heap[b]? ≠ some (.cells cs 5 fz)) (l : List ByteArray) (o n c : Nat) (hn : l.length = n) (hnm : n ≤ 10) (hxs : xs.length ≤ 100000000)
    (hsz : ∀ s ∈ l, s.size ≤ 1000000000) (hcell : ∀ k, k < n → W.cell? ⟨b, o + k, none⟩ = some (.string (l.getD k ⟨#[]⟩))) :
    Calls Tryz.prog 87 #[.pointer (some ⟨g, 0, none⟩), .slice (some ⟨b, o, none⟩) n c] W (WsPost sp P g W (.pointer (some ⟨g, 0, none⟩)) (xs ++ encsT l)) := by
  have HW := Lib.hid hw
  have HC := Lib.hid hcell
  have HN := Lib.hid hn
  have HTY := Lib.hid hty
  have HSZ := Lib.hid hsz
  clear hw hcell hn hty hsz
  go_enter Tryz.func87, Tryz.ntmps87
  go_wp2_with fail
  refine (none_s sp P g v xs _ HW.out).mono ?_
  rintro e w1 ⟨rfl, rfl⟩
  go_wp2_with fail
  go_loopw [12] (fun i wr => ∃ k : Nat, k ≤ n ∧ i = .int .i64 k ∧ Wsx sp P g wr (xs ++ encsT (l.take k)) ∧ Below g W wr ∧ ∀ b, P b → wr.heap[b]? = W.heap[b]?) (fun i _ => n - (intOf i).toNat)
  case atStart => exact ⟨0, Nat.zero_le _, rfl, by simpa [encsT] using Wsx.of HW.out, Below.refl _ _, fun _ _ => rfl⟩
  case round =>
    obtain ⟨k, hk, rfl, ⟨A', c', hwr⟩, hbe, hkb⟩ := hrel
    by_cases hlt : k < n
    · have hc' : wr.cell? ⟨b, o + k, none⟩ = some (.string (l.getD k ⟨#[]⟩)) := by
        rw [World.cell?_of_block (a := ⟨b, o + k, none⟩) (hkb b hb)]; exact HC.out k hlt
      have HE := Lib.hid (encsT_take l k (by rw [HN.out]; exact hlt))
      have HL : Hid ((encsT (l.take k)).length ≤ 10000000100) := Lib.hid (by
        have h1 := encsT_len (l.take k) 1000000000 (fun s hs => HSZ.out s (List.mem_of_mem_take hs))
        rw [List.length_take] at h1
        have h2 : min k l.length ≤ 10 := by omega
        have h3 := Nat.mul_le_mul_left (10 + 1000000000) h2
        omega)
      have HM : Hid ((l.getD k ⟨#[]⟩).size ≤ 1000000000) := Lib.hid (HSZ.out _ (by
        have h1 : k < l.length := by rw [HN.out]; exact hlt
        simp [h1]))
      have HWR := Lib.hid hwr
      have HBE := Lib.hid hbe
      have HKB := Lib.hid hkb
      clear hwr hbe hkb
      generalize l.getD k ⟨#[]⟩ = m at *
      go_wp2_with fail
      refine (text_s sp P g _ (xs ++ encsT (l.take k)) m _ HWR.out (fun b hb cs fz => by rw [HKB.out b hb]; exact HTY.out b hb cs fz) HM.out (by have := HL.out; rw [List.length_append]; omega)).mono ?_
      rintro e w2 ⟨rfl, hwx, hb2, hk2⟩
      have HWX := Lib.hid hwx
      have HB2 := Lib.hid (And.intro hb2 hk2)
      clear hwx hb2 hk2
      go_wp2_with fail
      go_roundw
      case rel => exact ⟨k + 1, by omega, by go_num, by rw [HE.out, encT, ← List.append_assoc, ← List.append_assoc]; exact HWX.out, HBE.out.trans HB2.out.1, fun b hb => (HB2.out.2 b hb).trans (HKB.out b hb)⟩
      case measure => simp [intOf]; omega
    · have hke : k = n := by omega
      subst hke
      have HWR : Hid (Wsx sp P g wr (xs ++ encsT l)) := Lib.hid (by
        have := (⟨A', c', hwr⟩ : Wsx sp P g wr (xs ++ encsT (l.take k)))
        rwa [List.take_of_length_le (by rw [HN.out]; exact Nat.le_refl _)] at this)
      have HBE := Lib.hid (And.intro hbe hkb)
      clear hwr hbe hkb
      go_wp2_with fail
      go_ret
      exact ⟨rfl, HWR.out, HBE.out.1, HBE.out.2⟩
/-- The same writer, seen beside a block that was laid since. -/
theorem Ws.fresh {sp : Bool} {P P' : Nat → Prop} {g : Nat} {w w' : World} {v : Value} {xs : List B8} (h : Ws sp P g w v xs) (k : Ok w w') (hP : ∀ b, P' b → (P b ∨ w.heap.size ≤ b) ∧ b < w'.heap.size) : Ws sp P' g w' v xs := by
  have hz := h.size
  obtain ⟨⟨c0, hown, c1, c2, f0, f1⟩, hold⟩ := h
  refine ⟨⟨k.cell c0, ?_, k.cell c1, k.cell c2, by rw [Below.frozen k (p := ⟨g, 0, none⟩) hz]; exact f0, by rw [Below.frozen k (p := ⟨g, 1, none⟩) hz]; exact f1⟩, fun b hb => ⟨?_, (hP b hb).2, ?_⟩⟩
  · unfold OwnN World.ownsRow at hown ⊢
    rcases hown with ⟨h3, h4 | ⟨gg, cap, cur, h4, h5, h6, h7⟩⟩
    · exact ⟨h3, .inl h4⟩
    · have hlt : gg < w.heap.size := (Array.getElem?_eq_some_iff.1 h6).1
      exact ⟨h3, .inr ⟨gg, cap, cur, h4, h5, by rw [k.block gg hlt]; exact h6, h7⟩⟩
  · rcases (hP b hb).1 with h1 | h1
    · exact (hold b h1).1
    · omega
  · rcases (hP b hb).1 with h1 | h1
    · exact (hold b h1).2.2
    rcases hown.2 with ⟨rfl, _⟩ | ⟨gg, cap, cur, rfl, _, h6, _⟩
    · intro e; cases e
    · intro e
      have hlt : gg < w.heap.size := (Array.getElem?_eq_some_iff.1 h6).1
      have e2 : gg = b := by simpa [Value.ownBlock] using e
      omega
set_option maxHeartbeats 400000 in
theorem newWriter_s (W : World) :
    Calls Tryz.prog 40 #[] W fun e w' => e = .returned (.pointer (some ⟨W.heap.size, 0, none⟩)) ∧ (∀ P : Nat → Prop, (∀ b, P b → b ≠ W.heap.size ∧ b < w'.heap.size) → Ws false P W.heap.size w' (.slice none 0 0) []) ∧ Ok W w' ∧ w'.heap.size = W.heap.size + 1 := by
  have HF : Hid (∀ P : Nat → Prop, (∀ b, P b → b ≠ W.heap.size ∧ b < (W.alloc (.cells #[.slice none 0 0, .bool false, .bool true] 123)).heap.size) → Ws false P W.heap.size (W.alloc (.cells #[.slice none 0 0, .bool false, .bool true] 123)) (.slice none 0 0) []) := Lib.hid (fun P h1 => by
    refine ⟨⟨?_, World.ownsRow_nil _ _ _ _, ?_, ?_, World.frozen?_alloc_at _ _ _ _ rfl, World.frozen?_alloc_at _ _ _ _ rfl⟩, fun b hb => ⟨(h1 b hb).1, (h1 b hb).2, by intro e; cases e⟩⟩ <;> (rw [World.cell?_alloc_at _ _ _ _ rfl]; rfl))
  go_enter Tryz.func40, Tryz.ntmps40
  go_wp2
  go_ret
  exact ⟨rfl, HF.out, (Ok.refl _).alloc _, by simp⟩
end Go.Proofs.YtdabdkedgigjdaaGreat
namespace Go.Proofs.YtdabdkedgigjdaaGreat
open Go.RowKit
theorem Ws.wr {P : Nat → Prop} {g : Nat} {w : World} {v : Value} {xs : List B8} (h : Ws false P g w v xs) : Wr g w v xs := ⟨h.1.1, h.1.2.1, h.1.2.2.1, h.1.2.2.2.1, h.1.2.2.2.2.1⟩
set_option maxHeartbeats 400000 in
theorem done_bad (P : Nat → Prop) (g : Nat) (v : Value) (xs : List B8) (W : World) (hw : Ws true P g W v xs) :
    Calls Tryz.prog 41 #[.pointer (some ⟨g, 0, none⟩)] W fun e w' => e = .returned (.tuple #[.slice none 0 0, .int .i64 2]) ∧ W = w' := by
  have HW := Lib.hid hw
  have h1 := hw.1.2.2.1
  clear hw
  go_enter Tryz.func41, Tryz.ntmps41
  go_wp2_with fail
  refine (none_s true P g v xs _ HW.out).mono ?_
  rintro e w1 ⟨rfl, rfl⟩
  go_wp2_with fail
  go_ret2
  exact ⟨rfl, rfl⟩
/-- The writer, whatever lies beside it. -/
def Wn (sp : Bool) (g : Nat) (w : World) (xs : List B8) : Prop := ∃ A c, Ws sp (fun _ => False) g w (.slice A xs.length c) xs
/-- A block that is none of bytes. -/
def NB (w : World) (b : Nat) : Prop := ∃ cs ty fz, ty ≠ 5 ∧ w.heap[b]? = some (.cells cs ty fz)
/-- What stands behind a call of the writer's. -/
structure Kp (g : Nat) (W w' : World) : Prop where
  below : Below g W w'
  keep : ∀ b, b ≠ g → NB W b → w'.heap[b]? = W.heap[b]?
theorem Wn.ws {sp : Bool} {g : Nat} {w : World} {xs : List B8} (h : Wn sp g w xs) : ∃ A c, Ws sp (fun b => b ≠ g ∧ NB w b) g w (.slice A xs.length c) xs := by
  obtain ⟨A, c, h⟩ := h
  refine ⟨A, c, h.1, fun b hb => ⟨hb.1, ?_, ?_⟩⟩
  · obtain ⟨cs, ty, fz, _, h2⟩ := hb.2
    exact (Array.getElem?_eq_some_iff.1 h2).1
  · refine own_not h.1.2.1.2 fun cs fz e => ?_
    obtain ⟨cs', ty, fz', h1, h2⟩ := hb.2
    rw [h2] at e
    cases e
    exact h1 rfl
theorem Wn.ok {sp : Bool} {g : Nat} {w w' : World} {xs : List B8} (h : Wn sp g w xs) (k : Ok w w') : Wn sp g w' xs := by
  obtain ⟨A, c, h⟩ := h
  exact ⟨A, c, h.fresh k fun b hb => hb.elim⟩
theorem Wn.lt {sp : Bool} {g : Nat} {w : World} {xs : List B8} (h : Wn sp g w xs) : g < w.heap.size := by
  obtain ⟨A, c, h⟩ := h
  exact h.size
def WnPost (sp : Bool) (g : Nat) (W : World) (xs : List B8) (e : Ending) (w' : World) : Prop := e = .returned (.pointer (some ⟨g, 0, none⟩)) ∧ Wn sp g w' xs ∧ Kp g W w'
theorem WnPost.of {sp : Bool} {g : Nat} {W w' : World} {xs : List B8} {e : Ending} (h : WsPost sp (fun b => b ≠ g ∧ NB W b) g W (.pointer (some ⟨g, 0, none⟩)) xs e w') : WnPost sp g W xs e w' := by
  obtain ⟨h1, ⟨A, c, h2⟩, h3, h4⟩ := h
  exact ⟨h1, ⟨A, c, h2.1, fun _ hf => hf.elim⟩, h3, fun b hb hn => h4 b ⟨hb, hn⟩⟩
theorem NB.not5 {w : World} {b : Nat} (h : NB w b) : ∀ cs fz, w.heap[b]? ≠ some (.cells cs 5 fz) := fun cs fz e => by
  obtain ⟨cs', ty, fz', h1, h2⟩ := h
  rw [h2] at e
  cases e
  exact h1 rfl
theorem cell_of_heap {w : World} {b ty : Nat} {cs : Array Value} {fz : Nat × Nat} (h : w.heap[b]? = some (.cells cs ty fz)) (i : Nat) : w.cell? ⟨b, i, none⟩ = cs[i]? := by
  simp [World.cell?, h]
theorem num1_n (sp : Bool) (g : Nat) (xs : List B8) (W : World) (h : Wn sp g W xs) (b : Nat) (hb : b ≠ g) (a0 : Int) (hh : W.heap[b]? = some (.cells #[.int .i64 a0] 3 (0, 0))) (hx : xs.length ≤ 100000000) :
    Calls Tryz.prog 86 #[.pointer (some ⟨g, 0, none⟩), .slice (some ⟨b, 0, none⟩) 1 1] W (WnPost (sp || [a0].any badN) g W (xs ++ encsI [a0])) := by
  obtain ⟨A, c, h⟩ := h.ws
  refine (numbers_s sp _ b ⟨hb, _, _, _, by decide, hh⟩ g _ xs W h [a0] 0 1 1 rfl (by decide) hx ?_).mono fun e w' k => WnPost.of k
  intro k hk
  rw [cell_of_heap hh]
  match k, hk with
  | 0, _ => rfl
theorem num5_n (sp : Bool) (g : Nat) (xs : List B8) (W : World) (h : Wn sp g W xs) (b : Nat) (hb : b ≠ g) (a0 a1 a2 a3 a4 : Int) (hh : W.heap[b]? = some (.cells #[.int .i64 a0, .int .i64 a1, .int .i64 a2, .int .i64 a3, .int .i64 a4] 3 (0, 0))) (hx : xs.length ≤ 100000000) :
    Calls Tryz.prog 86 #[.pointer (some ⟨g, 0, none⟩), .slice (some ⟨b, 0, none⟩) 5 5] W (WnPost (sp || [a0, a1, a2, a3, a4].any badN) g W (xs ++ encsI [a0, a1, a2, a3, a4])) := by
  obtain ⟨A, c, h⟩ := h.ws
  refine (numbers_s sp _ b ⟨hb, _, _, _, by decide, hh⟩ g _ xs W h [a0, a1, a2, a3, a4] 0 5 5 rfl (by decide) hx ?_).mono fun e w' k => WnPost.of k
  intro k hk
  rw [cell_of_heap hh]
  match k, hk with
  | 0, _ => rfl
  | 1, _ => rfl
  | 2, _ => rfl
  | 3, _ => rfl
  | 4, _ => rfl
theorem txt2_n (sp : Bool) (g : Nat) (xs : List B8) (W : World) (h : Wn sp g W xs) (b : Nat) (hb : b ≠ g) (s0 s1 : ByteArray) (hh : W.heap[b]? = some (.cells #[.string s0, .string s1] 9 (0, 0))) (hx : xs.length ≤ 100000000) (h0 : s0.size ≤ 1000000000) (h1 : s1.size ≤ 1000000000) :
    Calls Tryz.prog 87 #[.pointer (some ⟨g, 0, none⟩), .slice (some ⟨b, 0, none⟩) 2 2] W (WnPost sp g W (xs ++ encsT [s0, s1])) := by
  obtain ⟨A, c, h⟩ := h.ws
  refine (texts_s sp _ b ⟨hb, _, _, _, by decide, hh⟩ g _ xs W h (fun b hb => hb.2.not5) [s0, s1] 0 2 2 rfl (by decide) hx ?_ ?_).mono fun e w' k => WnPost.of k
  · intro s hs
    simp only [List.mem_cons, List.not_mem_nil, or_false] at hs
    rcases hs with rfl | rfl <;> assumption
  · intro k hk
    rw [cell_of_heap hh]
    match k, hk with
    | 0, _ => rfl
    | 1, _ => rfl
theorem blk_new {w : World} {n : Nat} {o : Obj} (h : w.heap.size = n) : (w.alloc o).heap[n]? = some o := h ▸ heap_alloc_new w o
theorem blk_old {w : World} {n : Nat} {o o' : Obj} (h : w.heap[n]? = some o) : (w.alloc o').heap[n]? = some o := by
  have hn : n < w.heap.size := (Array.getElem?_eq_some_iff.1 h).1
  rw [((Ok.refl w).alloc o').block n hn]; exact h
theorem blk_drew {w : World} {n : Nat} {o : Obj} (h : w.heap[n]? = some o) : w.drew.heap[n]? = some o := by
  rw [((Ok.refl w).drew).block n (Array.getElem?_eq_some_iff.1 h).1]; exact h
theorem blk_kp {g : Nat} {w w' : World} {n ty : Nat} {cs : Array Value} {fz : Nat × Nat} (k : Kp g w w') (hn : n ≠ g) (ht : ty ≠ 5) (h : w.heap[n]? = some (.cells cs ty fz)) : w'.heap[n]? = some (.cells cs ty fz) :=
  (k.keep n hn ⟨_, _, _, ht, h⟩).trans h
def OkG (g : Nat) (W w' : World) : Prop := Below g W w'
theorem OkG.alloc {g : Nat} {W w' : World} (h : OkG g W w') (hg : g < w'.heap.size) (o : Obj) : OkG g W (w'.alloc o) := Below.alloc h (Nat.le_of_lt hg) o
theorem OkG.drew {g : Nat} {W w' : World} (h : OkG g W w') : OkG g W w'.drew := Below.drew h
theorem OkG.kp {g : Nat} {W w w' : World} (h : OkG g W w) (k : Kp g w w') : OkG g W w' := Below.trans h k.below
end Go.Proofs.YtdabdkedgigjdaaGreat
namespace Go.Proofs.YtdabdkedgigjdaaGreat
open Go.RowKit
def encSc (x : Sc) : List B8 := [] ++ encsI [x.num] ++ encsT [x.sp.lo, x.sp.hi] ++ encsI [x.fr, x.to, x.ep, x.un, x.st]
def badSc (x : Sc) : Bool := false || [x.num].any badN || [x.fr, x.to, x.ep, x.un, x.st].any badN
theorem encSc_len1 (n : Int) : ([] ++ encsI [n]).length ≤ 1000 := by
  have := encsI_len [n]
  simp only [List.nil_append, List.length_cons, List.length_nil] at *
  omega
theorem encSc_len2 (n : Int) (lo hi : Str) (h1 : lo.size ≤ 1000) (h2 : hi.size ≤ 1000) : ([] ++ encsI [n] ++ encsT [lo, hi]).length ≤ 10000 := by
  have a := encSc_len1 n
  have b := encsT_len [lo, hi] 1000 (by intro s hs; simp only [List.mem_cons, List.not_mem_nil, or_false] at hs; rcases hs with rfl | rfl <;> assumption)
  rw [List.length_append]
  simp only [List.length_cons, List.length_nil] at b
  omega
theorem sc_raw {w : World} {p : Nat} {num fr tt ep un st : Int} {lo hi : Str} (h : w.heap[p]? = some (.cells #[.int .i64 num, .string lo, .string hi, .int .i64 fr, .int .i64 tt, .int .i64 ep, .int .i64 un, .int .u8 st] 52 (0, 0))) :
    w.cell? ⟨p, 0, none⟩ = some (.int .i64 num) ∧ w.cell? ⟨p, 1, none⟩ = some (.string lo) ∧ w.cell? ⟨p, 2, none⟩ = some (.string hi) ∧ w.cell? ⟨p, 3, none⟩ = some (.int .i64 fr) ∧ w.cell? ⟨p, 4, none⟩ = some (.int .i64 tt) ∧ w.cell? ⟨p, 5, none⟩ = some (.int .i64 ep) ∧ w.cell? ⟨p, 6, none⟩ = some (.int .i64 un) ∧ w.cell? ⟨p, 7, none⟩ = some (.int .u8 st) := by
  refine ⟨?_, ?_, ?_, ?_, ?_, ?_, ?_, ?_⟩ <;> (rw [cell_of_heap h]; rfl)
def ScWP (g : Nat) (W : World) (x : Sc) (e : Ending) (w' : World) : Prop := e = .returned (.pointer (some ⟨g, 0, none⟩)) ∧ Wn (badSc x) g w' (encSc x) ∧ OkG g W w'
set_option maxRecDepth 100000 in
set_option maxHeartbeats 4000000 in
theorem scWrite_w (g : Nat) (W : World) (x : Sc) (h : Wn false g W []) (h1 : x.sp.lo.size ≤ 1000) (h2 : x.sp.hi.size ≤ 1000) (hst : 0 ≤ x.st ∧ x.st ≤ 255) :
    Calls Tryz.prog 39 #[.pointer (some ⟨g, 0, none⟩), scV x] W (ScWP g W x) := by
  obtain ⟨num, ⟨lo, hi⟩, fr, tt, ep, un, st⟩ := x
  unfold ScWP badSc encSc scV
  simp only at h1 h2 hst ⊢
  obtain ⟨s0, s1⟩ := hst
  have hg := h.lt
  have HL1 := Lib.hid (encSc_len1 num)
  have HL2 := Lib.hid (encSc_len2 num lo hi h1 h2)
  obtain ⟨p, hp⟩ : ∃ p, W.heap.size = p := ⟨_, rfl⟩
  have hgp : g < p := by omega
  have HP := Lib.hid (blk_new (o := .cells #[.int .i64 num, .string lo, .string hi, .int .i64 fr, .int .i64 tt, .int .i64 ep, .int .i64 un, .int .u8 st] 52) hp)
  have HB := Lib.hid (OkG.alloc (g := g) (Below.refl g W) hg (.cells #[.int .i64 num, .string lo, .string hi, .int .i64 fr, .int .i64 tt, .int .i64 ep, .int .i64 un, .int .u8 st] 52))
  have HW := Lib.hid (h.ok ((Ok.refl W).alloc (.cells #[.int .i64 num, .string lo, .string hi, .int .i64 fr, .int .i64 tt, .int .i64 ep, .int .i64 un, .int .u8 st] 52)))
  have HSZ : Hid ((W.alloc (.cells #[.int .i64 num, .string lo, .string hi, .int .i64 fr, .int .i64 tt, .int .i64 ep, .int .i64 un, .int .u8 st] 52)).heap.size = p + 1) := Lib.hid (by simp [hp])
  have HWS : Hid (IntKind.i64.wrap st = st) := Lib.hid (IntWalk.i64_in _ (by omega))
  clear h hg
  go_enter Tryz.func39, Tryz.ntmps39
  go_wp2_with fail
  clear hp
  generalize W.alloc (.cells #[.int .i64 num, .string lo, .string hi, .int .i64 fr, .int .i64 tt, .int .i64 ep, .int .i64 un, .int .u8 st] 52) = V at *
  have hgv : g < V.heap.size := by have := HSZ.out; omega
  have hpb := HP.out
  obtain ⟨B0, B1, B2, B3, B4, B5, B6, B7⟩ := sc_raw HP.out
  go_region_held3 (fun w' => w'.cell? ⟨p, 0, none⟩ = some (.int .i64 num) ∧ w'.cell? ⟨p, 1, none⟩ = some (.string lo) ∧ w'.cell? ⟨p, 2, none⟩ = some (.string hi) ∧ w'.cell? ⟨p, 3, none⟩ = some (.int .i64 fr) ∧ w'.cell? ⟨p, 4, none⟩ = some (.int .i64 tt) ∧ w'.cell? ⟨p, 5, none⟩ = some (.int .i64 ep) ∧ w'.cell? ⟨p, 6, none⟩ = some (.int .i64 un) ∧ w'.cell? ⟨p, 7, none⟩ = some (.int .u8 st))
    ((refine sc_raw ?_; (repeat' (first | (with_reducible assumption) | ((with_reducible refine blk_new ?_); (first | rfl | (with_reducible assumption) | (simp; done))) | (with_reducible refine blk_old ?_) | (with_reducible refine blk_drew ?_) | ((with_reducible apply blk_kp (g := g)); (with_reducible assumption); omega; decide)))))
    (first
      | (go_at_call 86; (with_reducible refine (num1_n false g [] _ (HW.out.ok ?_) _ ?_ num ?_ ?_).mono ?_); (focus ((repeat (first | (with_reducible exact Ok.refl _) | (with_reducible refine Ok.drew ?_) | (with_reducible refine Ok.alloc ?_ _))); done)); omega; (focus ((repeat' (first | (with_reducible assumption) | ((with_reducible refine blk_new ?_); (first | rfl | (with_reducible assumption) | (simp; done))) | (with_reducible refine blk_old ?_) | (with_reducible refine blk_drew ?_) | ((with_reducible apply blk_kp (g := g)); (with_reducible assumption); omega; decide))); done)); (focus (simp; done)); rintro e w1 ⟨rfl, hw1, k1⟩; have HW1 := Lib.hid hw1; have z1 := hw1.lt)
      | (go_at_call 87; (with_reducible refine (txt2_n _ g _ _ (HW1.out.ok ?_) _ ?_ lo hi ?_ ?_ ?_ ?_).mono ?_); (focus ((repeat (first | (with_reducible exact Ok.refl _) | (with_reducible refine Ok.drew ?_) | (with_reducible refine Ok.alloc ?_ _))); done)); omega; (focus ((repeat' (first | (with_reducible assumption) | ((with_reducible refine blk_new ?_); (first | rfl | (with_reducible assumption) | (simp; done))) | (with_reducible refine blk_old ?_) | (with_reducible refine blk_drew ?_) | ((with_reducible apply blk_kp (g := g)); (with_reducible assumption); omega; decide))); done)); (have := HL1.out; omega); omega; omega; rintro e w2 ⟨rfl, hw2, k2⟩; have HW2 := Lib.hid hw2; have z2 := hw2.lt)
      | (go_at_call 86; (with_reducible refine (num5_n _ g _ _ (HW2.out.ok ?_) _ ?_ fr tt ep un (IntKind.i64.wrap st) ?_ ?_).mono ?_); (focus ((repeat (first | (with_reducible exact Ok.refl _) | (with_reducible refine Ok.drew ?_) | (with_reducible refine Ok.alloc ?_ _))); done)); omega; (focus ((repeat' (first | (with_reducible assumption) | ((with_reducible refine blk_new ?_); (first | rfl | (with_reducible assumption) | (simp; done))) | (with_reducible refine blk_old ?_) | (with_reducible refine blk_drew ?_) | ((with_reducible apply blk_kp (g := g)); (with_reducible assumption); omega; decide))); done)); (have := HL2.out; omega); rintro e w3 ⟨rfl, hw3, k3⟩; rw [HWS.out] at hw3; have HW3 := Lib.hid hw3))
  all_goals
    go_wp2_with fail
    go_ret
    refine ⟨rfl, HW3.out, ?_⟩
    have hb := HB.out
    repeat (first | (with_reducible exact hb) | (with_reducible refine OkG.kp ?_ (by assumption)) | (with_reducible refine OkG.alloc ?_ (by first | omega | (simp; omega)) _) | (with_reducible refine OkG.drew ?_))
end Go.Proofs.YtdabdkedgigjdaaGreat
