/- A map from kinds of acts to functions: made, written, looked into. -/
import Derived.Maps.OwnOps
import Derived.Deep.DeepCutAuto
import Derived.Deep.CutRange
import Derived.Outline
import Derived.Test.YthbbbjkgfdnkhaaDoorAf
namespace Go.Proofs.YthbbbjkgfdnkhaaDoor
open Go.RowKit Go.ChangeMaps
/-- Block b is this map. -/
def Tab (w : World) (b : Nat) (l : List (Int × Value)) : Prop := ∃ es clock, w.heap[b]? = some (.map es clock) ∧ es.toList.map (fun e => (e.key, e.val)) = l.map fun p => (Value.int .u8 p.1, p.2)
theorem Tab.lt {w : World} {b : Nat} {l : List (Int × Value)} (h : Tab w b l) : b < w.heap.size := by
  obtain ⟨es, clock, hb, _⟩ := h
  exact (Array.getElem?_eq_some_iff.1 hb).1
theorem Tab.ok {w w' : World} {b : Nat} {l : List (Int × Value)} (h : Tab w b l) (k : Ok w w') : Tab w' b l := by
  have hl := h.lt
  obtain ⟨es, clock, hb, he⟩ := h
  exact ⟨es, clock, (k.block b hl).trans hb, he⟩
theorem Tab.new (w : World) : Tab (w.alloc (.map #[] 0)) w.heap.size [] := ⟨#[], 0, by show (w.heap.push _)[w.heap.size]? = _; simp, rfl⟩
theorem find_ent (k : Int) : ∀ (es : List MapEntry) (l : List (Int × Value)) (i : Nat), es.map (fun e => (e.key, e.val)) = l.map (fun p => (Value.int .u8 p.1, p.2)) →
    (l.find? (fun p => p.1 == k) = none ∧ Instr.findNow (.int .u8) (.int .u8 k) es i = some none) ∨ ∃ p j, l.find? (fun p => p.1 == k) = some p ∧ Instr.findNow (.int .u8) (.int .u8 k) es i = some (some (j, p.2))
  | [], [], i, _ => .inl ⟨rfl, rfl⟩
  | e :: es, p :: l, i, h => by
    simp only [List.map_cons, List.cons.injEq, Prod.mk.injEq] at h
    obtain ⟨⟨hk, hv⟩, hr⟩ := h
    by_cases hp : p.1 = k
    · right
      refine ⟨p, i, by simp [hp], ?_⟩
      simp [Instr.findNow, hk, Instr.sameNow, hp, hv]
    · have hp2 : (k == p.1) = false := by simp only [beq_eq_false_iff_ne, ne_eq]; exact fun h => hp h.symm
      rcases find_ent k es l (i + 1) hr with ⟨h1, h2⟩ | ⟨q, j, h1, h2⟩
      · exact .inl ⟨by simp [hp, h1], by simp [Instr.findNow, hk, Instr.sameNow, hp2, h2]⟩
      · exact .inr ⟨q, j, by simp [hp, h1], by simp [Instr.findNow, hk, Instr.sameNow, hp2, h2]⟩
  | [], _ :: _, _, h => by cases h
  | _ :: _, [], _, h => by cases h
theorem check_n (w : World) (em : Bool) (k : Int) (n : Nat) : (Instr.checkKey em (n + 1) 50 (.int .u8 k)).run Tryd.prog w = .ok () w := by
  simp [Instr.checkKey, run_underlying Tryd.underlying50, Result.andThen]
theorem check_k (w : World) (em : Bool) (k : Int) : (Instr.checkKey em 10000 50 (.int .u8 k)).run Tryd.prog w = .ok () w := check_n w em k 9999
theorem run_ins (w : World) (b : Nat) (l : List (Int × Value)) (h : Tab w b l) (k : Int) (v : Value) (hnew : l.find? (fun p => p.1 == k) = none) (base : Nat) (hbase : base ≤ b) :
    ∃ w', (Instr.mapUpdate 65 (.map (some b)) (.int .u8 k) v).run Tryd.prog w = .ok () w' ∧ Tab w' b (l ++ [(k, v)]) ∧ Below base w w' := by
  obtain ⟨es, clock, hb, he⟩ := h
  refine ⟨setBlock w b (.map (es.push ⟨.int .u8 k, v, clock⟩) (clock + 1)), ?_, ⟨_, _, Go.ChangeMaps.heap_setBlock_same hb _, ?_⟩, ⟨rfl, rfl, rfl, by simp [setBlock], fun i hi => Go.ChangeMaps.heap_setBlock_other hb _ (by omega)⟩⟩
  · rcases find_ent k es.toList l 0 he with ⟨_, hf⟩ | ⟨p, j, hf, _⟩
    · simp [Instr.mapUpdate, run_underlying Tryd.underlying65, MapKept.run_getObj_map hb, check_k, Instr.findKey, run_underlying Tryd.underlying50, hf, MapKept.run_setObj_map _ hb, Result.andThen, setBlock]
    · rw [hnew] at hf; cases hf
  · rw [Array.toList_push, List.map_append, List.map_append, he]
    rfl
theorem wpList_ins {w : World} {ops : Array Oper} {rest : List Oper} {o : Oper} {a : Act} {Q : Exit → Act → World → Prop}
    (hg : o.guard = none) (m x v : Operand) (hop : o.op = Op.insert 65 m x v) (b : Nat) (l : List (Int × Value)) (h : Tab w b l) (k : Int) (u : Value)
    (hm : a.eval m = .map (some b)) (hx : a.eval x = .int .u8 k) (hv : a.eval v = u) (hnew : l.find? (fun p => p.1 == k) = none) (base : Nat) (hbase : base ≤ b)
    (hK : ∀ w', Tab w' b (l ++ [(k, u)]) → Below base w w' → wpList Tryd.prog ops Q rest (a.put o.dst undef) w') :
    wpList Tryd.prog ops Q (o :: rest) a w := by
  refine wpList_plain hg fun K' hK' => ?_
  obtain ⟨w', hrun, r1, r2⟩ := run_ins w b l h k u hnew base hbase
  unfold Oper.wp
  simp [execOp, hop, hm, hx, hv, hrun, Result.andThen]
  exact hK' _ _ (hK w' r1 r2)
theorem run_lookok (w : World) (b : Nat) (l : List (Int × Value)) (h : Tab w b l) (k : Int) : (∀ u, l.find? (fun p => p.1 == k) = some (k, u) → (Instr.lookup 65 (.map (some b)) (.int .u8 k) true).run Tryd.prog w = .ok (.tuple #[u, .bool true]) w) ∧ (l.find? (fun p => p.1 == k) = none → (Instr.lookup 65 (.map (some b)) (.int .u8 k) true).run Tryd.prog w = .ok (.tuple #[.nilFunc, .bool false]) w) := by
  obtain ⟨es, clock, hb, he⟩ := h
  rcases find_ent k es.toList l 0 he with ⟨h1, hf⟩ | ⟨p, j, h1, hf⟩
  · refine ⟨(fun u hu => by rw [h1] at hu; cases hu), fun _ => ?_⟩
    simp [Instr.lookup, run_underlying Tryd.underlying65, MapKept.run_getObj_map hb, check_k, Instr.findKey, run_underlying Tryd.underlying50, hf, Tryd.zeroValue64 w, Result.andThen]
  · refine ⟨fun u hu => ?_, fun hu => by rw [h1] at hu; cases hu⟩
    rw [h1] at hu
    obtain rfl : p = (k, u) := by simpa using hu
    simp [Instr.lookup, run_underlying Tryd.underlying65, MapKept.run_getObj_map hb, check_k, Instr.findKey, run_underlying Tryd.underlying50, hf, Result.andThen]
structure St where
  rs : List Rd
  is : Bool
  val : Str
  put : Bool
def stepA (s : St) (a : Ac) : St :=
  if a.kind = 1 then ⟨s.rs ++ [⟨a.key, s.is, s.val⟩], s.is, s.val, s.put⟩
  else if a.kind = 2 then ⟨s.rs, true, a.value, true⟩
  else if a.kind = 3 then ⟨s.rs ++ [⟨a.key, s.is, s.val⟩], true, sumV s.val a.num, true⟩
  else s
def runA (s : St) (l : List Ac) : St := l.foldl stepA s
def st0 (is : Bool) (val : Str) : St := ⟨[], is, if is = true then val else ⟨#[]⟩, false⟩
def ac0 : Ac := ⟨0, ⟨#[]⟩, ⟨#[]⟩, 0⟩
def atA (l : List Ac) (j : Nat) : Ac := l.getD j ac0
theorem runA_take (s : St) (l : List Ac) (k : Nat) (h : k < l.length) : runA s (l.take (k + 1)) = stepA (runA s (l.take k)) (atA l k) := by
  rw [List.take_succ_eq_append_getElem h]
  unfold runA
  rw [List.foldl_append]
  simp [atA, h]
theorem valueT_size (n : Int) : (valueT n).size ≤ 20 := by
  have h := boundM_in n 1073741824 (by decide)
  show (Lib.itoa (boundM n 1073741824)).toArray.size ≤ 20
  rw [List.size_toArray]
  unfold Lib.itoa
  split
  · have := dec_len 10 (boundM n 1073741824).natAbs (by omega)
    simp only [List.length_cons]; omega
  · have := dec_len 10 (boundM n 1073741824).toNat (by omega)
    omega
theorem stepA_small (s : St) (a : Ac) (M : Nat) (hM : 20 ≤ M) (hs : s.val.size ≤ M) (ha : a.value.size ≤ M) : (stepA s a).val.size ≤ M ∧ (stepA s a).rs.length ≤ s.rs.length + 1 := by
  unfold stepA
  split
  · exact ⟨hs, by simp⟩
  · split
    · exact ⟨ha, Nat.le_succ _⟩
    · split
      · exact ⟨Nat.le_trans (valueT_size _) hM, by simp⟩
      · exact ⟨hs, Nat.le_succ _⟩
theorem runA_small (s : St) (M : Nat) (hM : 20 ≤ M) (l : List Ac) : s.val.size ≤ M → (∀ a ∈ l, a.value.size ≤ M) → (runA s l).val.size ≤ M ∧ (runA s l).rs.length ≤ s.rs.length + l.length := by
  induction l generalizing s with
  | nil => intro h _; exact ⟨h, Nat.le_refl _⟩
  | cons a l ih =>
    intro h ha
    have h1 := stepA_small s a M hM h (ha a (List.mem_cons_self ..))
    have h2 := ih (stepA s a) h1.1 (fun b hb => ha b (List.mem_cons_of_mem _ hb))
    exact ⟨h2.1, by have h3 := h2.2; have h4 := h1.2; show (runA (stepA s a) l).rs.length ≤ _; rw [List.length_cons]; omega⟩
/-- These acts lie from an address on. -/
def ActsAt (w : World) (A : Option Addr) (l : List Ac) : Prop := ∀ j, j < l.length → ∃ b off, A = some ⟨b, off, none⟩ ∧ w.cell? ⟨b, off + j * 4, none⟩ = some (.int .u8 (atA l j).kind) ∧ w.cell? ⟨b, off + j * 4 + 1, none⟩ = some (.string (atA l j).key) ∧ w.cell? ⟨b, off + j * 4 + 2, none⟩ = some (.string (atA l j).value) ∧ w.cell? ⟨b, off + j * 4 + 3, none⟩ = some (.int .i64 (atA l j).num)
theorem ActsAt.ok {w w' : World} {A : Option Addr} {l : List Ac} (h : ActsAt w A l) (k : Ok w w') : ActsAt w' A l := fun j hj => by
  obtain ⟨b, off, e, h0, h1, h2, h3⟩ := h j hj
  exact ⟨b, off, e, k.cell h0, k.cell h1, k.cell h2, k.cell h3⟩
theorem Tab.kq {p : Nat} {w w' : World} {b : Nat} {l : List (Int × Value)} (h : Tab w b l) (k : Kq p w w') (hb : b ≠ p) : Tab w' b l := by
  have hl := h.lt
  obtain ⟨es, clock, hh, he⟩ := h
  exact ⟨es, clock, (k b hb hl (fun cs fz e => by rw [hh] at e; cases e)).trans hh, he⟩
end Go.Proofs.YthbbbjkgfdnkhaaDoor
