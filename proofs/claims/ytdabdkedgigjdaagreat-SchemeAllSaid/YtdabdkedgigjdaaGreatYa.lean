/- A map from stages to lists of stages: made, written, looked into. -/
import Derived.Maps.OwnOps
import Derived.Test.YtdabdkedgigjdaaGreatSi
namespace Go.Proofs.YtdabdkedgigjdaaGreat
open Go.RowKit Go.ChangeMaps

/-- The value holds these stages. -/
def StN (w : World) (v : Value) (ss : List Int) : Prop := ∃ A c, v = .slice A ss.length c ∧ ∀ j (h : j < ss.length), ∃ b off, A = some ⟨b, off, none⟩ ∧ w.cell? ⟨b, off + j, none⟩ = some (.int .u8 ss[j])
theorem StN.ok {w w' : World} {v : Value} {ss : List Int} (h : StN w v ss) (k : Ok w w') : StN w' v ss := by
  obtain ⟨A, c, e, hc⟩ := h
  exact ⟨A, c, e, fun j hj => by obtain ⟨b, off, e2, h2⟩ := hc j hj; exact ⟨b, off, e2, Ok.cell k h2⟩⟩
theorem StN.nil (w : World) : StN w (.slice none 0 0) [] := ⟨none, 0, rfl, fun _ hj => absurd hj (Nat.not_lt_zero _)⟩
/-- The entries of a map: the keys, and the lists. -/
def Ent (w : World) (b : Nat) : List MapEntry → List (Int × List Int) → Prop
  | [], [] => True
  | e :: es, p :: l => (e.key = .int .u8 p.1 ∧ (∃ g n c, e.val = .slice (some ⟨g, 0, none⟩) n c ∧ g ≠ b) ∧ StN w e.val p.2) ∧ Ent w b es l
  | _, _ => False
theorem Ent.mono {w w' : World} {b : Nat} (hw : ∀ v ss, (∃ g n c, v = Value.slice (some ⟨g, 0, none⟩) n c ∧ g ≠ b) → StN w v ss → StN w' v ss) : ∀ {es : List MapEntry} {l : List (Int × List Int)}, Ent w b es l → Ent w' b es l
  | [], [], _ => trivial
  | _ :: _, _ :: _, h => ⟨⟨h.1.1, h.1.2.1, hw _ _ h.1.2.1 h.1.2.2⟩, Ent.mono hw h.2⟩
  | [], _ :: _, h => h.elim
  | _ :: _, [], h => h.elim
theorem Ent.push {w : World} {b : Nat} {e : MapEntry} {p : Int × List Int} (he : Ent w b [e] [p]) : ∀ {es : List MapEntry} {l : List (Int × List Int)}, Ent w b es l → Ent w b (es ++ [e]) (l ++ [p])
  | [], [], _ => he
  | _ :: _, _ :: _, h => ⟨h.1, Ent.push he h.2⟩
  | [], _ :: _, h => h.elim
  | _ :: _, [], h => h.elim
theorem Ent.find {w : World} {b : Nat} (k : Int) : ∀ {es : List MapEntry} {l : List (Int × List Int)} (i : Nat), Ent w b es l →
    (l.find? (fun p => p.1 == k) = none ∧ Instr.findNow (.int .u8) (.int .u8 k) es i = some none) ∨ ∃ p j v, l.find? (fun p => p.1 == k) = some p ∧ Instr.findNow (.int .u8) (.int .u8 k) es i = some (some (j, v)) ∧ StN w v p.2
  | [], [], i, _ => .inl ⟨rfl, rfl⟩
  | e :: es, p :: l, i, h => by
    obtain ⟨⟨hk, _, hs⟩, hr⟩ := h
    by_cases hp : p.1 = k
    · right
      refine ⟨p, i, e.val, by simp [hp], ?_, hs⟩
      simp [Instr.findNow, hk, Instr.sameNow, hp]
    · have hp2 : (k == p.1) = false := by simp only [beq_eq_false_iff_ne, ne_eq]; exact fun h => hp h.symm
      rcases Ent.find (w := w) (b := b) k (i + 1) hr with ⟨h1, h2⟩ | ⟨q, j, v, h1, h2, h3⟩
      · exact .inl ⟨by simp [hp, h1], by simp [Instr.findNow, hk, Instr.sameNow, hp2, h2]⟩
      · exact .inr ⟨q, j, v, by simp [hp, h1], by simp [Instr.findNow, hk, Instr.sameNow, hp2, h2], h3⟩
  | [], _ :: _, _, h => h.elim
  | _ :: _, [], _, h => h.elim
/-- Block b is this map. -/
def Tab (w : World) (b : Nat) (l : List (Int × List Int)) : Prop := ∃ es clock, w.heap[b]? = some (.map es clock) ∧ Ent w b es.toList l
theorem Tab.lt {w : World} {b : Nat} {l : List (Int × List Int)} (h : Tab w b l) : b < w.heap.size := by
  obtain ⟨es, clock, hb, _⟩ := h
  exact (Array.getElem?_eq_some_iff.1 hb).1
theorem Tab.ok {w w' : World} {b : Nat} {l : List (Int × List Int)} (h : Tab w b l) (k : Ok w w') : Tab w' b l := by
  have hl := h.lt
  obtain ⟨es, clock, hb, he⟩ := h
  exact ⟨es, clock, (k.block b hl).trans hb, he.mono fun v ss _ h => h.ok k⟩
theorem Tab.new (w : World) : Tab (w.alloc (.map #[] 0)) w.heap.size [] := ⟨#[], 0, by show (w.heap.push _)[w.heap.size]? = _; simp, trivial⟩
theorem Tab.lit {w : World} {b : Nat} {l : List (Int × List Int)} (h : Tab w b l) (o : Obj) : Tab (w.alloc o) b l := h.ok (Ok.alloc (Ok.refl w) _)

theorem check_n (w : World) (em : Bool) (k : Int) (n : Nat) : (Instr.checkKey em (n + 1) 50 (.int .u8 k)).run Tryz.prog w = .ok () w := by
  simp [Instr.checkKey, run_underlying Tryz.underlying50, Result.andThen]
theorem check_k (w : World) (em : Bool) (k : Int) : (Instr.checkKey em 10000 50 (.int .u8 k)).run Tryz.prog w = .ok () w := check_n w em k 9999
theorem run_ins (w : World) (b : Nat) (l : List (Int × List Int)) (h : Tab w b l) (k : Int) (g n c : Nat) (ss : List Int) (hg : g ≠ b) (hs : StN w (.slice (some ⟨g, 0, none⟩) n c) ss) (hnew : l.find? (fun p => p.1 == k) = none) (base : Nat) (hbase : base ≤ b) :
    ∃ w', (Instr.mapUpdate 116 (.map (some b)) (.int .u8 k) (.slice (some ⟨g, 0, none⟩) n c)).run Tryz.prog w = .ok () w' ∧ Tab w' b (l ++ [(k, ss)]) ∧ Below base w w' ∧ w'.heap.size = w.heap.size ∧ ∀ p : Addr, p.block ≠ b → w'.cell? p = w.cell? p := by
  obtain ⟨es, clock, hb, he⟩ := h
  have hl := (Array.getElem?_eq_some_iff.1 hb).1
  have hcell : ∀ p : Addr, p.block ≠ b → (setBlock w b (.map (es.push ⟨.int .u8 k, .slice (some ⟨g, 0, none⟩) n c, clock⟩) (clock + 1))).cell? p = w.cell? p := fun p hp => by
    have := Go.ChangeMaps.heap_setBlock_other hb (.map (es.push ⟨.int .u8 k, .slice (some ⟨g, 0, none⟩) n c, clock⟩) (clock + 1)) hp
    unfold World.cell?
    rw [this]
  have hst : ∀ v ss, (∃ g n c, v = Value.slice (some ⟨g, 0, none⟩) n c ∧ g ≠ b) → StN w v ss → StN (setBlock w b (.map (es.push ⟨.int .u8 k, .slice (some ⟨g, 0, none⟩) n c, clock⟩) (clock + 1))) v ss := by
    rintro v ss ⟨g2, n2, c2, rfl, hg2⟩ ⟨A, c3, e, hc⟩
    refine ⟨A, c3, e, fun j hj => ?_⟩
    obtain ⟨b4, off, e4, h4⟩ := hc j hj
    refine ⟨b4, off, e4, ?_⟩
    rw [hcell _ ?_, h4]
    simp only [Value.slice.injEq] at e
    rw [e4] at e
    simp only [Option.some.injEq, Addr.mk.injEq] at e
    simp only
    omega
  refine ⟨setBlock w b (.map (es.push ⟨.int .u8 k, .slice (some ⟨g, 0, none⟩) n c, clock⟩) (clock + 1)), ?_, ⟨_, _, Go.ChangeMaps.heap_setBlock_same hb _, ?_⟩, ⟨rfl, rfl, rfl, by simp [setBlock], fun i hi => Go.ChangeMaps.heap_setBlock_other hb _ (by omega)⟩, by simp [setBlock], hcell⟩
  · rcases he.find k 0 with ⟨_, hf⟩ | ⟨p, j, v, hf, _⟩
    · simp [Instr.mapUpdate, run_underlying Tryz.underlying116, MapKept.run_getObj_map hb, check_k, Instr.findKey, run_underlying Tryz.underlying50, hf, MapKept.run_setObj_map _ hb, Result.andThen, setBlock]
    · rw [hnew] at hf; cases hf
  · rw [Array.toList_push]
    refine Ent.push ⟨⟨rfl, ⟨g, n, c, rfl, hg⟩, ?_⟩, trivial⟩ (he.mono hst)
    exact hst _ _ ⟨g, n, c, rfl, hg⟩ hs
theorem wpList_ins {w : World} {ops : Array Oper} {rest : List Oper} {o : Oper} {a : Act} {Q : Exit → Act → World → Prop}
    (hg : o.guard = none) (m x v : Operand) (hop : o.op = Op.insert 116 m x v) (b : Nat) (l : List (Int × List Int)) (h : Tab w b l) (k : Int) (g n c : Nat) (ss : List Int)
    (hm : a.eval m = .map (some b)) (hx : a.eval x = .int .u8 k) (hv : a.eval v = .slice (some ⟨g, 0, none⟩) n c) (hgb : g ≠ b) (hs : StN w (.slice (some ⟨g, 0, none⟩) n c) ss) (hnew : l.find? (fun p => p.1 == k) = none) (base : Nat) (hbase : base ≤ b)
    (hK : ∀ w', Tab w' b (l ++ [(k, ss)]) → Below base w w' → wpList Tryz.prog ops Q rest (a.put o.dst undef) w') :
    wpList Tryz.prog ops Q (o :: rest) a w := by
  refine wpList_plain hg fun K' hK' => ?_
  obtain ⟨w', hrun, r1, r2, _, _⟩ := run_ins w b l h k g n c ss hgb hs hnew base hbase
  unfold Oper.wp
  simp [execOp, hop, hm, hx, hv, hrun, Result.andThen]
  exact hK' _ _ (hK w' r1 r2)
theorem wpList_look {w : World} {ops : Array Oper} {rest : List Oper} {o : Oper} {a : Act} {Q : Exit → Act → World → Prop}
    (hg : o.guard = none) (m x : Operand) (hop : o.op = Op.lookup 116 m x false) (b : Nat) (l : List (Int × List Int)) (h : Tab w b l) (k : Int)
    (hm : a.eval m = .map (some b)) (hx : a.eval x = .int .u8 k)
    (hK : ∀ v, StN w v (((l.find? (fun p => p.1 == k)).map (·.2)).getD []) → wpList Tryz.prog ops Q rest (a.put o.dst v) w) :
    wpList Tryz.prog ops Q (o :: rest) a w := by
  refine wpList_plain hg fun K' hK' => ?_
  obtain ⟨es, clock, hb, he⟩ := h
  have hz : (zeroValue 108).run Tryz.prog w = .ok (.slice none 0 0) w := Tryz.zeroValue108 w
  rcases he.find k 0 with ⟨h1, hf⟩ | ⟨p, j, v, h1, hf, hs⟩
  · have hrun : (Instr.lookup 116 (.map (some b)) (.int .u8 k) false).run Tryz.prog w = .ok (.slice none 0 0) w := by
      simp [Instr.lookup, run_underlying Tryz.underlying116, MapKept.run_getObj_map hb, check_k, Instr.findKey, run_underlying Tryz.underlying50, hf, hz, Result.andThen]
    unfold Oper.wp
    simp [execOp, hop, hm, hx, hrun, Result.andThen]
    exact hK' _ _ (hK _ (by rw [h1]; exact StN.nil w))
  · have hrun : (Instr.lookup 116 (.map (some b)) (.int .u8 k) false).run Tryz.prog w = .ok v w := by
      simp [Instr.lookup, run_underlying Tryz.underlying116, MapKept.run_getObj_map hb, check_k, Instr.findKey, run_underlying Tryz.underlying50, hf, Result.andThen]
    unfold Oper.wp
    simp [execOp, hop, hm, hx, hrun, Result.andThen]
    exact hK' _ _ (hK v (by rw [h1]; exact hs))
end Go.Proofs.YtdabdkedgigjdaaGreat
