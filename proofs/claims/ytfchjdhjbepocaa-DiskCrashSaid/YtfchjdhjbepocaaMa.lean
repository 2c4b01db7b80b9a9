/- Maps with texts as keys and any values: what stands in them, entry by entry. -/
import Derived.Maps.RangeRun
import Derived.Maps.OwnOps
import Derived.Maps.RangeWalk
namespace Go.Proofs.Ytfchjdhjbepocaa
open Go.ChangeMaps

abbrev Str := ByteArray
theorem str_beq (a b : ByteArray) : (a == b) = decide (a = b) := by
  rcases a with ⟨x⟩
  rcases b with ⟨y⟩
  have e : (ByteArray.mk x == ByteArray.mk y) = (x == y) := rfl
  rw [e, Bool.eq_iff_iff, decide_eq_true_eq, beq_iff_eq, ByteArray.mk.injEq]
/-- Names with something. -/
abbrev Tb (α : Type) := List (Str × α)
def Once {α : Type} (l : Tb α) : Prop := l.Pairwise fun a b => a.1 ≠ b.1
def ent (p : Str × Value) : Value × Value := (Value.string p.1, p.2)
/-- Block b is a map of these, in this order. -/
def MapV (w : World) (b : Nat) (l : Tb Value) : Prop :=
  Once l ∧ ∃ es clock, w.heap[b]? = some (.map es clock) ∧ es.toList.map (fun e => (e.key, e.val)) = l.map ent ∧ (∀ x ∈ es.toList, x.born < clock) ∧ (es.toList.map (·.born)).Nodup
theorem MapV.lt {w : World} {b : Nat} {l : Tb Value} (h : MapV w b l) : b < w.heap.size := by
  obtain ⟨_, es, clock, hb, _⟩ := h
  exact (Array.getElem?_eq_some_iff.1 hb).1
theorem MapV.block {w w' : World} {b : Nat} {l : Tb Value} (h : MapV w b l) (k : w'.heap[b]? = w.heap[b]?) : MapV w' b l := by
  obtain ⟨ho, es, clock, hb, he⟩ := h
  exact ⟨ho, es, clock, k.trans hb, he⟩
theorem MapV.grown {w w' : World} {b : Nat} {l : Tb Value} {r : Option Nat} (h : MapV w b l) (k : w.grownBy w' r) (hn : some b ≠ r) : MapV w' b l := h.block (k.block b h.lt hn)
theorem MapV.new (w : World) : MapV (w.alloc (.map #[] 0)) w.heap.size [] := ⟨List.Pairwise.nil, #[], 0, by show (w.heap.push _)[w.heap.size]? = _; simp, rfl, fun x hx => by simp at hx, by simp⟩
/-- What a name has. -/
def Tb.at? {α : Type} (l : Tb α) (k : Str) : Option α := (l.find? fun p => p.1 = k).map Prod.snd
def Tb.put {α : Type} : Tb α → Str → α → Tb α
  | [], k, v => [(k, v)]
  | p :: l, k, v => if p.1 = k then (k, v) :: l else p :: Tb.put l k v
def Tb.del {α : Type} : Tb α → Str → Tb α
  | [], _ => []
  | p :: l, k => if p.1 = k then l else p :: Tb.del l k
theorem Tb.at?_nil {α : Type} (k : Str) : Tb.at? ([] : Tb α) k = none := rfl
theorem Tb.at?_cons {α : Type} (p : Str × α) (l : Tb α) (k : Str) : Tb.at? (p :: l) k = if p.1 = k then some p.2 else Tb.at? l k := by
  unfold Tb.at?
  rw [List.find?_cons]
  by_cases h : p.1 = k <;> simp [h]
theorem Tb.at?_none {α : Type} {l : Tb α} {k : Str} (h : ∀ p ∈ l, p.1 ≠ k) : l.at? k = none := by
  induction l with
  | nil => rfl
  | cons p l ih => rw [Tb.at?_cons, if_neg (h p (List.mem_cons_self ..)), ih fun q hq => h q (List.mem_cons_of_mem _ hq)]
theorem Tb.mem_at {α : Type} {l : Tb α} (ho : Once l) {p : Str × α} (h : p ∈ l) : l.at? p.1 = some p.2 := by
  induction l with
  | nil => cases h
  | cons q l ih =>
    rw [Tb.at?_cons]
    rcases List.mem_cons.1 h with rfl | h
    · rw [if_pos rfl]
    · rw [if_neg ((List.pairwise_cons.1 ho).1 p h), ih (List.pairwise_cons.1 ho).2 h]
theorem Tb.at_mem {α : Type} {l : Tb α} {k : Str} {v : α} (h : l.at? k = some v) : (k, v) ∈ l := by
  induction l with
  | nil => cases h
  | cons q l ih =>
    rw [Tb.at?_cons] at h
    by_cases e : q.1 = k
    · rw [if_pos e, Option.some.injEq] at h
      rw [← e, ← h]; exact List.mem_cons_self ..
    · rw [if_neg e] at h
      exact List.mem_cons_of_mem _ (ih h)
theorem Tb.at_put {α : Type} (l : Tb α) (k k' : Str) (v : α) : (l.put k v).at? k' = if k = k' then some v else l.at? k' := by
  induction l with
  | nil => simp only [Tb.put, Tb.at?_cons, Tb.at?_nil]
  | cons p l ih =>
    unfold Tb.put
    by_cases e : p.1 = k
    · rw [if_pos e, Tb.at?_cons, Tb.at?_cons]
      by_cases h : k = k'
      · rw [if_pos h, if_pos h]
      · rw [if_neg h, if_neg h, if_neg (by rw [e]; exact h)]
    · rw [if_neg e, Tb.at?_cons, Tb.at?_cons, ih]
      by_cases h : k = k'
      · rw [if_pos h, if_pos h, if_neg (by rw [← h]; exact e)]
      · rw [if_neg h, if_neg h]
theorem Tb.mem_put {α : Type} {l : Tb α} {k : Str} {v : α} {p : Str × α} (h : p ∈ l.put k v) : p = (k, v) ∨ p ∈ l := by
  induction l with
  | nil => exact .inl (by simpa [Tb.put] using h)
  | cons q l ih =>
    unfold Tb.put at h
    split at h
    · rcases List.mem_cons.1 h with rfl | h
      · exact .inl rfl
      · exact .inr (List.mem_cons_of_mem _ h)
    · rcases List.mem_cons.1 h with rfl | h
      · exact .inr (List.mem_cons_self ..)
      · exact (ih h).imp id (List.mem_cons_of_mem _)
theorem Once.put {α : Type} {l : Tb α} (ho : Once l) (k : Str) (v : α) : Once (l.put k v) := by
  induction l with
  | nil => exact List.pairwise_singleton _ _
  | cons p l ih =>
    obtain ⟨h1, h2⟩ := List.pairwise_cons.1 ho
    unfold Tb.put
    split
    · rename_i e
      exact List.pairwise_cons.2 ⟨fun q hq => by rw [← e]; exact h1 q hq, h2⟩
    · rename_i e
      refine List.pairwise_cons.2 ⟨fun q hq => ?_, ih h2⟩
      rcases Tb.mem_put hq with rfl | hq
      · exact e
      · exact h1 q hq
theorem Tb.mem_del {α : Type} {l : Tb α} {k : Str} {p : Str × α} (h : p ∈ l.del k) : p ∈ l := by
  induction l with
  | nil => cases h
  | cons q l ih =>
    unfold Tb.del at h
    split at h
    · exact List.mem_cons_of_mem _ h
    · rcases List.mem_cons.1 h with rfl | h
      · exact List.mem_cons_self ..
      · exact List.mem_cons_of_mem _ (ih h)
theorem Once.del {α : Type} {l : Tb α} (ho : Once l) (k : Str) : Once (l.del k) := by
  induction l with
  | nil => exact List.Pairwise.nil
  | cons p l ih =>
    obtain ⟨h1, h2⟩ := List.pairwise_cons.1 ho
    unfold Tb.del
    split
    · exact h2
    · exact List.pairwise_cons.2 ⟨fun q hq => h1 q (Tb.mem_del hq), ih h2⟩
theorem Tb.at_del {α : Type} {l : Tb α} (ho : Once l) (k k' : Str) : (l.del k).at? k' = if k = k' then none else l.at? k' := by
  induction l with
  | nil => simp [Tb.del, Tb.at?_nil]
  | cons p l ih =>
    obtain ⟨h1, h2⟩ := List.pairwise_cons.1 ho
    unfold Tb.del
    by_cases e : p.1 = k
    · rw [if_pos e, Tb.at?_cons]
      by_cases h : k = k'
      · rw [if_pos h, Tb.at?_none fun q hq => by rw [← h, ← e]; exact (h1 q hq).symm]
      · rw [if_neg h, if_neg (by rw [e]; exact h)]
    · rw [if_neg e, Tb.at?_cons, Tb.at?_cons, ih h2]
      by_cases h : k = k'
      · rw [if_pos h, if_pos h, if_neg (by rw [← h]; exact e)]
      · rw [if_neg h, if_neg h]

theorem find_ent (k : Str) : ∀ (es : List MapEntry) (l : Tb Value) (i : Nat), es.map (fun e => (e.key, e.val)) = l.map ent →
    ((∀ x, x ∈ l → x.1 ≠ k) ∧ Instr.findNow .string (.string k) es i = some none) ∨ ∃ j, ∃ h : j < l.length, l[j].1 = k ∧ Instr.findNow .string (.string k) es i = some (some (i + j, l[j].2))
  | [], [], i, _ => .inl ⟨fun x hx => by simp at hx, rfl⟩
  | e :: es, p :: l, i, h => by
    simp only [List.map_cons, List.cons.injEq, ent, Prod.mk.injEq] at h
    obtain ⟨⟨hk, hv⟩, hr⟩ := h
    by_cases hp : p.1 = k
    · right
      refine ⟨0, by simp, hp, ?_⟩
      have hp1 : (k == p.1) = true := by rw [str_beq, decide_eq_true hp.symm]
      simp [Instr.findNow, hk, Instr.sameNow, hp1, hv]
    · have hp2 : (k == p.1) = false := by rw [str_beq, decide_eq_false (fun h => hp h.symm)]
      rcases find_ent k es l (i + 1) hr with ⟨h1, h2⟩ | ⟨j, hj, h1, h2⟩
      · refine .inl ⟨fun x hx => ?_, by simp [Instr.findNow, hk, Instr.sameNow, hp2, h2]⟩
        rcases List.mem_cons.1 hx with rfl | hx
        · exact hp
        · exact h1 x hx
      · refine .inr ⟨j + 1, by simp; omega, by simpa using h1, ?_⟩
        simp [Instr.findNow, hk, Instr.sameNow, hp2, h2]
        omega
  | [], _ :: _, _, h => by cases h
  | _ :: _, [], _, h => by cases h
theorem Tb.put_at {α : Type} {l : Tb α} (ho : Once l) {k : Str} {v : α} : ∀ {j : Nat} (h : j < l.length), l[j].1 = k → l.put k v = l.set j (k, v) := by
  induction l with
  | nil => intro j h; simp at h
  | cons p l ih =>
    obtain ⟨h1, h2⟩ := List.pairwise_cons.1 ho
    intro j h e
    cases j with
    | zero => simp only [List.getElem_cons_zero] at e; simp [Tb.put, e]
    | succ j =>
      simp only [List.getElem_cons_succ] at e
      have hj : j < l.length := by simpa using h
      have : p.1 ≠ k := by rw [← e]; exact h1 _ (List.getElem_mem hj)
      simp only [Tb.put, if_neg this, List.set_cons_succ, ih h2 hj e]
theorem Tb.put_new {α : Type} {l : Tb α} {k : Str} {v : α} (h : ∀ p ∈ l, p.1 ≠ k) : l.put k v = l ++ [(k, v)] := by
  induction l with
  | nil => rfl
  | cons p l ih => simp only [Tb.put, if_neg (h p (List.mem_cons_self ..)), ih fun q hq => h q (List.mem_cons_of_mem _ hq), List.cons_append]
theorem Tb.del_at {α : Type} {l : Tb α} (ho : Once l) {k : Str} : ∀ {j : Nat} (h : j < l.length), l[j].1 = k → l.del k = l.eraseIdx j := by
  induction l with
  | nil => intro j h; simp at h
  | cons p l ih =>
    obtain ⟨h1, h2⟩ := List.pairwise_cons.1 ho
    intro j h e
    cases j with
    | zero => simp only [List.getElem_cons_zero] at e; simp [Tb.del, e]
    | succ j =>
      simp only [List.getElem_cons_succ] at e
      have hj : j < l.length := by simpa using h
      have : p.1 ≠ k := by rw [← e]; exact h1 _ (List.getElem_mem hj)
      simp only [Tb.del, if_neg this, List.eraseIdx_cons_succ, ih h2 hj e]
theorem Tb.del_none {α : Type} {l : Tb α} {k : Str} (h : ∀ p ∈ l, p.1 ≠ k) : l.del k = l := by
  induction l with
  | nil => rfl
  | cons p l ih => simp only [Tb.del, if_neg (h p (List.mem_cons_self ..)), ih fun q hq => h q (List.mem_cons_of_mem _ hq)]
theorem Tb.at_getElem {α : Type} {l : Tb α} (ho : Once l) {k : Str} {j : Nat} (h : j < l.length) (e : l[j].1 = k) : l.at? k = some l[j].2 := by
  rw [← e]; exact Tb.mem_at ho (List.getElem_mem h)
variable {P : Program}
theorem check_k {k : TypeId} (hk : P.underlying k = some .string) (w : World) (em : Bool) (s : Str) : (Instr.checkKey em 10000 k (.string s)).run P w = .ok () w := by
  have h : ∀ n, (Instr.checkKey em (n + 1) k (.string s)).run P w = .ok () w := fun n => by
    simp [Instr.checkKey, run_underlying hk, Result.andThen]
  exact h 9999
theorem set_same {w : World} {b : Nat} {o : Obj} (h : w.heap[b]? = some o) (o' : Obj) : (setBlock w b o').heap[b]? = some o' := by
  have := (Array.getElem?_eq_some_iff.1 h).1
  simp [setBlock, this]
theorem set_other (w : World) (b : Nat) (o' : Obj) {i : Nat} (hn : i ≠ b) : (setBlock w b o').heap[i]? = w.heap[i]? := by
  simp only [setBlock, Array.getElem?_setIfInBounds, if_neg (fun e : b = i => hn e.symm)]
theorem grown_set (w : World) (b : Nat) (o' : Obj) : w.grownBy (setBlock w b o') (some b) :=
  ⟨rfl, rfl, rfl, by simp [setBlock], fun i hi hn => set_other w b _ (fun e => hn (by rw [e]))⟩
/-- 'm[k] = v'. -/
theorem run_put {t k e : TypeId} (ht : P.underlying t = some (.map k e)) (hk : P.underlying k = some .string) (w : World) (b : Nat) (l : Tb Value) (h : MapV w b l) (s : Str) (v : Value) :
    ∃ w', (Instr.mapUpdate t (.map (some b)) (.string s) v).run P w = .ok () w' ∧ MapV w' b (l.put s v) ∧ w.grownBy w' (some b) ∧ w'.heap.size = w.heap.size := by
  obtain ⟨ho, es, clock, hb, he, hbn, hnd⟩ := h
  rcases find_ent s es.toList l 0 he with ⟨hno, hf⟩ | ⟨j, hj, hkj, hf⟩
  · refine ⟨setBlock w b (.map (es.push ⟨.string s, v, clock⟩) (clock + 1)), ?_, ⟨ho.put s v, _, _, set_same hb _, ?_, ?_, ?_⟩, grown_set w b _, by simp [setBlock]⟩
    · simp [Instr.mapUpdate, run_underlying ht, MapKept.run_getObj_map hb, check_k hk, Instr.findKey, run_underlying hk, hf, MapKept.run_setObj_map _ hb, Result.andThen, setBlock]
    · rw [Tb.put_new hno, Array.toList_push, List.map_append, List.map_append, he]; rfl
    · intro x hx
      rw [Array.toList_push, List.mem_append, List.mem_singleton] at hx
      rcases hx with hx | rfl
      · have := hbn x hx; omega
      · show clock < clock + 1; omega
    · rw [Array.toList_push, List.map_append, List.nodup_append]
      refine ⟨hnd, by simp, fun a ha c hc => ?_⟩
      obtain ⟨x, hx, rfl⟩ := List.mem_map.1 ha
      simp only [List.map_cons, List.map_nil, List.mem_singleton] at hc
      subst hc
      have := hbn x hx
      omega
  · rw [Nat.zero_add] at hf
    have hlen : es.size = l.length := by have := congrArg List.length he; simpa using this
    have hjs : j < es.size := by omega
    have hej : es[j].key = .string s := by
      have := congrArg (fun x => x[j]?) he
      simp only [List.getElem?_map, Array.getElem?_toList, Array.getElem?_eq_getElem hjs, List.getElem?_eq_getElem hj, Option.map_some, Option.some.injEq, ent, Prod.mk.injEq] at this
      rw [this.1, hkj]
    have hst : (Instr.keyThatStays (((es[j]?).map (·.key)).getD (.string s)) (.string s)).run P w = .ok (.string s) w := by
      rw [Array.getElem?_eq_getElem hjs, Option.map_some, Option.getD_some, hej]
      have hkk : (s == s) = true := by rw [str_beq]; simp
      simp [Instr.keyThatStays, Instr.sameBits, hkk]
    have hmod : (es.modify j fun e => { e with key := .string s, val := v }).toList = es.toList.set j { es[j] with key := .string s, val := v } := by
      apply List.ext_getElem?
      intro i
      simp only [Array.getElem?_toList, Array.getElem?_modify, List.getElem?_set, Array.length_toList]
      by_cases q : j = i
      · subst q; simp [hjs]
      · simp [q]
    refine ⟨setBlock w b (.map (es.modify j fun e => { e with key := .string s, val := v }) clock), ?_, ⟨ho.put s v, _, _, set_same hb _, ?_, ?_, ?_⟩, grown_set w b _, by simp [setBlock]⟩
    · simp [Instr.mapUpdate, run_underlying ht, MapKept.run_getObj_map hb, check_k hk, Instr.findKey, run_underlying hk, hf, hst, MapKept.run_setObj_map _ hb, Result.andThen, setBlock]
    · rw [hmod, Tb.put_at ho hj hkj, List.map_set, List.map_set, he]; rfl
    · intro x hx
      rw [hmod] at hx
      rcases List.mem_or_eq_of_mem_set hx with hx | rfl
      · exact hbn x hx
      · exact hbn es[j] (by simp)
    · rw [hmod, List.map_set]
      have : (es.toList.map (·.born)).set j es[j].born = es.toList.map (·.born) := by
        apply List.ext_getElem?
        intro i
        rw [List.getElem?_set]
        by_cases q : j = i
        · subst q; simp [hjs]
        · simp [q]
      show ((es.toList.map (·.born)).set j es[j].born).Nodup
      rw [this]; exact hnd
/-- 'm[k]', 'v, ok := m[k]'. -/
theorem run_get {t k e : TypeId} {z : Value} (ht : P.underlying t = some (.map k e)) (hk : P.underlying k = some .string) (w : World) (hz : (zeroValue e).run P w = .ok z w) (b : Nat) (l : Tb Value) (h : MapV w b l) (s : Str) (ok : Bool) :
    (Instr.lookup t (.map (some b)) (.string s) ok).run P w = .ok (if ok then .tuple #[(l.at? s).getD z, .bool (l.at? s).isSome] else (l.at? s).getD z) w := by
  obtain ⟨ho, es, clock, hb, he, hbn, hnd⟩ := h
  rcases find_ent s es.toList l 0 he with ⟨hno, hf⟩ | ⟨j, hj, hkj, hf⟩
  · rw [Tb.at?_none hno]
    simp [Instr.lookup, run_underlying ht, MapKept.run_getObj_map hb, check_k hk, Instr.findKey, run_underlying hk, hf, hz, Result.andThen]
  · rw [Tb.at_getElem ho hj hkj]
    simp [Instr.lookup, run_underlying ht, MapKept.run_getObj_map hb, check_k hk, Instr.findKey, run_underlying hk, hf, Result.andThen]
/-- 'delete(m, k)'. -/
theorem run_del {t k e : TypeId} (ht : P.underlying t = some (.map k e)) (hk : P.underlying k = some .string) (w : World) (b : Nat) (l : Tb Value) (h : MapV w b l) (s : Str) (ts : Array TypeId) (hts : ts[0]? = some t) (ty : TypeId) :
    ∃ w', (Builtin.delete_ ts ty #[.map (some b), .string s]).run P w = .ok (.tuple #[]) w' ∧ MapV w' b (l.del s) ∧ w.grownBy w' (some b) ∧ w'.heap.size = w.heap.size := by
  obtain ⟨ho, es, clock, hb, he, hbn, hnd⟩ := h
  rcases find_ent s es.toList l 0 he with ⟨hno, hf⟩ | ⟨j, hj, hkj, hf⟩
  · refine ⟨setBlock w b (.map es clock), ?_, ⟨ho.del s, _, _, set_same hb _, ?_, hbn, hnd⟩, grown_set w b _, by simp [setBlock]⟩
    · simp [Builtin.delete_, hts, run_underlying ht, MapKept.run_getObj_map hb, check_k hk, Instr.findKey, run_underlying hk, hf, MapKept.run_setObj_map _ hb, Result.andThen, setBlock]
    · rw [Tb.del_none hno, he]
  · rw [Nat.zero_add] at hf
    have hlen : es.size = l.length := by have := congrArg List.length he; simpa using this
    have hjs : j < es.size := by omega
    have hsub : (es.eraseIdxIfInBounds j).toList = es.toList.eraseIdx j := by simp [Array.eraseIdxIfInBounds, hjs]
    refine ⟨setBlock w b (.map (es.eraseIdxIfInBounds j) clock), ?_, ⟨ho.del s, _, _, set_same hb _, ?_, ?_, ?_⟩, grown_set w b _, by simp [setBlock]⟩
    · simp [Builtin.delete_, hts, run_underlying ht, MapKept.run_getObj_map hb, check_k hk, Instr.findKey, run_underlying hk, hf, MapKept.run_setObj_map _ hb, Result.andThen, setBlock]
    · rw [hsub, Tb.del_at ho hj hkj, map_eraseIdx, map_eraseIdx, he]
    · intro x hx
      rw [hsub] at hx
      exact hbn x (List.mem_of_mem_eraseIdx hx)
    · rw [hsub, map_eraseIdx]
      exact hnd.sublist (List.eraseIdx_sublist _ _)
/-- 'len(m)'. -/
theorem run_many {t k e : TypeId} (ht : P.underlying t = some (.map k e)) (w : World) (b : Nat) (l : Tb Value) (h : MapV w b l) (ty : TypeId) : (Builtin.len_ #[t] ty #[.map (some b)]).run P w = .ok (.int .i64 (l.length : Int)) w := by
  obtain ⟨ho, es, clock, hb, he, _⟩ := h
  have hl : es.size = l.length := by have := congrArg List.length he; simpa using this
  simp [Builtin.len_, run_underlying ht, MapKept.run_getObj_map hb, goInt, Result.andThen, hl]
/-- Block r goes through the map in block b: 'todo' is what it has not handed out. -/
def RangeV (w : World) (r b : Nat) (l todo : Tb Value) : Prop :=
  Once l ∧ ∃ es clock seen last, w.heap[b]? = some (.map es clock) ∧ es.toList.map (fun e => (e.key, e.val)) = l.map ent ∧ (∀ x ∈ es.toList, x.born < clock) ∧ (es.toList.map (·.born)).Nodup ∧
    w.heap[r]? = some (.mapIter (some b) clock seen last) ∧ clock ≤ last ∧ (leftOf es seen).toList.map (fun e => (e.key, e.val)) = todo.map ent
theorem RangeV.map {w : World} {r b : Nat} {l todo : Tb Value} (h : RangeV w r b l todo) : MapV w b l := by
  obtain ⟨ho, es, clock, seen, last, hb, he, h1, h2, _⟩ := h
  exact ⟨ho, es, clock, hb, he, h1, h2⟩
theorem RangeV.lt {w : World} {r b : Nat} {l todo : Tb Value} (h : RangeV w r b l todo) : r < w.heap.size := by
  obtain ⟨ho, es, clock, seen, last, hb, he, h1, h2, hr, _⟩ := h
  exact (Array.getElem?_eq_some_iff.1 hr).1
theorem RangeV.block {w w' : World} {r b : Nat} {l todo : Tb Value} (h : RangeV w r b l todo) (k1 : w'.heap[b]? = w.heap[b]?) (k2 : w'.heap[r]? = w.heap[r]?) : RangeV w' r b l todo := by
  obtain ⟨ho, es, clock, seen, last, hb, he, h1, h2, hr, h3⟩ := h
  exact ⟨ho, es, clock, seen, last, k1.trans hb, he, h1, h2, k2.trans hr, h3⟩
theorem ent_inj {a b : List (Str × Value)} (h : a.map ent = b.map ent) : a = b := by
  induction a generalizing b with
  | nil => cases b with
    | nil => rfl
    | cons => cases h
  | cons p a ih => cases b with
    | nil => cases h
    | cons q b =>
      simp only [List.map_cons, List.cons.injEq, ent, Prod.mk.injEq, Value.string.injEq] at h
      rw [ih h.2, Prod.ext h.1.1 h.1.2]
theorem keys_of {es : List MapEntry} {l : Tb Value} (h : es.map (fun e => (e.key, e.val)) = l.map ent) {e : MapEntry} (he : e ∈ es) : ∃ p, p ∈ l ∧ e.key = .string p.1 ∧ e.val = p.2 := by
  have : (e.key, e.val) ∈ l.map ent := by rw [← h]; exact List.mem_map.2 ⟨e, he, rfl⟩
  obtain ⟨p, hp, q⟩ := List.mem_map.1 this
  simp only [ent, Prod.mk.injEq] at q
  exact ⟨p, hp, q.1.symm, q.2.symm⟩
theorem sub_of {es : List MapEntry} {l : Tb Value} (h : es.map (fun e => (e.key, e.val)) = l.map ent) : ∀ {es' : List MapEntry}, es'.Sublist es → ∃ l' : Tb Value, l'.Sublist l ∧ es'.map (fun e => (e.key, e.val)) = l'.map ent := by
  intro es' hs
  have h2 : (es'.map fun e => (e.key, e.val)).Sublist (l.map ent) := by rw [← h]; exact hs.map _
  obtain ⟨l', h3, h4⟩ := List.sublist_map_iff.1 h2
  exact ⟨l', h3, h4⟩
theorem run_range {t k e : TypeId} (ht : P.underlying t = some (.map k e)) (w : World) (b : Nat) (l : Tb Value) (h : MapV w b l) :
    ∃ w', (Instr.range t (.map (some b))).run P w = .ok (.pointer (some ⟨w.heap.size, 0, none⟩)) w' ∧ RangeV w' w.heap.size b l l ∧ w.grownBy w' none ∧ w'.heap.size = w.heap.size + 1 := by
  have hlt := h.lt
  obtain ⟨ho, es, clock, hb, he, h1, h2⟩ := h
  have hg : w.grownBy (w.alloc (.mapIter (some b) clock #[] clock)) none := World.grownBy_alloc w _ none
  refine ⟨_, run_range_map w t k e b es clock ht hb, ⟨ho, es, clock, #[], clock, (hg.block b hlt (by simp)).trans hb, he, h1, h2, heap_alloc_new w _, Nat.le_refl _, ?_⟩, hg, by show (w.heap.push _).size = _; simp⟩
  have : leftOf es #[] = es := by unfold leftOf; simp
  rw [this, he]
theorem left_push (es : Array MapEntry) (seen : Array Nat) (e : MapEntry) : (leftOf es (seen.push e.born)).toList = (leftOf es seen).toList.filter (fun x => !(x.born == e.born)) := by
  unfold leftOf
  simp only [Array.toList_filter, List.filter_filter]
  refine List.filter_congr fun x _ => ?_
  simp only [Array.contains_push, Bool.not_or]
  rw [Bool.and_comm]
theorem filter_born : ∀ {L : List MapEntry} {T : Tb Value} {e : MapEntry}, (L.map (·.born)).Nodup → L.map (fun e => (e.key, e.val)) = T.map ent → e ∈ L →
    ∃ (A B : Tb Value) (p : Str × Value), T = A ++ p :: B ∧ e.key = .string p.1 ∧ e.val = p.2 ∧ (L.filter (fun x => !(x.born == e.born))).map (fun e => (e.key, e.val)) = (A ++ B).map ent
  | [], _, _, _, _, he => by cases he
  | x :: L, [], _, _, h, _ => by cases h
  | x :: L, q :: T, e, hn, h, he => by
    simp only [List.map_cons, List.nodup_cons] at hn
    simp only [List.map_cons, List.cons.injEq] at h
    rcases List.mem_cons.1 he with rfl | he
    · refine ⟨[], T, q, rfl, ?_, ?_, ?_⟩
      · have := h.1; simp only [ent, Prod.mk.injEq] at this; exact this.1
      · have := h.1; simp only [ent, Prod.mk.injEq] at this; exact this.2
      · rw [List.filter_cons, if_neg (by simp)]
        have : L.filter (fun y => !(y.born == e.born)) = L := List.filter_eq_self.2 fun y hy => by
          have : y.born ≠ e.born := fun q => hn.1 (by rw [← q]; exact List.mem_map.2 ⟨y, hy, rfl⟩)
          simpa using this
        rw [this, List.nil_append, h.2]
    · obtain ⟨A, B, p, rfl, h1, h2, h3⟩ := filter_born hn.2 h.2 he
      refine ⟨q :: A, B, p, rfl, h1, h2, ?_⟩
      have : x.born ≠ e.born := fun q => hn.1 (by rw [q]; exact List.mem_map.2 ⟨e, he, rfl⟩)
      rw [List.filter_cons, if_pos (by simpa using this), List.map_cons, h3, h.1]
      rfl
/-- The step. -/
theorem run_next (w : World) (ty : TypeId) (r b : Nat) (l todo : Tb Value) (h : RangeV w r b l todo) :
    (todo = [] ∧ (Instr.next (.pointer (some ⟨r, 0, none⟩)) false ty).run P w = .ok (.tuple #[.bool false]) w) ∨
    ∃ (A B : Tb Value) (p : Str × Value) (w' : World), todo = A ++ p :: B ∧ (Instr.next (.pointer (some ⟨r, 0, none⟩)) false ty).run P w = .ok (.tuple #[.bool true, .string p.1, p.2]) w' ∧
      RangeV w' r b l (A ++ B) ∧ w.grownBy w' (some r) ∧ w'.heap.size = w.heap.size ∧ (Instr.entry (.pointer (some ⟨r, 0, none⟩))).run P w' = .ok (.tuple #[.string p.1, p.2]) w' := by
  have hrb : r ≠ b := by
    obtain ⟨ho, es, clock, seen, last, hb, he, h1, h2, hr, hcl, ht⟩ := h
    intro e
    rw [e, hb] at hr
    cases hr
  obtain ⟨ho, es, clock, seen, last, hb, he, h1, h2, hr, hcl, ht⟩ := h
  rcases run_next_at w ty r b clock last seen es clock hr hb h1 hcl with ⟨h0, hrun⟩ | ⟨e, hel, w1, hal, hrun⟩
  · left
    refine ⟨?_, hrun⟩
    have h3 : (leftOf es seen).toList = [] := by
      have := Array.eq_empty_of_size_eq_zero h0
      rw [this]
    rw [h3] at ht
    cases todo with
    | nil => rfl
    | cons => cases ht
  · right
    have hsub : ((leftOf es seen).toList.map (·.born)).Nodup := by
      refine List.Sublist.nodup ?_ h2
      unfold leftOf
      rw [Array.toList_filter]
      exact (List.filter_sublist).map _
    obtain ⟨A, B, p, rfl, hk, hv, hf⟩ := filter_born hsub ht hel
    have hr1 : w1.heap[r]? = some (.mapIter (some b) clock seen last) := by rcases hal with rfl | rfl <;> exact hr
    have hb1 : w1.heap[b]? = some (.map es clock) := by rcases hal with rfl | rfl <;> exact hb
    have hg1 : w.grownBy w1 none := by
      rcases hal with rfl | rfl
      · exact ⟨rfl, rfl, rfl, Nat.le_refl _, fun _ _ _ => rfl⟩
      · exact ⟨rfl, rfl, rfl, Nat.le_refl _, fun _ _ _ => rfl⟩
    have hb2 : (setBlock w1 r (.mapIter (some b) clock (seen.push e.born) clock)).heap[b]? = some (.map es clock) := (set_other w1 r _ (fun q => hrb q.symm)).trans hb1
    have hr2 : (setBlock w1 r (.mapIter (some b) clock (seen.push e.born) clock)).heap[r]? = some (.mapIter (some b) clock (seen.push e.born) clock) := set_same hr1 _
    refine ⟨A, B, p, setBlock w1 r (.mapIter (some b) clock (seen.push e.born) clock), rfl, ?_, ⟨ho, es, clock, seen.push e.born, clock, hb2, he, h1, h2, hr2, Nat.le_refl _, ?_⟩, ?_, ?_, ?_⟩
    · rw [hrun, hk, hv]
    · rw [left_push]; exact hf
    · have hg2 := grown_set w1 r (.mapIter (some b) clock (seen.push e.born) clock)
      exact ⟨hg2.os.trans hg1.os, hg2.tape.trans hg1.tape, hg2.output.trans hg1.output, Nat.le_trans hg1.size hg2.size, fun i hi hn => (hg2.block i (Nat.lt_of_lt_of_le hi hg1.size) hn).trans (hg1.block i hi (by simp))⟩
    · have : w1.heap.size = w.heap.size := by rcases hal with rfl | rfl <;> rfl
      simp [setBlock, this]
    · rw [run_entry_at _ r b clock seen es clock e hr2 hb2 (mem_left hel).1 h2, hk, hv]
theorem wp_map_put {P : Program} {o : Oper} {a : Act} {w : World} {K : Act → World → Prop} {Q : Exit → Act → World → Prop}
    (t : TypeId) (m x v : Operand) (hop : o.op = Op.mapUpdate t m x v) {k e : TypeId} (ht : P.underlying t = some (.map k e)) (hk : P.underlying k = some .string) (b : Nat) (l : Tb Value) (hm : a.eval m = .map (some b)) (h : MapV w b l) (s : Str) (hx : a.eval x = .string s)
    (hK : ∀ w', MapV w' b (l.put s (a.eval v)) → w.grownBy w' (some b) → w'.heap.size = w.heap.size → K (a.put o.dst undef) w') : o.wp P a w K Q := by
  obtain ⟨w', hrun, r1, r2, r3⟩ := run_put ht hk w b l h s (a.eval v)
  unfold Oper.wp
  simp [execOp, hop, hm, hx, hrun, Result.andThen]
  exact hK w' r1 r2 r3
theorem wpList_map_put {P : Program} {ops : Array Oper} {rest : List Oper} {o : Oper} {a : Act} {w : World} {Q : Exit → Act → World → Prop} (hg : o.guard = none)
    (t : TypeId) (m x v : Operand) (hop : o.op = Op.mapUpdate t m x v) {k e : TypeId} (ht : P.underlying t = some (.map k e)) (hk : P.underlying k = some .string) (b : Nat) (l : Tb Value) (hm : a.eval m = .map (some b)) (h : MapV w b l) (s : Str) (hx : a.eval x = .string s)
    (hK : ∀ w', MapV w' b (l.put s (a.eval v)) → w.grownBy w' (some b) → w'.heap.size = w.heap.size → wpList P ops Q rest (a.put o.dst undef) w') : wpList P ops Q (o :: rest) a w := by
  refine wpList_plain hg fun K' hK' => ?_
  obtain ⟨w', hrun, r1, r2, r3⟩ := run_put ht hk w b l h s (a.eval v)
  unfold Oper.wp
  simp [execOp, hop, hm, hx, hrun, Result.andThen]
  exact hK' _ _ (hK w' r1 r2 r3)
theorem wp_map_get {P : Program} {o : Oper} {a : Act} {w : World} {K : Act → World → Prop} {Q : Exit → Act → World → Prop}
    (t : TypeId) (m x : Operand) (ok : Bool) (hop : o.op = Op.lookup t m x ok) {k e : TypeId} {z : Value} (ht : P.underlying t = some (.map k e)) (hk : P.underlying k = some .string) (hz : (zeroValue e).run P w = .ok z w) (b : Nat) (l : Tb Value) (hm : a.eval m = .map (some b)) (h : MapV w b l) (s : Str) (hx : a.eval x = .string s)
    (hK : K (a.put o.dst (if ok then .tuple #[(l.at? s).getD z, .bool (l.at? s).isSome] else (l.at? s).getD z)) w) : o.wp P a w K Q := by
  have hrun := run_get ht hk w hz b l h s ok
  unfold Oper.wp
  simp [execOp, hop, hm, hx, hrun, Result.andThen]
  exact hK
theorem wpList_map_get {P : Program} {ops : Array Oper} {rest : List Oper} {o : Oper} {a : Act} {w : World} {Q : Exit → Act → World → Prop} (hg : o.guard = none)
    (t : TypeId) (m x : Operand) (ok : Bool) (hop : o.op = Op.lookup t m x ok) {k e : TypeId} {z : Value} (ht : P.underlying t = some (.map k e)) (hk : P.underlying k = some .string) (hz : (zeroValue e).run P w = .ok z w) (b : Nat) (l : Tb Value) (hm : a.eval m = .map (some b)) (h : MapV w b l) (s : Str) (hx : a.eval x = .string s)
    (hK : wpList P ops Q rest (a.put o.dst (if ok then .tuple #[(l.at? s).getD z, .bool (l.at? s).isSome] else (l.at? s).getD z)) w) : wpList P ops Q (o :: rest) a w := by
  refine wpList_plain hg fun K' hK' => ?_
  have hrun := run_get ht hk w hz b l h s ok
  unfold Oper.wp
  simp [execOp, hop, hm, hx, hrun, Result.andThen]
  exact hK' _ _ (hK)
theorem wp_map_del {P : Program} {o : Oper} {a : Act} {w : World} {K : Act → World → Prop} {Q : Exit → Act → World → Prop}
    (m x : Operand) (t t2 : TypeId) (hop : o.op = Op.call { callee := Callee.builtin Builtin.delete, args := #[m, x], argTypes := #[t, t2] }) {k e : TypeId} (ht : P.underlying t = some (.map k e)) (hk : P.underlying k = some .string) (b : Nat) (l : Tb Value) (hm : a.eval m = .map (some b)) (h : MapV w b l) (s : Str) (hx : a.eval x = .string s)
    (hK : ∀ w', MapV w' b (l.del s) → w.grownBy w' (some b) → w'.heap.size = w.heap.size → K (a.put o.dst (.tuple #[])) w') : o.wp P a w K Q := by
  obtain ⟨w', hrun, r1, r2, r3⟩ := run_del ht hk w b l h s #[t, t2] rfl o.type
  unfold Oper.wp
  simp [execOp, hop, resolve, invoke, builtin, hm, hx, hrun, Result.andThen]
  exact hK w' r1 r2 r3
theorem wpList_map_del {P : Program} {ops : Array Oper} {rest : List Oper} {o : Oper} {a : Act} {w : World} {Q : Exit → Act → World → Prop} (hg : o.guard = none)
    (m x : Operand) (t t2 : TypeId) (hop : o.op = Op.call { callee := Callee.builtin Builtin.delete, args := #[m, x], argTypes := #[t, t2] }) {k e : TypeId} (ht : P.underlying t = some (.map k e)) (hk : P.underlying k = some .string) (b : Nat) (l : Tb Value) (hm : a.eval m = .map (some b)) (h : MapV w b l) (s : Str) (hx : a.eval x = .string s)
    (hK : ∀ w', MapV w' b (l.del s) → w.grownBy w' (some b) → w'.heap.size = w.heap.size → wpList P ops Q rest (a.put o.dst (.tuple #[])) w') : wpList P ops Q (o :: rest) a w := by
  refine wpList_plain hg fun K' hK' => ?_
  obtain ⟨w', hrun, r1, r2, r3⟩ := run_del ht hk w b l h s #[t, t2] rfl o.type
  unfold Oper.wp
  simp [execOp, hop, resolve, invoke, builtin, hm, hx, hrun, Result.andThen]
  exact hK' _ _ (hK w' r1 r2 r3)
theorem wp_map_range {P : Program} {o : Oper} {a : Act} {w : World} {K : Act → World → Prop} {Q : Exit → Act → World → Prop}
    (m : Operand) (t : TypeId) (hop : o.op = Op.range t m) {k e : TypeId} (ht : P.underlying t = some (.map k e)) (b : Nat) (l : Tb Value) (hm : a.eval m = .map (some b)) (h : MapV w b l)
    (hK : ∀ w', RangeV w' w.heap.size b l l → w.grownBy w' none → w'.heap.size = w.heap.size + 1 → K (a.put o.dst (.pointer (some ⟨w.heap.size, 0, none⟩))) w') : o.wp P a w K Q := by
  obtain ⟨w', hrun, r1, r2, r3⟩ := run_range ht w b l h
  unfold Oper.wp
  simp [execOp, hop, hm, hrun, Result.andThen]
  exact hK w' r1 r2 r3
theorem wpList_map_range {P : Program} {ops : Array Oper} {rest : List Oper} {o : Oper} {a : Act} {w : World} {Q : Exit → Act → World → Prop} (hg : o.guard = none)
    (m : Operand) (t : TypeId) (hop : o.op = Op.range t m) {k e : TypeId} (ht : P.underlying t = some (.map k e)) (b : Nat) (l : Tb Value) (hm : a.eval m = .map (some b)) (h : MapV w b l)
    (hK : ∀ w', RangeV w' w.heap.size b l l → w.grownBy w' none → w'.heap.size = w.heap.size + 1 → wpList P ops Q rest (a.put o.dst (.pointer (some ⟨w.heap.size, 0, none⟩))) w') : wpList P ops Q (o :: rest) a w := by
  refine wpList_plain hg fun K' hK' => ?_
  obtain ⟨w', hrun, r1, r2, r3⟩ := run_range ht w b l h
  unfold Oper.wp
  simp [execOp, hop, hm, hrun, Result.andThen]
  exact hK' _ _ (hK w' r1 r2 r3)
theorem wpList_map_next {P : Program} {ops : Array Oper} {rest : List Oper} {o : Oper} {a : Act} {w : World} {Q : Exit → Act → World → Prop} (hg : o.guard = none)
    (it : Operand) (hop : o.op = Op.next it false) (r b : Nat) (l todo : Tb Value) (hit : a.eval it = .pointer (some ⟨r, 0, none⟩)) (h : RangeV w r b l todo)
    (hDone : todo = [] → wpList P ops Q rest (a.put o.dst (.tuple #[.bool false])) w)
    (hMore : ∀ (A B : Tb Value) (p : Str × Value) (w' : World), todo = A ++ p :: B → RangeV w' r b l (A ++ B) → w.grownBy w' (some r) → w'.heap.size = w.heap.size →
      (Instr.entry (.pointer (some ⟨r, 0, none⟩))).run P w' = .ok (.tuple #[.string p.1, p.2]) w' → wpList P ops Q rest (a.put o.dst (.tuple #[.bool true, .string p.1, p.2])) w') :
    wpList P ops Q (o :: rest) a w := by
  refine wpList_plain hg fun K' hK' => ?_
  unfold Oper.wp
  rcases run_next (P := P) w o.type r b l todo h with ⟨h0, hrun⟩ | ⟨A, B, p, w', ht, hrun, hr, hgr, hsz, hen⟩
  · simp [execOp, hop, hit, hrun, Result.andThen]
    exact hK' _ _ (hDone h0)
  · simp [execOp, hop, hit, hrun, Result.andThen]
    exact hK' _ _ (hMore A B p w' ht hr hgr hsz hen)
end Go.Proofs.Ytfchjdhjbepocaa
