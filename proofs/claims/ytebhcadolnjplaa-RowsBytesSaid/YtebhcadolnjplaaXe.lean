/- Rows: all rows lie in the span of all; as many as the map has. -/
import Derived.Test.YtebhcadolnjplaaXd
import Derived.Maps.OwnOps
namespace Go.Proofs.Ytebhcadolnjplaa
open Go.RowKit Go.ChangeMaps

/-- No key stands twice. -/
def Once (l : List Rw) : Prop := l.Pairwise fun a b => a.key ≠ b.key
/-- Block b is a map of these. -/
def MapAt (w : World) (b : Nat) (l : List Rw) : Prop := Once l ∧ ∃ es clock, w.heap[b]? = some (.map es clock) ∧ es.toList.map (fun e => (e.key, e.val)) = l.map fun p => (Value.string p.key, Value.string p.val)
theorem MapAt.lt {w : World} {b : Nat} {l : List Rw} (h : MapAt w b l) : b < w.heap.size := by
  obtain ⟨_, es, clock, hb, _⟩ := h
  exact (Array.getElem?_eq_some_iff.1 hb).1
theorem MapAt.ok {w w' : World} {b : Nat} {l : List Rw} (h : MapAt w b l) (k : Ok w w') : MapAt w' b l := by
  have hl := h.lt
  obtain ⟨ho, es, clock, hb, he⟩ := h
  exact ⟨ho, es, clock, (k.block b hl).trans hb, he⟩
theorem MapAt.grown {w w' : World} {b : Nat} {l : List Rw} {r : Option Nat} (h : MapAt w b l) (k : w.grownBy w' r) (hn : some b ≠ r) : MapAt w' b l := by
  have hl := h.lt
  obtain ⟨ho, es, clock, hb, he⟩ := h
  exact ⟨ho, es, clock, (k.block b hl hn).trans hb, he⟩
theorem MapAt.new (w : World) : MapAt (w.alloc (.map #[] 0)) w.heap.size [] := ⟨List.Pairwise.nil, #[], 0, by show (w.heap.push _)[w.heap.size]? = _; simp, rfl⟩
theorem str_beq (a b : ByteArray) : (a == b) = decide (a = b) := by
  rcases a with ⟨x⟩
  rcases b with ⟨y⟩
  have e : (ByteArray.mk x == ByteArray.mk y) = (x == y) := rfl
  rw [e, Bool.eq_iff_iff, decide_eq_true_eq, beq_iff_eq, ByteArray.mk.injEq]
theorem find_ent (k : Str) : ∀ (es : List MapEntry) (l : List Rw) (i : Nat), es.map (fun e => (e.key, e.val)) = l.map (fun p => (Value.string p.key, Value.string p.val)) →
    ((∀ x, x ∈ l → x.key ≠ k) ∧ Instr.findNow .string (.string k) es i = some none) ∨ ∃ j, j < l.length ∧ (rwA l j).key = k ∧ Instr.findNow .string (.string k) es i = some (some (i + j, .string (rwA l j).val))
  | [], [], i, _ => .inl ⟨fun x hx => by simp at hx, rfl⟩
  | e :: es, p :: l, i, h => by
    simp only [List.map_cons, List.cons.injEq, Prod.mk.injEq] at h
    obtain ⟨⟨hk, hv⟩, hr⟩ := h
    by_cases hp : p.key = k
    · right
      refine ⟨0, by simp, hp, ?_⟩
      have hp1 : (k == p.key) = true := by rw [str_beq, decide_eq_true hp.symm]
      simp [Instr.findNow, hk, Instr.sameNow, hp1, hv, rwA]
    · have hp2 : (k == p.key) = false := by rw [str_beq, decide_eq_false (fun h => hp h.symm)]
      rcases find_ent k es l (i + 1) hr with ⟨h1, h2⟩ | ⟨j, hj, h1, h2⟩
      · refine .inl ⟨fun x hx => ?_, by simp [Instr.findNow, hk, Instr.sameNow, hp2, h2]⟩
        rcases List.mem_cons.1 hx with rfl | hx
        · exact hp
        · exact h1 x hx
      · refine .inr ⟨j + 1, by simp; omega, h1, ?_⟩
        simp [Instr.findNow, hk, Instr.sameNow, hp2, h2]
        refine ⟨by omega, rfl⟩
  | [], _ :: _, _, h => by cases h
  | _ :: _, [], _, h => by cases h
theorem check_k (w : World) (em : Bool) (k : Str) : (Instr.checkKey em 10000 9 (.string k)).run Try.prog w = .ok () w := by
  have h : ∀ n, (Instr.checkKey em (n + 1) 9 (.string k)).run Try.prog w = .ok () w := fun n => by
    simp [Instr.checkKey, run_underlying Try.underlying9, Result.andThen]
  exact h 9999
/-- l' is what the map holds behind 'm[r.key] = r.val'. -/
def Wrote (l : List Rw) (r : Rw) (l' : List Rw) : Prop := Once l' ∧ ∀ x, x ∈ l' ↔ x = r ∨ (x ∈ l ∧ x.key ≠ r.key)
theorem once_inj {l : List Rw} (h : Once l) {i j : Nat} (hi : i < l.length) (hj : j < l.length) (e : (rwA l i).key = (rwA l j).key) : i = j := by
  have hg : ∀ k (hk : k < l.length), rwA l k = l[k] := fun k hk => by unfold rwA; rw [List.getD_eq_getElem?_getD, List.getElem?_eq_getElem hk]; rfl
  rw [hg i hi, hg j hj] at e
  rcases Nat.lt_trichotomy i j with q | q | q
  · exact absurd e (List.pairwise_iff_getElem.1 h i j hi hj q)
  · exact q
  · exact absurd e.symm (List.pairwise_iff_getElem.1 h j i hj hi q)
theorem once_of {l : List Rw} (h : ∀ i j, i < j → j < l.length → (rwA l i).key ≠ (rwA l j).key) : Once l := by
  have hg : ∀ k (hk : k < l.length), rwA l k = l[k] := fun k hk => by unfold rwA; rw [List.getD_eq_getElem?_getD, List.getElem?_eq_getElem hk]; rfl
  exact List.pairwise_iff_getElem.2 fun i j hi hj hij => by rw [← hg i hi, ← hg j hj]; exact h i j hij hj
theorem ent_at {es : List MapEntry} {l : List Rw} (h : es.map (fun e => (e.key, e.val)) = l.map fun p => (Value.string p.key, Value.string p.val)) (j : Nat) (hj : j < l.length) : ∃ e, es[j]? = some e ∧ e.key = .string (rwA l j).key ∧ e.val = .string (rwA l j).val := by
  have hl : es.length = l.length := by have := congrArg List.length h; simpa using this
  have hg : rwA l j = l[j] := by unfold rwA; rw [List.getD_eq_getElem?_getD, List.getElem?_eq_getElem hj]; rfl
  have := congrArg (fun x => x[j]?) h
  simp only [List.getElem?_map, List.getElem?_eq_getElem hj, List.getElem?_eq_getElem (show j < es.length by omega), Option.map_some, Option.some.injEq, Prod.mk.injEq] at this
  exact ⟨es[j], List.getElem?_eq_getElem (by omega), by rw [this.1, hg], by rw [this.2, hg]⟩
theorem run_put (w : World) (b : Nat) (l : List Rw) (h : MapAt w b l) (k v : Str) :
    ∃ w' l', (Instr.mapUpdate 108 (.map (some b)) (.string k) (.string v)).run Try.prog w = .ok () w' ∧ MapAt w' b l' ∧ Wrote l ⟨k, v⟩ l' ∧ w.grownBy w' (some b) := by
  obtain ⟨ho, es, clock, hb, he⟩ := h
  have hgr : ∀ o, w.grownBy (setBlock w b o) (some b) := fun o => ⟨rfl, rfl, rfl, by simp [setBlock], fun i hi hn => heap_setBlock_other hb _ (fun e => hn (by rw [e]))⟩
  rcases find_ent k es.toList l 0 he with ⟨hno, hf⟩ | ⟨j, hj, hk, hf⟩
  · refine ⟨setBlock w b (.map (es.push ⟨.string k, .string v, clock⟩) (clock + 1)), l ++ [⟨k, v⟩], ?_, ⟨?_, _, _, heap_setBlock_same hb _, ?_⟩, ⟨?_, fun x => ?_⟩, hgr _⟩
    · simp [Instr.mapUpdate, run_underlying Try.underlying108, MapKept.run_getObj_map hb, check_k, Instr.findKey, run_underlying Try.underlying9, hf, MapKept.run_setObj_map _ hb, Result.andThen, setBlock]
    · exact List.pairwise_append.2 ⟨ho, List.pairwise_singleton _ _, fun a ha c hc => by rw [List.mem_singleton.1 hc]; exact hno a ha⟩
    · rw [Array.toList_push, List.map_append, List.map_append, he]; rfl
    · exact List.pairwise_append.2 ⟨ho, List.pairwise_singleton _ _, fun a ha c hc => by rw [List.mem_singleton.1 hc]; exact hno a ha⟩
    · rw [List.mem_append, List.mem_singleton]
      constructor
      · rintro (q | q)
        · exact .inr ⟨q, hno x q⟩
        · exact .inl q
      · rintro (q | ⟨q, _⟩)
        · exact .inr q
        · exact .inl q
  · obtain ⟨e0, he0, hek, hev⟩ := ent_at he j hj
    rw [Nat.zero_add] at hf
    have hs := rwA_set l j ⟨k, v⟩ hj
    have hkey : ∀ i, (rwA (l.set j ⟨k, v⟩) i).key = (rwA l i).key := fun i => by
      rw [hs]; split
      · rename_i e; rw [e, hk]
      · rfl
    have honce : Once (l.set j ⟨k, v⟩) := once_of (fun i m him hm => by
      rw [List.length_set] at hm
      rw [hkey, hkey]
      intro e
      have := once_inj ho (by omega) hm e
      omega)
    have hst : (Instr.keyThatStays (((es[j]?).map (·.key)).getD (.string k)) (.string k)).run Try.prog w = .ok (.string k) w := by
      have : es[j]? = some e0 := by rw [← Array.getElem?_toList]; exact he0
      rw [this, Option.map_some, Option.getD_some, hek, hk]
      have hkk : (k == k) = true := by rw [str_beq]; simp
      simp [Instr.keyThatStays, Instr.sameBits, hkk]
    refine ⟨setBlock w b (.map (es.modify j fun e => { e with key := .string k, val := .string v }) clock), l.set j ⟨k, v⟩, ?_, ⟨honce, _, _, heap_setBlock_same hb _, ?_⟩, ⟨honce, fun x => ?_⟩, hgr _⟩
    · simp [Instr.mapUpdate, run_underlying Try.underlying108, MapKept.run_getObj_map hb, check_k, Instr.findKey, run_underlying Try.underlying9, hf, hst, MapKept.run_setObj_map _ hb, Result.andThen, setBlock]
    · apply List.ext_getElem?
      intro i
      have hm := congrArg (fun x => x[i]?) he
      simp only [List.getElem?_map, Array.getElem?_toList, Array.getElem?_modify, List.getElem?_set] at hm ⊢
      by_cases e : j = i
      · subst e
        have hlen : j < es.size := by
          have := congrArg List.length he
          simp at this; omega
        simp [hj, hlen]
      · simp [e, hm]
    · rw [mem_rwA]
      constructor
      · rintro ⟨i, hi, rfl⟩
        rw [List.length_set] at hi
        rw [hs]
        by_cases e : i = j
        · rw [if_pos e]; exact .inl rfl
        · rw [if_neg e]
          exact .inr ⟨rwA_mem l i hi, fun q => e (once_inj ho hi hj (q.trans hk.symm))⟩
      · rintro (rfl | ⟨q, hn⟩)
        · exact ⟨j, by rw [List.length_set]; exact hj, by rw [hs, if_pos rfl]⟩
        · obtain ⟨i, hi, rfl⟩ := (mem_rwA _ _).1 q
          have e : i ≠ j := fun e => hn (by rw [e]; exact hk)
          exact ⟨i, by rw [List.length_set]; exact hi, by rw [hs, if_neg e]⟩
theorem run_get (w : World) (b : Nat) (l : List Rw) (h : MapAt w b l) (x : Rw) (hx : x ∈ l) : (Instr.lookup 108 (.map (some b)) (.string x.key) false).run Try.prog w = .ok (.string x.val) w := by
  obtain ⟨ho, es, clock, hb, he⟩ := h
  rcases find_ent x.key es.toList l 0 he with ⟨hno, _⟩ | ⟨j, hj, hk, hf⟩
  · exact absurd rfl (hno x hx)
  · obtain ⟨i, hi, rfl⟩ := (mem_rwA _ _).1 hx
    obtain rfl := once_inj ho hj hi hk
    simp [Instr.lookup, run_underlying Try.underlying108, MapKept.run_getObj_map hb, check_k, Instr.findKey, run_underlying Try.underlying9, hf, Result.andThen]
theorem run_many (w : World) (b : Nat) (l : List Rw) (h : MapAt w b l) (ty : TypeId) : (Builtin.len_ #[108] ty #[.map (some b)]).run Try.prog w = .ok (.int .i64 (l.length : Int)) w := by
  obtain ⟨ho, es, clock, hb, he⟩ := h
  have hl : es.size = l.length := by have := congrArg List.length he; simpa using this
  simp [Builtin.len_, run_underlying Try.underlying108, MapKept.run_getObj_map hb, goInt, Result.andThen, hl]
end Go.Proofs.Ytebhcadolnjplaa
namespace Go.Proofs.Ytebhcadolnjplaa
open Go.RowKit

theorem lastIn_mem {xs : List Rw} {x : Rw} (h : LastIn xs x) : x ∈ xs := by
  obtain ⟨a, b, rfl, _⟩ := h
  simp
theorem hasB_all (k : Str) (h : keyB k = true) : hasB allS k = true := by
  have h1 : rightB allS = true := by kernel_rfl
  have h2 : ltB k allS.lo = false := by
    unfold ltB
    have e : allS.lo.toList = [] := by kernel_rfl
    rw [e]
    cases k.toList <;> rfl
  have h3 : noB allS.hi = true := by kernel_rfl
  unfold hasB aboveB
  rw [h1, h, h2, h3]
  rfl
theorem rowB_key {r : Rw} (h : rowB r = true) : keyB r.key = true := by
  unfold rowB at h
  rw [Bool.and_eq_true] at h
  exact h.1
theorem meant_all (l xs : List Rw) (h : LaidAll [] xs l) (hr : allR xs = true) : meant allS l = l := by
  unfold meant
  rw [List.filter_eq_self]
  intro x hx
  rcases (h.mem rises_nil x).1 hx with q | ⟨q, _⟩
  · refine hasB_all _ (rowB_key ?_)
    obtain ⟨j, hj, rfl⟩ := (mem_rwA _ _).1 (lastIn_mem q)
    exact (allR_iff xs).1 hr j hj
  · cases q
theorem Rises.once {l : List Rw} (h : Rises l) : Once l := once_of fun i j hij hj => ne_of_lt (h i j hij hj)
theorem Once.nodup {l : List Rw} (h : Once l) : l.Nodup := List.Pairwise.imp (fun hab e => hab (by rw [e])) h
theorem same_many {l m : List Rw} (hl : Once l) (hm : Once m) (h : ∀ x, x ∈ l ↔ x ∈ m) : l.length = m.length :=
  ((List.perm_ext_iff_of_nodup hl.nodup hm.nodup).2 h).length_eq
end Go.Proofs.Ytebhcadolnjplaa
