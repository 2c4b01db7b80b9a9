/- What the law Compact keeps. -/
import Derived.Test.YtebhcadolnjplaaHo
import Derived.Test.YtebhcadolnjplaaGy
namespace Go.Proofs.Ytebhcadolnjplaa
open Go.RowKit

theorem force_app (a d : List En) : ∀ (c : Cfg) (k x b : Int), forceE c k x b (a ++ d) = forceE (forceE c k x b a).1 (forceE c k x b a).2 x (b + (a.length : Int)) d := by
  induction a with
  | nil => intro c k x b; simp [forceE]
  | cons e a ih =>
    intro c k x b
    have el : b + ((e :: a).length : Int) = b + 1 + (a.length : Int) := by simp only [List.length_cons]; push_cast; omega
    rw [List.cons_append, forceE, forceE, el]
    split
    · exact ih _ _ _ _
    · exact ih _ _ _ _
theorem force_big (d : List En) : ∀ (c : Cfg) (k x b : Int), x < b → forceE c k x b d = (c, k) := by
  induction d with
  | nil => intro c k x b _; rfl
  | cons e d ih =>
    intro c k x b h
    rw [forceE, if_neg (fun q => by omega)]
    exact ih _ _ _ _ (by omega)
theorem force_x (a : List En) : ∀ (c : Cfg) (k x y b : Int), b + (a.length : Int) ≤ x + 1 → b + (a.length : Int) ≤ y + 1 → forceE c k x b a = forceE c k y b a := by
  induction a with
  | nil => intro c k x y b _ _; rfl
  | cons e a ih =>
    intro c k x y b h1 h2
    simp only [List.length_cons] at h1 h2
    push_cast at h1 h2
    have i1 : (e.kind = 3 ∧ b ≤ x) ↔ (e.kind = 3 ∧ b ≤ y) := ⟨fun q => ⟨q.1, by omega⟩, fun q => ⟨q.1, by omega⟩⟩
    rw [forceE, forceE]
    simp only [i1]
    split
    · exact ih _ _ _ _ _ (by omega) (by omega)
    · exact ih _ _ _ _ _ (by omega) (by omega)
theorem force_k (a : List En) : ∀ (c : Cfg) (k k' x b : Int), (forceE c k x b a).1 = (forceE c k' x b a).1 := by
  induction a with
  | nil => intro c k k' x b; rfl
  | cons e a ih =>
    intro c k k' x b
    rw [forceE, forceE]
    split
    · rfl
    · exact ih _ _ _ _ _
/-- Let go up to an index, the configuration in force stays. -/
theorem force_cut (c : Cfg) (i : Int) (l : List En) (m : Nat) (hm : m ≤ l.length) :
    (forceE (forceE c i (i + m) (i + 1) l).1 (i + m) (i + l.length) (i + m + 1) (l.drop m)).1 = (forceE c i (i + l.length) (i + 1) l).1 := by
  have e1 := force_app (l.take m) (l.drop m) c i (i + m) (i + 1)
  have e2 := force_app (l.take m) (l.drop m) c i (i + l.length) (i + 1)
  rw [List.take_append_drop, List.length_take, Nat.min_eq_left hm] at e1 e2
  have e3 := force_big (l.drop m) (forceE c i (i + m) (i + 1) (l.take m)).1 (forceE c i (i + m) (i + 1) (l.take m)).2 (i + m) (i + 1 + m) (by omega)
  have e4 := force_x (l.take m) c i (i + m) (i + l.length) (i + 1) (by rw [List.length_take, Nat.min_eq_left hm]; omega) (by rw [List.length_take, Nat.min_eq_left hm]; omega)
  rw [e1, e3, e2, e4, show i + 1 + (m : Int) = i + m + 1 from by omega]
  exact force_k _ _ _ _ _ _
theorem termB_eq {L L' : LG} (hi : L.i = L'.i) (ht : L.t = L'.t) (he : L.es = L'.es) (x : Int) : termB L x = termB L' x := by
  unfold termB hasB
  rw [hi, ht, he]
theorem drop_term {L L2 : LG} (m : Nat) (hm : m ≤ L2.es.length) (hi : L.i = L2.i + m) (he : L.es = L2.es.drop m) (ht : L.t = (termB L2 L.i).1) (y : Int) (hy : L.i ≤ y) : termB L y = termB L2 y := by
  by_cases h0 : y = L.i
  · subst h0
    have e1 : termB L L.i = (L.t, true) := by unfold termB; rw [if_pos rfl]
    have e2 : (termB L2 L.i).2 = true := by
      unfold termB
      by_cases q : L.i = L2.i
      · rw [if_pos q]
      · have hb : hasB L2 L.i = true := by
          simp only [hasB, Bool.and_eq_true, decide_eq_true_eq]
          omega
        rw [if_neg q, if_pos hb]
    rw [e1, ht]
    exact Prod.ext rfl e2.symm
  · have h1 : ¬ y = L2.i := by omega
    have hl : (L2.es.drop m).length = L2.es.length - m := List.length_drop
    have hb : hasB L y = hasB L2 y := by
      unfold hasB
      rw [he, hl]
      have a1 : decide (L.i < y) = true := decide_eq_true (by omega)
      have a2 : decide (L2.i < y) = true := decide_eq_true (by omega)
      rw [a1, a2]
      congr 1
      apply decide_eq_decide.2
      omega
    unfold termB
    rw [if_neg h0, if_neg h1, hb, he]
    split
    · congr 2
      simp only [enA, List.getD_eq_getElem?_getD, List.getElem?_drop]
      congr 3
      omega
    · rfl
theorem drop_at {L L2 : LG} (m : Nat) (hm : m ≤ L2.es.length) (hi : L.i = L2.i + m) (he : L.es = L2.es.drop m) (y : Int) (hy : L.i < y) : atB L y = atB L2 y := by
  have hl : (L2.es.drop m).length = L2.es.length - m := List.length_drop
  have hb : hasB L y = hasB L2 y := by
    unfold hasB
    rw [he, hl]
    have a1 : decide (L.i < y) = true := decide_eq_true (by omega)
    have a2 : decide (L2.i < y) = true := decide_eq_true (by omega)
    rw [a1, a2]
    congr 1
    apply decide_eq_decide.2
    omega
  unfold atB
  rw [hb, he]
  split
  · simp only [enA, List.getD_eq_getElem?_getD, List.getElem?_drop]
    congr 2
    omega
  · rfl
/-- Behind Compact: what stands. -/
structure Cm (p1 : Nat) (S1 S2 : Nat → Prop) (i x : Int) (n : Nat) (cf : Cfg) (L2 L' : LG) (cL : Cfg) (ob : Bool) (N : Nat) (w : World) : Prop where
  sz : N ≤ w.heap.size
  l : LogC (Sof S1 L') L' cL w
  was : LogC (Sof S2 L2) L2 cf w
  pe : L'.p = p1
  lo : i ≤ L'.i
  len : L'.i + (L'.es.length : Int) = i + n
  cfg : (inF L' cL (i + n)).1 = (inF L2 cf (i + n)).1
  term : ∀ y : Int, L'.i ≤ y → termB L' y = termB L2 y
  at' : ∀ y : Int, L'.i < y → atB L' y = atB L2 y
  obe : ob = (decide (i ≤ x) && decide (x ≤ i + n))
  ix : ob = true → L'.i = x
def CmP (W0 : World) (b4 : Nat) (i t : Int) (s : S4) (A : Option Addr) (l : List En) (p1 : Nat) (S1 S2 : Nat → Prop) (x : Int) (cf : Cfg) (L2 : LG) (N : Nat) (y : Ending) (w : World) : Prop :=
  ∃ (ob : Bool) (L' : LG) (cL : Cfg), y = .returned (.bool ob) ∧ Env W0 b4 i t s A A l l w ∧ Cm p1 S1 S2 i x l.length cf L2 L' cL ob N w
section
variable {W0 : World} {b4 p1 p2 : Nat} {i t : Int} {s s1 s2 : S4} {A : Option Addr} {l : List En} {L1 L2 : LG} {cf : Cfg} {w1 w2 w3 : World}
set_option maxHeartbeats 1000000 in
theorem compact_all (hp : p1 ≠ p2) (hlt : p2 < w1.heap.size) (hg1 : Grown (ZZ p1 p2) (LG.new p1 i t s1) l w1 L1 w2) (hg2 : Grown (Sof (ZZ p1 p2) L1) (LG.new p2 i t s2) l w2 L2 w3)
    (h1 : LogC (Sof (ZZ p1 p2) L1) L1 cf w3) (h2 : LogC (Sof (Sof (ZZ p1 p2) L1) L2) L2 cf w3)
    (hE : Env W0 b4 i t s A A l l w3) (hb4 : b4 < W0.heap.size) (hf1 : W0.heap.size ≤ p1) (_hw1 : W0.heap.size ≤ w1.heap.size) (x : Int) (hx : x ≤ 1073741824) :
    Calls Try.prog 19 #[.pointer (some ⟨p1, 0, none⟩), .int .i64 x] w3 (CmP W0 b4 i t s A l p1 (ZZ p1 p2) (Sof (ZZ p1 p2) L1) x cf L2 w3.heap.size) := by
  have ep : L1.p = p1 := hg1.ext.p
  have ei : L1.i = i := hg1.ext.i
  have et : L1.t = t := hg1.ext.t
  have ees : L1.es = l := hg1.ext.es
  have ei2 : L2.i = i := hg2.ext.i
  have et2 : L2.t = t := hg2.ext.t
  have ees2 : L2.es = l := hg2.ext.es
  have hfar : ∀ b, Ow L1.p L1.AE L1.AC b → Far W0 b := fun b hb => by
    show W0.heap.size ≤ b
    rcases one_ow hg1 hb with q | q <;> omega
  by_cases hr : i ≤ x ∧ x ≤ i + l.length
  · obtain ⟨m, hm⟩ : ∃ m : Nat, L1.i + (m : Int) = x := ⟨(x - i).toNat, by omega⟩
    have hml : m ≤ L1.es.length := by rw [ees]; omega
    have hz : ∀ b, ZZ p1 p2 b → b < w3.heap.size := fun b hb => by
      have := hg1.kp.size
      have := hg2.kp.size
      have := hg1.log.lt p1 (.inl ep.symm)
      rcases hb with q | q <;> omega
    have hc := compact_f (ZZ p1 p2) L1 cf m x w3 h1 hz hml hm
    rw [ep] at hc
    refine Calls.mono (R := CompP (ZZ p1 p2) L1 m (termB L1 x).1 (inF L1 cf x).1 w3) hc ?_
    rintro y w4 ⟨rfl, L', hst⟩
    have hi' : L'.i = x := by rw [hst.i, hm]
    have hes' : L'.es = l.drop m := by rw [hst.es, ees]
    have hll : m ≤ l.length := by rw [ees] at hml; exact hml
    refine ⟨true, L', (inF L1 cf x).1, rfl, hE.kept hb4 hst.kp hfar, hst.kp.size, hst.all (by rw [hm]; exact hx), ?_, hst.p.trans ep, by omega, ?_, ?_, fun y hy => ?_, fun y hy => ?_, ?_, fun _ => hi'⟩
    · exact h2.kp hst.kp (fun _ hb => .inl (.inr hb)) (fun _ hb hq => apart hp hlt hg1 hg2 hq hb)
    · rw [hi', hes', List.length_drop]; omega
    · have := force_cut cf i l m hll
      unfold inF
      rw [hi', hes', ei2, ees2, ei, ees]
      have ex : x = i + m := by omega
      rw [ex]
      exact this
    · exact drop_term m (by rw [ees2]; exact hll) (by rw [hi', ei2]; omega) (by rw [hes', ees2]) (by rw [hst.t, hi', termB_eq (ei.trans ei2.symm) (et.trans et2.symm) (ees.trans ees2.symm)]) y hy
    · exact drop_at m (by rw [ees2]; exact hll) (by rw [hi', ei2]; omega) (by rw [hes', ees2]) y hy
    · rw [decide_eq_true hr.1, decide_eq_true hr.2]; rfl
  · have hno := compact_no (Sof (ZZ p1 p2) L1) L1 x w3 h1.log (by rw [ei, ees]; omega)
    rw [ep] at hno
    refine hno.mono ?_
    rintro y w4 ⟨rfl, o4⟩
    have d1 : (decide (i ≤ x) && decide (x ≤ i + (l.length : Int))) = false := by
      simp only [Bool.and_eq_false_iff, decide_eq_false_iff_not]
      omega
    refine ⟨false, L1, cf, rfl, hE.ok o4, o4.size, h1.ok o4, h2.ok o4, ep, by omega, by rw [ei, ees], ?_, fun y hy => termB_eq (ei.trans ei2.symm) (et.trans et2.symm) (ees.trans ees2.symm) y, fun y hy => ?_, d1.symm, fun q => by cases q⟩
    · unfold inF
      rw [ei, ees, ei2, ees2]
    · unfold atB hasB
      rw [ei, ees, ei2, ees2]
end
theorem wrap_ne (t : Int) : IntKind.i64.wrap (t + 1) ≠ t := by
  intro h
  rw [IntKind.wrap_i64] at h
  omega
end Go.Proofs.Ytebhcadolnjplaa
