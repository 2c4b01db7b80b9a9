/- Rows of pointers of the call's own; what stands while pasts of rows are made. -/
import Derived.Test.YtnjaiiifafbbjaaRf
import Derived.Test.YtnjaiiifafbbjaaPn
namespace Go.Proofs.Ytnjaiiifafbbjaa
open Go.RowKit

def ptrV (b : Nat) : Value := .pointer (some ⟨b, 0, none⟩)
def rowOf (A : Option Addr) : Option Nat := A.map (·.block)
theorem rowOf_eq (A : Option Addr) (n c : Nat) : Value.ownBlock (.slice A n c) = rowOf A := by cases A <;> rfl
theorem info92 : (Try.prog.info? 92).map (fun i => (i.zero, i.size, i.bytes)) = some (some (.pointer none), 1, 8) := by kernel_rfl
theorem info94 : (Try.prog.info? 94).map (fun i => (i.zero, i.size, i.bytes)) = some (some (.pointer none), 1, 8) := by kernel_rfl
/-- A row of pointers of the call's own; it may be nil. -/
def OwnQ (E : TypeId) (w : World) (base : Nat) (A : Option Addr) (n c : Nat) (bs : List Nat) : Prop := w.ownsRow base E 1 (.slice A n c) bs.length (bs.map ptrV) ∧ n = bs.length
theorem OwnQ.nil (E : TypeId) (w : World) (base : Nat) : OwnQ E w base none 0 0 [] := ⟨World.ownsRow_nil _ _ _ _, rfl⟩
theorem OwnQ.kept {E : TypeId} {w w' : World} {B : Nat} {A : Option Addr} {n c : Nat} {bs : List Nat} {row : Option Nat} (h : OwnQ E w B A n c bs) (k : w.grownBy w' row) (hr : rowOf A = none ∨ rowOf A ≠ row) : OwnQ E w' B A n c bs :=
  ⟨h.1.kept k (by rw [rowOf_eq]; exact hr), h.2⟩
theorem Ok.grown {w w' : World} (k : Ok w w') : w.grownBy w' none := ⟨k.os, k.tape, k.output, k.size, fun i hi _ => k.block i hi⟩
theorem OwnQ.ok {E : TypeId} {w w' : World} {B : Nat} {A : Option Addr} {n c : Nat} {bs : List Nat} (h : OwnQ E w B A n c bs) (k : Ok w w') : OwnQ E w' B A n c bs :=
  h.kept k.grown (by cases rowOf A with
    | none => exact .inl rfl
    | some b => exact .inr (fun e => by cases e))
theorem OwnQ.alloc {E : TypeId} {w : World} {B : Nat} {A : Option Addr} {n c : Nat} {bs : List Nat} (h : OwnQ E w B A n c bs) (o : Obj) : OwnQ E (w.alloc o) B A n c bs := ⟨h.1.alloc o, h.2⟩
theorem OwnQ.lt {E : TypeId} {w : World} {B : Nat} {A : Option Addr} {n c : Nat} {bs : List Nat} (h : OwnQ E w B A n c bs) (b : Nat) (hb : rowOf A = some b) : B ≤ b ∧ b < w.heap.size := World.ownsRow.lt h.1 b (by rw [rowOf_eq]; exact hb)
theorem OwnQ.cell {E : TypeId} {w : World} {B : Nat} {A : Option Addr} {n c : Nat} {bs : List Nat} (h : OwnQ E w B A n c bs) (j : Nat) (hj : j < bs.length) : ∃ b, A = some ⟨b, 0, none⟩ ∧ w.cell? ⟨b, j, none⟩ = some (ptrV (bs[j]?.getD 0)) := by
  obtain ⟨h1, rfl⟩ := h
  rcases h1.2 with ⟨e, h5⟩ | ⟨g, cap, cur, e, r⟩
  · omega
  · simp only [Value.slice.injEq] at e
    obtain ⟨rfl, -, rfl⟩ := e
    refine ⟨g, rfl, ?_⟩
    rw [World.ownsRow.cellAt h1 j (by omega)]
    simp [hj]
theorem wpList_appQ {ops : Array Oper} {rest : List Oper} {o : Oper} {a : Act} {w : World} {Q : Exit → Act → World → Prop} (hgd : o.guard = none) (s x : Operand) (T E : TypeId)
    (ho : o.op = .call { callee := .builtin .append, args := #[s, x], argTypes := #[T, T] }) (hT : Try.prog.underlying T = some (.slice E)) (hinfo : (Try.prog.info? E).map (fun i => (i.zero, i.size, i.bytes)) = some (some (.pointer none), 1, 8))
    (base : Nat) (A : Option Addr) (n c : Nat) (bs : List Nat) (h b : Nat) (hs : a.eval s = .slice A n c) (hx : a.eval x = .slice (some ⟨h, 0, none⟩) 1 1) (hown : OwnQ E w base A n c bs)
    (hc0 : w.cell? ⟨h, 0, none⟩ = some (ptrV b)) (hlen : bs.length ≤ 1000000) (hbase : base ≤ w.heap.size)
    (hk : ∀ A' c' w', OwnQ E w' base A' (n + 1) c' (bs ++ [b]) → w.grownBy w' (rowOf A) → (rowOf A' = rowOf A ∨ rowOf A' = some w.heap.size) → wpList Try.prog ops Q rest (a.put o.dst (.slice A' (n + 1) c')) w') : wpList Try.prog ops Q (o :: rest) a w := by
  obtain ⟨i0, hi, hz0, hz1, hz2⟩ := info_parts hinfo
  obtain ⟨hown, rfl⟩ := hown
  refine wpList_append_own_at _ hgd s x T ho base E i0 (.pointer none) 1 8 hT hi hz0 hz1 hz2 rfl (by decide) _ bs.length (bs.map ptrV) hs hown ⟨h, 0, none⟩ 1 1 [ptrV b] hx rfl ?_ ?_ (by unfold maxLen; omega) (by omega) hbase ?_
  · intro j u hu
    match j, hu with
    | 0, hu =>
      obtain rfl : u = ptrV b := by simpa using hu.symm
      exact hc0
  · intro u hu
    obtain rfl : u = ptrV b := by simpa using hu
    rfl
  · intro v' w' h2 h3 _ h5
    obtain ⟨A', c', rfl⟩ : ∃ A' c', v' = .slice A' (bs.length + 1) c' := by
      rcases h2.2 with ⟨_, h5⟩ | ⟨g', cap', cur, rfl, _⟩
      · omega
      · exact ⟨_, _, rfl⟩
    rw [rowOf_eq] at h3
    rw [rowOf_eq, rowOf_eq] at h5
    refine hk A' c' w' ⟨?_, by simp⟩ h3 h5
    rw [List.map_append, List.length_append]; exact h2
theorem grown_past {w w' : World} {row : Option Nat} {p : Nat} {f : Nat → Int} (k : w.grownBy w' row) (h : PastAt w p f) (hne : row ≠ some p) : PastAt w' p f := by
  cases row with
  | none => exact h.ok ⟨k.os, k.tape, k.output, k.size, fun i hi => k.block i hi (fun e => by cases e)⟩
  | some g => exact Mv.past (g := g) ⟨k.os, k.tape, k.output, k.size, fun i hi hg => k.block i hi (fun e => hg (Option.some.inj e))⟩ (fun e => hne (by rw [e])) h
theorem grown_rpast {w w' : World} {row : Option Nat} {p : Nat} {f : Nat → Int} (k : w.grownBy w' row) (h : RpAt w p f) (hne : row ≠ some p) : RpAt w' p f := by
  cases row with
  | none => exact h.ok ⟨k.os, k.tape, k.output, k.size, fun i hi => k.block i hi (fun e => by cases e)⟩
  | some g => exact RpAt.mv (g := g) h ⟨k.os, k.tape, k.output, k.size, fun i hi hg => k.block i hi (fun e => hg (Option.some.inj e))⟩ (fun e => hne (by rw [e]))
theorem grown_below {w w0 w' : World} {A : Option Addr} {E : TypeId} {n c : Nat} {bs : List Nat} (hb : Ok w0 w) (k : w.grownBy w' (rowOf A)) (h : OwnQ E w w0.heap.size A n c bs) : Ok w0 w' :=
  Below.grown hb k hb.size (fun j hj => (h.lt j hj).1)

/-- Two pasts, of the program and of the document, and what both have. -/
structure Tr where
  p : Nat
  m : Nat
  f : Nat → Int
def tr0 : Tr := ⟨0, 0, fz⟩
def trAt (l : List Tr) (j : Nat) : Tr := l[j]?.getD tr0
def PL (l : List Tr) : List Pst := l.map fun t => (t.p, t.f)
def ML (l : List Tr) : List Pst := l.map fun t => (t.m, t.f)
theorem PL_at (l : List Tr) (j : Nat) (h : j < l.length) : atP (PL l) j = ((trAt l j).p, (trAt l j).f) := by simp [atP, PL, trAt, h]
theorem ML_at (l : List Tr) (j : Nat) (h : j < l.length) : atP (ML l) j = ((trAt l j).m, (trAt l j).f) := by simp [atP, ML, trAt, h]
theorem trAt_old (l : List Tr) (t : Tr) (j : Nat) (h : j < l.length) : trAt (l ++ [t]) j = trAt l j := by simp [trAt, List.getElem?_append_left h]
theorem trAt_new (l : List Tr) (t : Tr) : trAt (l ++ [t]) l.length = t := by simp [trAt]
theorem mgs_PM (l : List Tr) : mgs fz (PL l) = mgs fz (ML l) := by
  have : ∀ (l : List Tr) (g : Nat → Int), mgs g (PL l) = mgs g (ML l) := by
    intro l
    induction l with
    | nil => intro g; rfl
    | cons t l ih => intro g; exact ih _
  exact this l fz
theorem mgs_fits : ∀ (l : List Pst) (g : Nat → Int), Fits g → (∀ q ∈ l, Fits q.2) → Fits (mgs g l)
  | [], g, hg, _ => hg
  | q :: l, g, hg, h => mgs_fits l _ (mg_fits g q.2 hg (h q (by simp))) (fun q' h' => h q' (by simp [h']))
theorem ML_fits (l : List Tr) (h : ∀ j, j < l.length → Fits (trAt l j).f) : Fits (mgs fz (ML l)) := by
  refine mgs_fits _ _ fz_fits fun q hq => ?_
  obtain ⟨t, ht, rfl⟩ := List.mem_map.1 hq
  obtain ⟨j, hj, rfl⟩ := List.mem_iff_getElem.1 ht
  have := h j hj
  simpa [trAt, hj] using this

/-- What stands between rounds. -/
structure Run (w : World) (A A' : Option Addr) (n c n' c' : Nat) (l : List Tr) (wr : World) : Prop where
  below : Ok w wr
  ps : OwnQ 92 wr w.heap.size A n c (l.map Tr.p)
  ms : OwnQ 94 wr w.heap.size A' n' c' (l.map Tr.m)
  pp : ∀ j, j < l.length → PastAt wr (trAt l j).p (trAt l j).f
  mm : ∀ j, j < l.length → RpAt wr (trAt l j).m (trAt l j).f
  ft : ∀ j, j < l.length → Fits (trAt l j).f
  lo : ∀ j, j < l.length → w.heap.size ≤ (trAt l j).p ∧ w.heap.size ≤ (trAt l j).m
  nA : ∀ j, j < l.length → rowOf A ≠ some (trAt l j).p ∧ rowOf A ≠ some (trAt l j).m ∧ rowOf A' ≠ some (trAt l j).p ∧ rowOf A' ≠ some (trAt l j).m
  nn : rowOf A = none ∨ rowOf A ≠ rowOf A'
theorem Run.nil (w : World) : Run w none none 0 0 0 0 [] w :=
  ⟨Ok.refl _, OwnQ.nil _ _ _, OwnQ.nil _ _ _, fun _ h => absurd h (Nat.not_lt_zero _), fun _ h => absurd h (Nat.not_lt_zero _), fun _ h => absurd h (Nat.not_lt_zero _), fun _ h => absurd h (Nat.not_lt_zero _), fun _ h => absurd h (Nat.not_lt_zero _), .inl rfl⟩
theorem Run.ok {w wr v : World} {A A' : Option Addr} {n c n' c' : Nat} {l : List Tr} (h : Run w A A' n c n' c' l wr) (k : Ok wr v) : Run w A A' n c n' c' l v :=
  ⟨Ok.trans h.below k, h.ps.ok k, h.ms.ok k, fun j hj => (h.pp j hj).ok k, fun j hj => (h.mm j hj).ok k, h.ft, h.lo, h.nA, h.nn⟩
theorem PastAt.lt {w : World} {p : Nat} {f : Nat → Int} (h : PastAt w p f) : p < w.heap.size := World.block_lt_of_cell? _ _ h.made
/-- What stands within a round: the new past's block is p, the document's m; the lent names lie behind. -/
structure Rr (wr : World) (p m g : Nat) (fp fm : Nat → Int) (ys : List Nm) (v : World) : Prop where
  ok : Ok wr v
  hp : wr.heap.size ≤ p
  pm : p < m
  mg : m < g
  pp : PastAt v p fp
  mm : RpAt v m fm
  inn : NamesAt v (some ⟨g, 0, none⟩) ys
theorem Rr.okk {wr v v' : World} {p m g : Nat} {fp fm : Nat → Int} {ys : List Nm} (h : Rr wr p m g fp fm ys v) (k : Ok v v') : Rr wr p m g fp fm ys v' :=
  ⟨Ok.trans h.ok k, h.hp, h.pm, h.mg, h.pp.ok k, h.mm.ok k, h.inn.ok k⟩
theorem Rr.atp {wr v v' : World} {p m g : Nat} {fp fm f : Nat → Int} {ys : List Nm} (h : Rr wr p m g fp fm ys v) (k : Mv p v v') (hf : PastAt v' p f) : Rr wr p m g f fm ys v' := by
  have hs := h.pp.lt
  have h1 := h.pm
  have h2 := h.mg
  exact ⟨Below.trans h.ok (k.below h.hp (by omega)), h.hp, h.pm, h.mg, hf, h.mm.mv k (by omega), h.inn.mv k (fun b o e => by simp only [Option.some.injEq, Addr.mk.injEq, and_true] at e; omega)⟩
theorem Rr.atm {wr v v' : World} {p m g : Nat} {fp fm f : Nat → Int} {ys : List Nm} (h : Rr wr p m g fp fm ys v) (k : Mv m v v') (hf : RpAt v' m f) : Rr wr p m g fp f ys v' := by
  have hs := h.mm.lt
  have h0 := h.hp
  have h1 := h.pm
  have h2 := h.mg
  exact ⟨Below.trans h.ok (k.below (by omega) (by omega)), h.hp, h.pm, h.mg, k.past (by omega) h.pp, hf, h.inn.mv k (fun b o e => by simp only [Option.some.injEq, Addr.mk.injEq, and_true] at e; omega)⟩
/-- The new two are laid behind. -/
theorem Run.snoc {w wr v v2 v3 : World} {A A' B B' : Option Addr} {n c d n' c' d' : Nat} {l : List Tr} {p m g : Nat} {f : Nat → Int} {ys : List Nm} (h : Run w A A' n c n' c' l wr) (hr : Rr wr p m g f f ys v) (hf : Fits f)
    (hB : OwnQ 92 v2 w.heap.size B (n + 1) d (l.map Tr.p ++ [p])) (k2 : (v.alloc (.cells #[ptrV p] 92)).grownBy v2 (rowOf A)) (hl : rowOf B = rowOf A ∨ rowOf B = some (v.heap.size + 1))
    (hB' : OwnQ 94 v3 w.heap.size B' (n' + 1) d' (l.map Tr.m ++ [m])) (k3 : (v2.alloc (.cells #[ptrV m] 94)).grownBy v3 (rowOf A')) (hl' : rowOf B' = rowOf A' ∨ rowOf B' = some (v2.heap.size + 1)) :
    Run w B B' (n + 1) d (n' + 1) d' (l ++ [⟨p, m, f⟩]) v3 := by
  have hv := h.ok hr.ok
  have hpl := hr.pp.lt
  have hml := hr.mm.lt
  have hwr := h.below.size
  have h0 := hr.hp
  have h1 := hr.pm
  have hs2 := k2.size
  have hs3 := k3.size
  rw [World.size_alloc] at hs2 hs3
  have hA : ∀ b, rowOf A = some b → b < wr.heap.size := fun b e => (h.ps.lt b e).2
  have hA' : ∀ b, rowOf A' = some b → b < wr.heap.size := fun b e => (h.ms.lt b e).2
  have o1 : Ok v (v.alloc (.cells #[ptrV p] 92)) := Ok.alloc (Ok.refl _) _
  have o2 : Ok v2 (v2.alloc (.cells #[ptrV m] 94)) := Ok.alloc (Ok.refl _) _
  have nAp : ∀ q, wr.heap.size ≤ q → rowOf A ≠ some q := fun q hq e => by have := hA q e; omega
  have nAp' : ∀ q, wr.heap.size ≤ q → rowOf A' ≠ some q := fun q hq e => by have := hA' q e; omega
  have tP : ∀ q f, PastAt v q f → rowOf A ≠ some q → rowOf A' ≠ some q → PastAt v3 q f := fun q f hq e e' => grown_past k3 ((grown_past k2 (hq.ok o1) e).ok o2) e'
  have tM : ∀ q f, RpAt v q f → rowOf A ≠ some q → rowOf A' ≠ some q → RpAt v3 q f := fun q f hq e e' => grown_rpast k3 ((grown_rpast k2 (hq.ok o1) e).ok o2) e'
  have hms2 : OwnQ 94 (v2.alloc (.cells #[ptrV m] 94)) w.heap.size A' n' c' (l.map Tr.m) := ((hv.ms.alloc _).kept k2 (by
    rcases h.nn with e | e
    · cases e' : rowOf A' with
      | none => exact .inl rfl
      | some b => rw [e]; exact .inr (fun e => by cases e)
    · exact .inr (fun e' => e e'.symm))).alloc _
  have b3 : Ok w v3 := grown_below (Ok.trans (grown_below (Ok.trans hv.below o1) k2 (hv.ps.alloc _)) o2) k3 hms2
  have hBn : ∀ b, rowOf B = some b → rowOf A = some b ∨ v.heap.size + 1 ≤ b := fun b e => by
    rcases hl with e' | e'
    · exact .inl (by rw [← e', e])
    · rw [e'] at e; exact .inr (Nat.le_of_eq (Option.some.inj e))
  have hBn' : ∀ b, rowOf B' = some b → rowOf A' = some b ∨ v2.heap.size + 1 ≤ b := fun b e => by
    rcases hl' with e' | e'
    · exact .inl (by rw [← e', e])
    · rw [e'] at e; exact .inr (Nat.le_of_eq (Option.some.inj e))
  have hlen : (l ++ [(⟨p, m, f⟩ : Tr)]).length = l.length + 1 := by simp
  refine ⟨b3, ?_, by rw [List.map_append]; exact hB', ?_, ?_, ?_, ?_, ?_, ?_⟩
  · rw [List.map_append]
    refine (hB.alloc _).kept k3 ?_
    cases e : rowOf B with
    | none => exact .inl rfl
    | some b =>
      refine .inr fun e' => ?_
      rcases hBn b e with e2 | e2
      · rcases h.nn with e3 | e3
        · rw [e3] at e2; cases e2
        · exact e3 (by rw [e2, e'])
      · have := hA' b e'.symm
        have := hr.ok.size
        omega
  · intro j hj
    rw [hlen] at hj
    by_cases hjl : j < l.length
    · rw [trAt_old l _ j hjl]
      obtain ⟨e1, e2, e3, e4⟩ := h.nA j hjl
      exact tP _ _ (hv.pp j hjl) e1 e3
    · obtain rfl : j = l.length := by omega
      rw [trAt_new]
      exact tP _ _ hr.pp (nAp p h0) (nAp' p h0)
  · intro j hj
    rw [hlen] at hj
    by_cases hjl : j < l.length
    · rw [trAt_old l _ j hjl]
      obtain ⟨e1, e2, e3, e4⟩ := h.nA j hjl
      exact tM _ _ (hv.mm j hjl) e2 e4
    · obtain rfl : j = l.length := by omega
      rw [trAt_new]
      exact tM _ _ hr.mm (nAp m (by omega)) (nAp' m (by omega))
  · intro j hj
    rw [hlen] at hj
    by_cases hjl : j < l.length
    · rw [trAt_old l _ j hjl]; exact h.ft j hjl
    · obtain rfl : j = l.length := by omega
      rw [trAt_new]; exact hf
  · intro j hj
    rw [hlen] at hj
    by_cases hjl : j < l.length
    · rw [trAt_old l _ j hjl]; exact h.lo j hjl
    · obtain rfl : j = l.length := by omega
      rw [trAt_new]; exact ⟨show w.heap.size ≤ p by omega, show w.heap.size ≤ m by omega⟩
  · intro j hj
    rw [hlen] at hj
    have key : ∀ q, q < v.heap.size → rowOf A ≠ some q → rowOf A' ≠ some q → rowOf B ≠ some q ∧ rowOf B' ≠ some q := fun q hq e e' => by
      refine ⟨fun e2 => ?_, fun e2 => ?_⟩
      · rcases hBn q e2 with e3 | e3
        · exact e e3
        · omega
      · rcases hBn' q e2 with e3 | e3
        · exact e' e3
        · omega
    by_cases hjl : j < l.length
    · rw [trAt_old l _ j hjl]
      obtain ⟨e1, e2, e3, e4⟩ := h.nA j hjl
      obtain ⟨a1, a2⟩ := key _ (hv.pp j hjl).lt e1 e3
      obtain ⟨a3, a4⟩ := key _ (hv.mm j hjl).lt e2 e4
      exact ⟨a1, a3, a2, a4⟩
    · obtain rfl : j = l.length := by omega
      rw [trAt_new]
      obtain ⟨a1, a2⟩ := key p hpl (nAp p h0) (nAp' p h0)
      obtain ⟨a3, a4⟩ := key m hml (nAp m (by omega)) (nAp' m (by omega))
      exact ⟨a1, a3, a2, a4⟩
  · cases e : rowOf B with
    | none => exact .inl rfl
    | some b =>
      refine .inr fun e' => ?_
      have hv2 : b < v2.heap.size := (hB.lt b e).2
      rcases hBn' b e'.symm with e2 | e2
      · rcases hBn b e with e3 | e3
        · rcases h.nn with e4 | e4
          · rw [e4] at e3; cases e3
          · exact e4 (by rw [e3, e2])
        · have := hA' b e2
          have := hr.ok.size
          omega
      · omega
theorem Run.pasts {w wr : World} {A A' : Option Addr} {n c n' c' : Nat} {l : List Tr} (h : Run w A A' n c n' c' l wr) : PastsAt wr A (PL l) := fun j hj => by
  have hjl : j < l.length := by simpa [PL] using hj
  obtain ⟨b, e, hc⟩ := h.ps.cell j (by simpa using hjl)
  rw [PL_at l j hjl]
  refine ⟨⟨b, 0, e, ?_⟩, h.pp j hjl⟩
  rw [Nat.zero_add, hc]
  simp [ptrV, trAt, hjl]
theorem Run.rpasts {w wr : World} {A A' : Option Addr} {n c n' c' : Nat} {l : List Tr} (h : Run w A A' n c n' c' l wr) : RpastsAt wr A' (ML l) := fun j hj => by
  have hjl : j < l.length := by simpa [ML] using hj
  obtain ⟨b, e, hc⟩ := h.ms.cell j (by simpa using hjl)
  rw [ML_at l j hjl]
  refine ⟨⟨b, 0, e, ?_⟩, h.mm j hjl⟩
  rw [Nat.zero_add, hc]
  simp [ptrV, trAt, hjl]
end Go.Proofs.Ytnjaiiifafbbjaa
