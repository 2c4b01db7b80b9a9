/- Two logs side by side: what the law Take keeps. -/
import Derived.Test.YtebhcadolnjplaaGx
namespace Go.Proofs.Ytebhcadolnjplaa
open Go.RowKit

/-- All that came up since. -/
def Far (W : World) (b : Nat) : Prop := W.heap.size ≤ b
theorem EnsIn.mono {T T' : Nat → Prop} {w : World} {A : Option Addr} {l : List En} (h : EnsIn T w A l) (hs : ∀ b, T' b → T b) : EnsIn T' w A l := fun j hj => by
  obtain ⟨b, off, r, e, hb, hr, hc⟩ := h j hj
  exact ⟨b, off, r, e, fun q => hb (hs b q), hr.more fun b q => .inl (hs b q), hc⟩
theorem EnsIn.far {W : World} {A : Option Addr} {l : List En} (h : EnsIn NoB W A l) : EnsIn (Far W) W A l := fun j hj => by
  obtain ⟨b, off, r, e, _, hr, hc⟩ := h j hj
  have h0 : W.cell? ⟨b, off + j * 7 + 0, none⟩ = some (.int .i64 r.term) := hc 0 (by decide)
  have hb : b < W.heap.size := World.block_lt_of_cell? _ _ h0
  exact ⟨b, off, r, e, fun q => by have : W.heap.size ≤ b := q; exact absurd hb (by omega), hr.more fun b q => .inr q, hc⟩
theorem LogAt.to {S S' : Nat → Prop} {L : LG} {w : World} (h : LogAt S L w) (hs : ∀ b, S' b → S b ∨ w.heap.size ≤ b) (ho : ∀ b, Ow L.p L.AE L.AC b → S' b) : LogAt S' L w := by
  obtain ⟨rs, h1, h2, h3⟩ := h.rows
  exact ⟨h.box, ⟨rs, h1, h2, fun j hj => (h3 j hj).more hs⟩, h.cfgs, ho, h.neE, h.neC, h.neX, h.lo, h.hi, h.le, h.lx, h.sm⟩
theorem en_le {e : En} (h : enN e ≤ 400) : EnLe e := by
  simp only [enN, cfgN] at h
  exact ⟨by omega, ⟨by omega, by omega, by omega, by omega⟩⟩
theorem cfg_le {c : Cfg} (h : cfgN c ≤ 100) : CfgLe c := by
  simp only [cfgN] at h
  exact ⟨by omega, by omega, by omega, by omega⟩

def ZZ (p1 p2 : Nat) (b : Nat) : Prop := b = p1 ∨ b = p2
theorem new_ow {p : Nat} {i t : Int} {s : S4} {b : Nat} (h : Ow (LG.new p i t s).p (LG.new p i t s).AE (LG.new p i t s).AC b) : b = p := by
  rcases h with h | ⟨a, h, _⟩ | ⟨a, h, _⟩
  · exact h
  · cases h
  · cases h
section
variable {p1 p2 : Nat} {i t : Int} {s1 s2 : S4} {l : List En} {L1 L2 L' : LG} {w1 w2 w3 w4 : World}
theorem one_ow (hg : Grown (ZZ p1 p2) (LG.new p1 i t s1) l w1 L1 w2) {b : Nat} (h : Ow L1.p L1.AE L1.AC b) : b = p1 ∨ w1.heap.size ≤ b := (hg.new b h).imp new_ow id
theorem second_stays (hp : p1 ≠ p2) (h2 : ∀ S, LogAt (Sof S (LG.new p2 i t s2)) (LG.new p2 i t s2) w1) (hg : Grown (ZZ p1 p2) (LG.new p1 i t s1) l w1 L1 w2) : LogAt (Sof (Sof (ZZ p1 p2) L1) (LG.new p2 i t s2)) (LG.new p2 i t s2) w2 := by
  have h := (h2 (fun b => ZZ p1 p2 b ∨ w1.heap.size ≤ b)).kp hg.kp (fun _ hb => .inl (.inl (.inl (new_ow hb)))) (fun _ hb hq => hp ((new_ow hq).symm.trans (new_ow hb)))
  refine h.to (fun b hb => .inl ?_) (fun b hb => .inr hb)
  rcases hb with (hz | ho) | hn
  · exact .inl (.inl hz)
  · rcases one_ow hg ho with e | e
    · exact .inl (.inl (.inl e))
    · exact .inl (.inr e)
  · exact .inr hn
theorem apart (hp : p1 ≠ p2) (hlt : p2 < w1.heap.size) (hg1 : Grown (ZZ p1 p2) (LG.new p1 i t s1) l w1 L1 w2) (hg2 : Grown (Sof (ZZ p1 p2) L1) (LG.new p2 i t s2) l w2 L2 w3) {b : Nat} (h1 : Ow L1.p L1.AE L1.AC b) (h2 : Ow L2.p L2.AE L2.AC b) : False := by
  have hb := hg1.log.lt b h1
  rcases hg2.new b h2 with e | e
  · have e := new_ow e
    rcases one_ow hg1 h1 with q | q
    · exact hp (q.symm.trans e)
    · omega
  · omega
theorem first_stays (hp : p1 ≠ p2) (hlt : p2 < w1.heap.size) (hg1 : Grown (ZZ p1 p2) (LG.new p1 i t s1) l w1 L1 w2) (hg2 : Grown (Sof (ZZ p1 p2) L1) (LG.new p2 i t s2) l w2 L2 w3) : LogAt (Sof (ZZ p1 p2) L1) L1 w3 := by
  refine hg1.log.kp hg2.kp (fun _ hb => .inl (.inr (new_ow hb))) (fun b hb hq => ?_)
  have e := new_ow hq
  rcases one_ow hg1 hb with q | q
  · exact hp (q.symm.trans e)
  · omega
theorem was_stays (hp : p1 ≠ p2) (hlt : p2 < w1.heap.size) (hg1 : Grown (ZZ p1 p2) (LG.new p1 i t s1) l w1 L1 w2) (hg2 : Grown (Sof (ZZ p1 p2) L1) (LG.new p2 i t s2) l w2 L2 w3) (k : Kp (Ow L1.p L1.AE L1.AC) w3 w4) : LogAt (Sof (Sof (ZZ p1 p2) L1) L2) L2 w4 :=
  hg2.log.kp k (fun _ hb => .inl (.inr hb)) (fun _ hb hq => apart hp hlt hg1 hg2 hq hb)
end
/-- What lies below, and is read. -/
structure Env (W0 : World) (b4 : Nat) (i t : Int) (s : S4) (A B : Option Addr) (l row : List En) (w : World) : Prop where
  base : Six b4 (.int .i64 i) (.int .i64 t) (.slice s.A0 s.n0 s.c0) (.slice s.A1 s.n1 s.c1) (.slice s.A2 s.n2 s.c2) (.slice s.A3 s.n3 s.c3) w
  en1 : EnsIn (Far W0) w A l
  en2 : EnsIn (Far W0) w B row
  kp : Kp (Far W0) W0 w
theorem Env.kept {W0 : World} {b4 : Nat} {i t : Int} {s : S4} {A B : Option Addr} {l row : List En} {w w' : World} {S : Nat → Prop} (h : Env W0 b4 i t s A B l row w) (hb : b4 < W0.heap.size) (k : Kp S w w') (hs : ∀ b, S b → Far W0 b) : Env W0 b4 i t s A B l row w' := by
  have hn : ¬ S b4 := fun q => by have : W0.heap.size ≤ b4 := hs _ q; omega
  refine ⟨⟨k.cell h.base.c0 hn, k.cell h.base.c1 hn, k.cell h.base.c2 hn, k.cell h.base.c3 hn, k.cell h.base.c4 hn, k.cell h.base.c5 hn, fun j => ?_⟩, h.en1.kp k hs, h.en2.kp k hs, h.kp.then k (fun j _ hj => hs j hj)⟩
  rw [World.frozen?_of_block (w := w) (k.block b4 (World.block_lt_of_cell? _ _ h.base.c0) hn)]
  exact h.base.f j
theorem Env.ok {W0 : World} {b4 : Nat} {i t : Int} {s : S4} {A B : Option Addr} {l row : List En} {w w' : World} (h : Env W0 b4 i t s A B l row w) (k : Ok w w') : Env W0 b4 i t s A B l row w' := by
  refine ⟨h.base.ok k, h.en1.kp (Kp.of (S := fun _ => False) k) (fun _ f => f.elim), h.en2.kp (Kp.of (S := fun _ => False) k) (fun _ f => f.elim), h.kp.ok k⟩

/-- Behind Take: what stands, and what the law asks of it. -/
structure Tk (p1 : Nat) (S1 S2 : Nat → Prop) (i x : Int) (row : List En) (B : Option Addr) (e : Nat) (n : Nat) (L2 L' : LG) (at' : Int) (M : Nat) (w : World) : Prop where
  l : LogAt (Sof S1 L') L' w
  was : LogAt (Sof S2 L2) L2 w
  pe : L'.p = p1
  ie : L'.i = i
  same : ∀ y : Int, i ≤ y → y ≤ i + M → atB L' y = atB L2 y
  many : M ≤ 1000
  way : (at' = 0 ∧ M = n ∧ L'.es.length = n) ∨ (at' = i + M + 1 ∧ (i < x ∧ x ≤ i + n + 1) ∧ x ≤ at' ∧ at' < x + row.length ∧ (L'.es.length : Int) + i = x - 1 + row.length ∧
    (∀ q : Nat, q < row.length → termB L' (x + q) = ((enA row q).term, true)) ∧
    (∀ w' : World, Ok w w' → Calls Try.prog 12 #[.pointer (some ⟨p1, 0, none⟩), .int .i64 x, .slice B row.length e] w' (Ret w' (.tuple #[.int .i64 0, .bool true]))))
def TkP (W0 : World) (b4 : Nat) (i t : Int) (s : S4) (A B : Option Addr) (l row : List En) (p1 : Nat) (S1 S2 : Nat → Prop) (x : Int) (e : Nat) (L2 : LG) (y : Ending) (w : World) : Prop :=
  ∃ (at' : Int) (L' : LG) (M : Nat), y = .returned (.tuple #[.int .i64 at', .bool (decide (i < x) && decide (x ≤ i + l.length + 1))]) ∧ Env W0 b4 i t s A B l row w ∧ Tk p1 S1 S2 i x row B e l.length L2 L' at' M w

theorem termB_at (L : LG) (m q : Nat) (x : Int) (hx : x = L.i + m + 1) (h : m + q < L.es.length) : termB L (x + q) = ((enA L.es (m + q)).term, true) := by
  have e1 : ¬ (x + (q : Int) = L.i) := by omega
  have e2 : hasB L (x + q) = true := by
    simp only [hasB, Bool.and_eq_true, decide_eq_true_eq]
    omega
  have e3 : (x + (q : Int) - L.i - 1).toNat = m + q := by omega
  simp only [termB, e1, if_false, e2, if_true, e3]
theorem atB_same {L L2 : LG} (hi : L.i = L2.i) {M : Nat} (h1 : M ≤ L.es.length) (h2 : M ≤ L2.es.length) (h : ∀ j, j < M → enA L.es j = enA L2.es j) (y : Int) (y0 : L2.i ≤ y) (y1 : y ≤ L2.i + M) : atB L y = atB L2 y := by
  by_cases hy : L2.i < y
  · have e1 : hasB L y = true := by
      simp only [hasB, Bool.and_eq_true, decide_eq_true_eq]
      omega
    have e2 : hasB L2 y = true := by
      simp only [hasB, Bool.and_eq_true, decide_eq_true_eq]
      omega
    simp only [atB, e1, e2, if_true, hi]
    exact h _ (by omega)
  · have e1 : hasB L y = false := by
      have : decide (L.i < y) = false := decide_eq_false (by omega)
      simp only [hasB, this, Bool.false_and]
    have e2 : hasB L2 y = false := by
      have : decide (L2.i < y) = false := decide_eq_false (by omega)
      simp only [hasB, this, Bool.false_and]
    simp only [atB, e1, e2]
    rfl
section
variable {W0 : World} {b4 p1 p2 : Nat} {i t : Int} {s s1 s2 : S4} {A B : Option Addr} {l row : List En} {L1 L2 : LG} {w1 w2 w3 : World}
set_option maxHeartbeats 1000000 in
theorem take_all (hp : p1 ≠ p2) (hlt : p2 < w1.heap.size) (hg1 : Grown (ZZ p1 p2) (LG.new p1 i t s1) l w1 L1 w2) (hg2 : Grown (Sof (ZZ p1 p2) L1) (LG.new p2 i t s2) l w2 L2 w3)
    (hE : Env W0 b4 i t s A B l row w3) (hb4 : b4 < W0.heap.size) (hf1 : W0.heap.size ≤ p1) (hp2 : W0.heap.size ≤ p2) (_hw1 : W0.heap.size ≤ w1.heap.size) (x : Int) (e : Nat) (he : row.length ≤ e) (hl : l.length ≤ 400) (hr : row.length ≤ 400) (hle : ∀ j, j < row.length → enN (enA row j) ≤ 400) :
    Calls Try.prog 12 #[.pointer (some ⟨p1, 0, none⟩), .int .i64 x, .slice B row.length e] w3 (TkP W0 b4 i t s A B l row p1 (ZZ p1 p2) (Sof (ZZ p1 p2) L1) x e L2) := by
  have h3 := first_stays hp hlt hg1 hg2
  have ep : L1.p = p1 := hg1.ext.p
  have ei : L1.i = i := hg1.ext.i
  have ees : L1.es = l := hg1.ext.es
  have exs : L1.xs.length ≤ 0 + l.length := hg1.ext.xs
  have ei2 : L2.i = i := hg2.ext.i
  have ees2 : L2.es = l := hg2.ext.es
  have hfar : ∀ b, Ow L1.p L1.AE L1.AC b → Far W0 b := fun b hb => by
    show W0.heap.size ≤ b
    rcases one_ow hg1 hb with q | q <;> omega
  have hsof : ∀ b, Sof (ZZ p1 p2) L1 b → Far W0 b ∨ b = p2 := fun b hb => by
    rcases hb with (q | q) | q
    · exact .inl (by show W0.heap.size ≤ b; omega)
    · exact .inr q
    · exact .inl (hfar b q)
  by_cases hx : i < x ∧ x ≤ i + l.length + 1
  · obtain ⟨m, hm⟩ : ∃ m : Nat, x = L1.i + m + 1 := ⟨(x - i - 1).toNat, by omega⟩
    have hml : m ≤ L1.es.length := by rw [ees]; omega
    have d1 : decide (i < x) = true := decide_eq_true hx.1
    have d2 : decide (x ≤ i + (l.length : Int) + 1) = true := decide_eq_true hx.2
    have hS : ∀ b, Sof (ZZ p1 p2) L1 b → Far W0 b := fun b hb => (hsof b hb).elim id (fun q => by show W0.heap.size ≤ b; omega)
    have hz : ∀ b, ZZ p1 p2 b → b < w3.heap.size := fun b hb => by
      have := hg1.kp.size
      have := hg2.kp.size
      have := hg1.log.lt p1 (.inl ep.symm)
      rcases hb with q | q <;> omega
    have ht := take_f (ZZ p1 p2) L1 m B row.length e row rfl he w3 h3 hz (hE.en2.mono hS) (fun j hj => en_le (hle j hj)) hml (by rw [ees]; omega) (by omega)
    rw [ep, ← hm] at ht
    refine Calls.mono (R := TakeP (ZZ p1 p2) L1 m row w3) ht ?_
    rintro y w4 ⟨k, hk, hst, ⟨hk2, hy, o4⟩ | ⟨hk2, hns, hy, L', htk⟩⟩
    · refine ⟨0, L1, l.length, by rw [hy, d1, d2]; rfl, hE.ok o4, h3.ok o4, (was_stays hp hlt hg1 hg2 (Kp.refl _ _)).ok o4, ep, ei, fun y y0 y1 => ?_, by omega, .inl ⟨rfl, rfl, by rw [ees]⟩⟩
      exact atB_same (by rw [ei, ei2]) (Nat.le_of_eq (by rw [ees])) (Nat.le_of_eq (by rw [ees2])) (fun j _ => by rw [ees, ees2]) y (by omega) (by omega)
    · have hmk := stands_le L1 m k row hst hml
      have hes : L'.es = takenE L1.es m k row := htk.es
      have hlen : L'.es.length = m + row.length := by rw [hes]; exact takenE_len _ _ _ _ hmk hk
      have hi' : L'.i = i := htk.i.trans ei
      have ep' : L'.p = p1 := htk.p.trans ep
      have hll : m + k ≤ l.length := by rw [ees] at hmk; exact hmk
      have hE4 : Env W0 b4 i t s A B l row w4 := hE.kept hb4 htk.kp hfar
      refine ⟨L1.i + m + 1 + k, L', m + k, by rw [hy, d1, d2]; rfl, hE4, htk.log, was_stays hp hlt hg1 hg2 htk.kp, ep', hi', fun y y0 y1 => ?_, by omega, .inr ⟨by rw [ei]; push_cast; omega, hx, by omega, by omega, by rw [hlen]; push_cast; omega, fun q hq => ?_, fun w' o' => ?_⟩⟩
      · refine atB_same (by rw [hi', ei2]) (M := m + k) (by rw [hlen]; omega) (by rw [ees2]; exact hll) (fun j hj => ?_) y (by omega) (by omega)
        rw [hes, takenE_old _ _ _ _ hmk j hj, ees, ees2]
      · rw [termB_at L' m q x (by rw [hi', hm, ei]) (by omega), hes, takenE_term L1 m k row hst hml]
      · have hfar' : ∀ b, Sof (ZZ p1 p2) L' b → Far W0 b := fun b hb => by
          rcases hb with (q | q) | q
          · show W0.heap.size ≤ b; omega
          · show W0.heap.size ≤ b; omega
          · rcases htk.new b q with q | q
            · exact hfar b q
            · have := hg1.kp.size
              have := hg2.kp.size
              show W0.heap.size ≤ b; omega
        have ht2 := take_st (ZZ p1 p2) L' m B row.length e row rfl w' (htk.log.ok o') ((hE4.ok o').en2.mono hfar') (by omega) (fun j hj => again_stands L1 L' m k row hk hst hml hes j hj) (by omega)
        rw [ep', hi', show i + (m : Int) + 1 = x from by omega] at ht2
        exact ht2
  · have hno := take_no (Sof (ZZ p1 p2) L1) L1 x (.slice B row.length e) w3 h3 (by rw [ei, ees]; omega)
    have d1 : (decide (i < x) && decide (x ≤ i + (l.length : Int) + 1)) = false := by
      simp only [Bool.and_eq_false_iff, decide_eq_false_iff_not]
      omega
    rw [ep] at hno
    refine hno.mono ?_
    rintro y w4 ⟨hy, o4⟩
    refine ⟨0, L1, l.length, by rw [hy, d1], hE.ok o4, h3.ok o4, (was_stays hp hlt hg1 hg2 (Kp.refl _ _)).ok o4, ep, ei, fun y y0 y1 => ?_, by omega, .inl ⟨rfl, rfl, by rw [ees]⟩⟩
    exact atB_same (by rw [ei, ei2]) (Nat.le_of_eq (by rw [ees])) (Nat.le_of_eq (by rw [ees2])) (fun j _ => by rw [ees, ees2]) y (by omega) (by omega)
end
end Go.Proofs.Ytebhcadolnjplaa
