/- Shares and handoffs that came in, opened; no text is longer than may be. -/
import Derived.Test.YtdabdkedgigjdaaGreatSp
import Derived.Test.YtdabdkedgigjdaaGreatYi
import Derived.Test.YtdabdkedgigjdaaGreatYb
namespace Go.Proofs.YtdabdkedgigjdaaGreat
open Go.ChangeShapes Go.WideShapes Go.ChangeAt Go.RowKit

set_option maxRecDepth 100000 in
/-- One share, out of its four cells. -/
theorem share_open2 {H : Type} {enc : TypeId × Value → H} {W : World} {fuel : Nat} {cs : List Value} {x : DataW H × List MemPlace}
    (h : DataW.trod enc Tryz.prog W 0 (fun _ => true) true fuel 35 cs = some x) : ∃ y : Sh, cs = [.string y.sp.lo, .string y.sp.hi, .int .i64 y.g, .int .i64 y.e] ∧ y.sp.lo.size ≤ maxLen ∧ y.sp.hi.size ≤ maxLen := by
  obtain ⟨xs, k, _, _, hl, hxl, hf⟩ := DataW.trod_struct Tryz.underlying35 h
  rw [cells60] at hl
  obtain ⟨v0, v1, v2, v3, rfl⟩ := list4 hl
  have hx : xs.length = 3 := hxl
  match xs, hx with
  | [y0, y1, y2], _ =>
    have g0 := hf 0 _ rfl
    have g1 := hf 1 _ rfl
    have g2 := hf 2 _ rfl
    simp [cells23] at g0
    simp [cells3] at g1 g2
    obtain ⟨z2, e2, _⟩ := DataW.trod_int Tryz.underlying3 g1
    obtain ⟨z3, e3, _⟩ := DataW.trod_int Tryz.underlying3 g2
    obtain ⟨ys, k2, _, _, _, hyl, hg⟩ := DataW.trod_struct Tryz.underlying26 g0
    have hy : ys.length = 2 := hyl
    match ys, hy with
    | [u0, u1], _ =>
      have q0 := hg 0 _ rfl
      have q1 := hg 1 _ rfl
      simp [cells9] at q0 q1
      obtain ⟨s0, d0, _, l0⟩ := DataW.trod_string Tryz.underlying9 q0
      obtain ⟨s1, d1, _, l1⟩ := DataW.trod_string Tryz.underlying9 q1
      simp only [List.cons.injEq, and_true] at d0 d1 e2 e3
      exact ⟨⟨⟨s0, s1⟩, z2, z3⟩, by rw [d0, d1, e2, e3], l0, l1⟩
set_option maxRecDepth 100000 in
theorem shares_open2 {H : Type} {enc : TypeId × Value → H} {W : World} {v : Value} {d : DataW H} {p : List MemPlace} {base : Nat}
    (h : DataW.Trod enc Tryz.prog W 0 (fun _ => true) true 24 v d p) (hv : Value.okWide Tryz.prog W .any base 24 v) : ∃ ep A c xs, v = .agg #[.int .i64 ep, .slice A xs.length c] ∧ xs.length ≤ c ∧ SharesAt W A xs ∧ Short xs := by
  obtain ⟨v0, v1, y0, y1, k, rfl, _, _, h0, h1⟩ := Joins.open_agg2 Tryz.underlying24 (by kernel_rfl) cells48 hv h
  obtain ⟨ep, e0, _⟩ := DataW.trod_int Tryz.underlying3 h0
  simp only [List.cons.injEq, and_true] at e0
  subst e0
  rcases Deep.open_slice Tryz.underlying22 h1 with ⟨hcs, _⟩ | ⟨a, len, cap, m, q, D, Pl, hcs, _, hl, _, hm, _, hel⟩
  · simp only [List.cons.injEq, and_true] at hcs
    subst hcs
    exact ⟨ep, none, 0, [], rfl, Nat.le_refl _, fun j hj => absurd hj (Nat.not_lt_zero _), fun j hj => absurd hj (Nat.not_lt_zero _)⟩
  · simp only [List.cons.injEq, and_true] at hcs
    subst hcs
    simp only [if_true] at hm
    subst hm
    rw [cells60] at hel
    have each : ∀ i, i < m → ∃ y : Sh, (y.sp.lo.size ≤ maxLen ∧ y.sp.hi.size ≤ maxLen) ∧ ∀ j u, [Value.string y.sp.lo, .string y.sp.hi, .int .i64 y.g, .int .i64 y.e][j]? = some u → W.cell? ((a.add (i * 4)).add j) = some u := fun i hi => by
      obtain ⟨cs', hc, ht⟩ := hel i hi
      obtain ⟨y, rfl, hl2⟩ := share_open2 ht
      obtain ⟨_, _, hcell⟩ := World.cells?_some hc
      refine ⟨y, hl2, fun j u hu => ?_⟩
      have hj := (List.getElem?_eq_some_iff.1 hu).1
      rw [hcell j (by simpa using hj)]
      exact hu
    have hsp : 0 < len → a.spot = none := fun h0 => by
      obtain ⟨y, _, hy⟩ := each 0 (by omega)
      have := hy 0 _ rfl
      simpa [Addr.add] using World.cell?_spot this
    obtain ⟨f, hf⟩ : ∃ f : Nat → Sh, ∀ i, i < m → ((f i).sp.lo.size ≤ maxLen ∧ (f i).sp.hi.size ≤ maxLen) ∧ ∀ j u, [Value.string (f i).sp.lo, .string (f i).sp.hi, .int .i64 (f i).g, .int .i64 (f i).e][j]? = some u → W.cell? ((a.add (i * 4)).add j) = some u :=
      ⟨fun i => if h : i < m then (each i h).choose else sh0, fun i hi => by simp only [dif_pos hi]; exact (each i hi).choose_spec⟩
    refine ⟨ep, some a, m, (List.range len).map f, by simp, by simpa using hl, fun j hj => ?_, fun j hj => ?_⟩
    rotate_left
    · have hj0 : j < len := by simpa using hj
      have e : at2 ((List.range len).map f) j = f j := by simp [at2, hj0]
      rw [e]
      exact (hf j (by omega)).1
    have hj0 : j < len := by simpa using hj
    obtain ⟨b, off, spot⟩ := a
    obtain rfl : spot = none := hsp (by omega)
    have hq := (hf j (by omega)).2
    rw [add_off] at hq
    have e : at2 ((List.range len).map f) j = f j := by simp [at2, hj0]
    rw [e]
    have c0 := hq 0 _ rfl
    have c1 := hq 1 _ rfl
    have c2 := hq 2 _ rfl
    have c3 := hq 3 _ rfl
    rw [add_off] at c0 c1 c2 c3
    exact ⟨b, off, rfl, c0, c1, c2, c3⟩

set_option maxRecDepth 100000 in
theorem span_open2 {H : Type} {enc : TypeId × Value → H} {W : World} {v : Value} {d : DataW H} {p : List MemPlace} {base : Nat}
    (h : DataW.Trod enc Tryz.prog W 0 (fun _ => true) true 26 v d p) (hv : Value.okWide Tryz.prog W .any base 26 v) : ∃ s : Sp, v = spV s ∧ s.lo.size ≤ maxLen ∧ s.hi.size ≤ maxLen := by
  obtain ⟨v0, v1, y0, y1, n, rfl, _, _, h0, h1⟩ := Joins.open_agg2 Tryz.underlying26 (by kernel_rfl) cells23 hv h
  obtain ⟨s0, e0, _, l0⟩ := DataW.trod_string Tryz.underlying9 h0
  obtain ⟨s1, e1, _, l1⟩ := DataW.trod_string Tryz.underlying9 h1
  simp only [List.cons.injEq, and_true] at e0 e1
  exact ⟨⟨s0, s1⟩, by rw [e0, e1]; rfl, l0, l1⟩
theorem cells32 : Tryz.prog.cellsOf 52 = 8 := by kernel_rfl
theorem cells30u : Tryz.prog.cellsOf 50 = 1 := by kernel_rfl
theorem list8 {α : Type} {l : List α} (h : l.length = 8) : ∃ a b c d e f g i, l = [a, b, c, d, e, f, g, i] := by
  match l, h with
  | [a, b, c, d, e, f, g, i], _ => exact ⟨a, b, c, d, e, f, g, i, rfl⟩
set_option maxRecDepth 100000 in
theorem handoff_open {H : Type} {enc : TypeId × Value → H} {W : World} {v : Value} {d : DataW H} {p : List MemPlace} {base : Nat}
    (h : DataW.Trod enc Tryz.prog W 0 (fun _ => true) true 52 v d p) (hv : Value.okWide Tryz.prog W .any base 52 v) : ∃ x : Sc, v = scV x ∧ x.sp.lo.size ≤ maxLen ∧ x.sp.hi.size ≤ maxLen := by
  obtain ⟨⟨cs⟩, rfl, hc⟩ := okWide_struct Tryz.underlying52 hv
  obtain ⟨fuel, hf⟩ := h
  obtain ⟨xs, k, _, _, hl, hxl, hg⟩ := DataW.trod_struct Tryz.underlying52 hf
  have hl8 : cs.length = 8 := hc.trans cells32
  obtain ⟨v0, v1, v2, v3, v4, v5, v6, v7, rfl⟩ := list8 hl8
  have hx : xs.length = 7 := hxl
  match xs, hx with
  | [y0, y1, y2, y3, y4, y5, y6], _ =>
    have g0 := hg 0 _ rfl
    have g1 := hg 1 _ rfl
    have g2 := hg 2 _ rfl
    have g3 := hg 3 _ rfl
    have g4 := hg 4 _ rfl
    have g5 := hg 5 _ rfl
    have g6 := hg 6 _ rfl
    simp [Value.cells, cells3, cells23, cells30u] at g0 g1 g2 g3 g4 g5 g6
    obtain ⟨z0, e0, _⟩ := DataW.trod_int Tryz.underlying3 g0
    obtain ⟨z2, e2, _⟩ := DataW.trod_int Tryz.underlying3 g2
    obtain ⟨z3, e3, _⟩ := DataW.trod_int Tryz.underlying3 g3
    obtain ⟨z4, e4, _⟩ := DataW.trod_int Tryz.underlying3 g4
    obtain ⟨z5, e5, _⟩ := DataW.trod_int Tryz.underlying3 g5
    obtain ⟨z6, e6, _⟩ := DataW.trod_int Tryz.underlying50 g6
    obtain ⟨ys, k2, _, _, _, hyl, hq⟩ := DataW.trod_struct Tryz.underlying26 g1
    have hy : ys.length = 2 := hyl
    match ys, hy with
    | [u0, u1], _ =>
      have q0 := hq 0 _ rfl
      have q1 := hq 1 _ rfl
      simp [cells9] at q0 q1
      obtain ⟨s0, d0, _, l0⟩ := DataW.trod_string Tryz.underlying9 q0
      obtain ⟨s1, d1, _, l1⟩ := DataW.trod_string Tryz.underlying9 q1
      simp only [List.cons.injEq, and_true] at d0 d1 e0 e2 e3 e4 e5 e6
      exact ⟨⟨z0, ⟨s0, s1⟩, z2, z3, z4, z5, z6⟩, by rw [d0, d1, e0, e2, e3, e4, e5, e6]; rfl, l0, l1⟩
end Go.Proofs.YtdabdkedgigjdaaGreat
