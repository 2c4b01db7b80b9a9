/- Letters and images that came in are opened. -/
import Derived.Test.YtolfdncmlfnbdaaLj
import Derived.Test.YtolfdncmlfnbdaaLd
import Derived.Test.YtolfdncmlfnbdaaQk
import Derived.Deep.Slices
namespace Go.Proofs.Ytolfdncmlfnbdaa
open Go.ChangeShapes Go.WideShapes Go.ChangeAt Go.RowKit

theorem cellsE : Try.prog.cellsOf 208 = 7 := by kernel_rfl
theorem cellsK : Try.prog.cellsOf 206 = 1 := by kernel_rfl
theorem cellsL : Try.prog.cellsOf 90 = 1 := by kernel_rfl
theorem cellsB : Try.prog.cellsOf 26 = 1 := by kernel_rfl
theorem cellsT : Try.prog.cellsOf 4 = 1 := by kernel_rfl
theorem cellsI : Try.prog.cellsOf 22 = 1 := by kernel_rfl
theorem cellsES : Try.prog.cellsOf 91 = 1 := by kernel_rfl
theorem cellsBase : Try.prog.cellsOf 93 = 6 := by kernel_rfl
theorem cellsLt : Try.prog.cellsOf 95 = 20 := by kernel_rfl
theorem cellsIm : Try.prog.cellsOf 97 = 7 := by kernel_rfl
theorem bytesE : Try.prog.bytesOf 208 = 136 := by kernel_rfl
theorem bytesLt : Try.prog.bytesOf 95 = 256 := by kernel_rfl
theorem weightsAll_mem {H : Type} {P : Program} {e : TypeId} {d : DataW H} {n : Nat} : ∀ {l : List (DataW H)}, d ∈ l → n ∈ d.weights P e → n ∈ DataW.weightsAll P e l
  | x :: l, hd, hn => by
    rw [DataW.weightsAll, List.mem_append]
    rcases List.mem_cons.1 hd with rfl | hd
    · exact .inl hn
    · exact .inr (weightsAll_mem hd hn)
theorem add_off (b o i : Nat) : (⟨b, o, none⟩ : Addr).add i = ⟨b, o + i, none⟩ := by unfold Addr.add; split <;> simp_all
theorem bytes_core {H : Type} {enc : TypeId × Value → H} {W : World} {n : Nat} {v : Value} {y : DataW H × List MemPlace} (h : DataW.trod enc Try.prog W 0 (fun _ => true) true n 26 [v] = some y)
    (hsz : ∀ elems spare, y.1 = .slice elems spare → (elems.length + spare.length) * 1 ≤ reachBytes) : ∃ xs, BytesIn W v xs := by
  rcases open_ints Try.underlying26 Try.underlying5 cells5 h with ⟨hcs, hx⟩ | ⟨a, len, cap, zs, hcs, _, hl, hm, hz, hx, hcell, hwz⟩
  · simp at hcs
    subst hcs
    exact ⟨[], BytesIn.nil _⟩
  · simp at hcs
    subst hcs
    simp only [if_true] at hz
    have hreach : len ≤ 140737488351232 := by
      have := hsz _ _ (by rw [hx])
      simp only [lits, List.length_map, List.length_take, List.length_drop, reachBytes] at this
      omega
    refine ⟨(zs.take len).map (BitVec.ofInt 8), ?_⟩
    have hlen : ((zs.take len).map (BitVec.ofInt 8)).length = len := by simp; omega
    by_cases h0 : len = 0
    · subst h0
      exact .inl ⟨by simp, _, _, rfl, fun e => by cases e⟩
    · obtain ⟨b, off, spot⟩ := a
      have hspot : spot = none := by simpa [Addr.add] using World.cell?_spot (hcell 0 (by omega))
      subst hspot
      refine .inr ⟨b, off, cap, by rw [hlen], by rw [hlen]; exact hl, by rw [hlen]; omega, fun i hi => ?_⟩
      rw [hlen] at hi
      have e : (⟨b, off, none⟩ : Addr).add i = ⟨b, off + i, none⟩ := add_off b off i
      have hc := hcell i (by omega)
      rw [e] at hc
      rw [hc]
      have hg : zs.getD i 0 = zs[i]'(by omega) := by simp [show i < zs.length by omega]
      have hw := wf_u8 (hwz _ (List.getElem_mem (show i < zs.length by omega)))
      rw [hg]
      have e2 : ((zs.take len).map (BitVec.ofInt 8)).getD i 0#8 = BitVec.ofInt 8 (zs[i]'(by omega)) := by
        simp [List.getD, hi, show i < zs.length by omega]
      rw [e2, ub_of hw]
theorem list7 {α : Type} {l : List α} (h : l.length = 7) : ∃ a b c d e f g, l = [a, b, c, d, e, f, g] := by
  match l, h with
  | [a, b, c, d, e, f, g], _ => exact ⟨a, b, c, d, e, f, g, rfl⟩
theorem list20 {α : Type} {l : List α} (h : l.length = 20) : ∃ c0 c1 c2 c3 c4 c5 c6 c7 c8 c9 d0 d1 d2 d3 d4 d5 d6 d7 d8 d9, l = [c0, c1, c2, c3, c4, c5, c6, c7, c8, c9, d0, d1, d2, d3, d4, d5, d6, d7, d8, d9] := by
  match l, h with
  | [c0, c1, c2, c3, c4, c5, c6, c7, c8, c9, d0, d1, d2, d3, d4, d5, d6, d7, d8, d9], _ => exact ⟨c0, c1, c2, c3, c4, c5, c6, c7, c8, c9, d0, d1, d2, d3, d4, d5, d6, d7, d8, d9, rfl⟩
set_option maxRecDepth 100000 in
theorem weights_slice {H : Type} (es sp : List (DataW H)) : (es.length + sp.length) * 1 ∈ (DataW.slice es sp).weights Try.prog 26 := by
  simp only [DataW.weights, Try.underlying26, bytes5]
  exact List.mem_cons_self ..
theorem cfg_core {H : Type} {enc : TypeId × Value → H} {W : World} {n : Nat} {v0 v1 v2 v3 : Value} {y : DataW H × List MemPlace} (h2 : DataW.trod enc Try.prog W 0 (fun _ => true) true n 71 [v0, v1, v2, v3] = some y)
    (hp2 : ∀ parts, y.1 = .agg parts → (DataW.weightsEach Try.prog [22, 22, 22, 22] parts).all (· ≤ reachBytes) = true) :
    ∃ (s : S4) (cf : Cfg), v0 = .slice s.A0 s.n0 s.c0 ∧ v1 = .slice s.A1 s.n1 s.c1 ∧ v2 = .slice s.A2 s.n2 s.c2 ∧ v3 = .slice s.A3 s.n3 s.c3 ∧ CfgIn W s.v cf := by
  obtain ⟨y0, y1, y2, y3, n2, hx2, _, k0, k1, k2, k3⟩ := Joins.trod_struct4 Try.underlying71 h2
  have hp2 := hp2 [y0.1, y1.1, y2.1, y3.1] (by rw [hx2])
  simp only [cellsI, List.drop_zero, List.drop_succ_cons, List.take_succ_cons, List.take_zero] at k0 k1 k2 k3
  have e : ∀ (j : Nat) (y : DataW H × List MemPlace) , [y0.1, y1.1, y2.1, y3.1][j]? = some y.1 → ([22, 22, 22, 22] : List TypeId)[j]? = some 22 → ∀ elems spare, y.1 = .slice elems spare → (elems.length + spare.length) * 8 ≤ reachBytes := fun j y hy ht elems spare he => by
    have := sized_slice hp2 (j := j) ht (hy.trans (by rw [he])) Try.underlying22
    rwa [bytes3] at this
  obtain ⟨x0, i0⟩ := ints_core k0 (e 0 y0 rfl rfl)
  obtain ⟨x1, i1⟩ := ints_core k1 (e 1 y1 rfl rfl)
  obtain ⟨x2, i2⟩ := ints_core k2 (e 2 y2 rfl rfl)
  obtain ⟨x3, i3⟩ := ints_core k3 (e 3 y3 rfl rfl)
  obtain ⟨A0, c0, rfl, -⟩ := i0.form
  obtain ⟨A1, c1, rfl, -⟩ := i1.form
  obtain ⟨A2, c2, rfl, -⟩ := i2.form
  obtain ⟨A3, c3, rfl, -⟩ := i3.form
  exact ⟨⟨A0, x0.length, c0, A1, x1.length, c1, A2, x2.length, c2, A3, x3.length, c3⟩, ⟨x0, x1, x2, x3⟩, rfl, rfl, rfl, rfl, ⟨_, _, _, _, rfl, i0, i1, i2, i3⟩⟩
set_option maxRecDepth 100000 in
/-- One entry, out of its seven cells. -/
theorem entry_core {H : Type} {enc : TypeId × Value → H} {W : World} {fuel : Nat} {cs : List Value} {x : DataW H × List MemPlace}
    (h : DataW.trod enc Try.prog W 0 (fun _ => true) true fuel 208 cs = some x) (hsz : ∀ n ∈ x.1.weights Try.prog 208, n ≤ reachBytes) : ∃ (r : ER) (e : En), cs = r.cells e ∧ EnAt W r e := by
  obtain ⟨xs, k, _, hdd, hl, hxl, hf⟩ := DataW.trod_struct Try.underlying208 h
  rw [cellsE] at hl
  obtain ⟨v0, v1, v2, v3, v4, v5, v6, rfl⟩ := list7 hl
  have hx : xs.length = 4 := hxl
  match xs, hx with
  | [y0, y1, y2, y3], _ =>
    have g0 := hf 0 _ rfl
    have g1 := hf 1 _ rfl
    have g2 := hf 2 _ rfl
    have g3 := hf 3 _ rfl
    simp [cells3, cellsK, cellsB, cells48] at g0 g1 g2 g3
    obtain ⟨z0, e0, _⟩ := DataW.trod_int Try.underlying3 g0
    obtain ⟨z1, e1, _⟩ := DataW.trod_int Try.underlying206 g1
    simp only [List.cons.injEq, and_true] at e0 e1
    obtain ⟨ys, hy⟩ := bytes_core g2 fun elems spare he => by
      refine hsz _ ?_
      subst hdd
      rw [DataW.weights, Try.underlying208]
      exact DataW.weights_mem_each (j := 2) (t := 26) rfl (by simp [he]) _ (weights_slice elems spare)
    obtain ⟨s, cf, q0, q1, q2, q3, hc⟩ := cfg_core g3 fun parts he => List.all_eq_true.2 fun n hn => by
      refine decide_eq_true (hsz _ ?_)
      subst hdd
      rw [DataW.weights, Try.underlying208]
      refine DataW.weights_mem_each (j := 3) (t := 71) rfl (by simp; rfl) _ ?_
      rw [he, DataW.weights, Try.underlying71]
      exact hn
    obtain ⟨A, c, e2, -⟩ := hy.form
    subst e0 e1 e2 q0 q1 q2 q3
    exact ⟨⟨A, ys.length, c, s⟩, ⟨z0, z1, ys, cf⟩, rfl, hy, hc⟩
set_option maxRecDepth 100000 in
theorem weights_ens {H : Type} (es sp : List (DataW H)) : (es.length + sp.length) * 136 ∈ (DataW.slice es sp).weights Try.prog 91 := by
  simp only [DataW.weights, Try.underlying91, bytesE]
  exact List.mem_cons_self ..
set_option maxRecDepth 100000 in
theorem ens_core {H : Type} {enc : TypeId × Value → H} {W : World} {fuel : Nat} {v : Value} {y : DataW H × List MemPlace} (hf : DataW.trod enc Try.prog W 0 (fun _ => true) true fuel 91 [v] = some y)
    (hsz : ∀ n ∈ y.1.weights Try.prog 91, n ≤ reachBytes) :
    ∃ A c l, v = .slice A l.length c ∧ (A = none → c = 0) ∧ l.length ≤ c ∧ l.length ≤ 17592186044416 ∧ EntsIn W A l := by
  rcases Deep.open_slice Try.underlying91 hf with ⟨hcs, _⟩ | ⟨a, len, cap, m, q, D, Pl, hcs, _, hl, _, hm, hdd, hel⟩
  · simp at hcs
    subst hcs
    exact ⟨none, 0, [], rfl, fun _ => rfl, Nat.le_refl _, Nat.zero_le _, fun j hj => absurd hj (Nat.not_lt_zero _)⟩
  · simp at hcs
    subst hcs
    simp only [if_true] at hm
    subst hm
    rw [cellsE] at hel
    subst hdd
    have hreach : len ≤ 17592186044416 := by
      have := hsz _ (weights_ens _ _)
      simp only [List.length_map, List.length_range, reachBytes] at this
      omega
    have each : ∀ i, i < len → ∃ (r : ER) (e : En), EnAt W r e ∧ ∀ q, q < 7 → W.cell? ((a.add (i * 7)).add q) = (r.cells e)[q]? := fun i hi => by
      obtain ⟨cs', hcs', hd'⟩ := hel i (by omega)
      have hmem : D i ∈ (List.range len).map D := List.mem_map.2 ⟨i, List.mem_range.2 hi, rfl⟩
      obtain ⟨r, e, rfl, hb⟩ := entry_core hd' fun n hn => by
        have h7 := weightsAll_mem hmem hn
        exact hsz _ (by
          simp only [DataW.weights, Try.underlying91]
          exact List.mem_cons_of_mem _ (List.mem_append_left _ h7))
      obtain ⟨_, _, hcell⟩ := World.cells?_some hcs'
      refine ⟨r, e, hb, fun q hq => ?_⟩
      rw [hcell q (by simpa [ER.cells] using hq)]
    have hsp : 0 < len → a.spot = none := fun h0 => by
      obtain ⟨r, e, _, hy⟩ := each 0 h0
      have := hy 0 (by decide)
      simpa [Addr.add] using World.cell?_spot this
    obtain ⟨f, hff⟩ : ∃ f : Nat → En, ∀ i, i < len → ∃ r : ER, EnAt W r (f i) ∧ ∀ q, q < 7 → W.cell? ((a.add (i * 7)).add q) = (r.cells (f i))[q]? :=
      ⟨fun i => if h : i < len then (each i h).choose_spec.choose else en0, fun i hi => by simp only [dif_pos hi]; exact ⟨_, (each i hi).choose_spec.choose_spec⟩⟩
    have eAt : ∀ j, j < len → enA ((List.range len).map f) j = f j := fun j hj => by simp [enA, hj]
    refine ⟨some a, m, (List.range len).map f, by simp, (fun e => by cases e), by simpa using hl, by simpa using hreach, fun j hj => ?_⟩
    have hj0 : j < len := by simpa using hj
    obtain ⟨b, off, spot⟩ := a
    obtain rfl : spot = none := hsp (by omega)
    obtain ⟨r, hb, hq⟩ := hff j hj0
    rw [eAt j hj0]
    refine ⟨b, off, r, rfl, hb, fun q hq7 => ?_⟩
    have := hq q hq7
    rwa [add_off, add_off] at this
theorem base_core {H : Type} {enc : TypeId × Value → H} {W : World} {n : Nat} {v0 v1 v2 v3 v4 v5 : Value} {y : DataW H × List MemPlace} (h : DataW.trod enc Try.prog W 0 (fun _ => true) true n 93 [v0, v1, v2, v3, v4, v5] = some y)
    (hsz : ∀ n ∈ y.1.weights Try.prog 93, n ≤ reachBytes) :
    ∃ (i t : Int) (s : S4) (cf : Cfg), v0 = .int .i64 i ∧ v1 = .int .i64 t ∧ v2 = .slice s.A0 s.n0 s.c0 ∧ v3 = .slice s.A1 s.n1 s.c1 ∧ v4 = .slice s.A2 s.n2 s.c2 ∧ v5 = .slice s.A3 s.n3 s.c3 ∧ CfgIn W s.v cf := by
  obtain ⟨z0, z1, z2, m, hx, _, h0, h1, h2⟩ := Deep.trod_struct3 Try.underlying93 h
  simp only [cells3, cells48, List.drop_zero, List.drop_succ_cons, List.take_succ_cons, List.take_zero] at h0 h1 h2
  obtain ⟨s, cf, q0, q1, q2, q3, hc⟩ := cfg_core h2 fun parts he => List.all_eq_true.2 fun k hk => by
    refine decide_eq_true (hsz _ ?_)
    subst hx
    rw [DataW.weights, Try.underlying93]
    refine DataW.weights_mem_each (j := 2) (t := 71) rfl (by simp; rfl) _ ?_
    rw [he, DataW.weights, Try.underlying71]
    exact hk
  obtain ⟨m0, e0, -, -⟩ := DataW.trod_int Try.underlying3 h0
  obtain ⟨m1, e1, -, -⟩ := DataW.trod_int Try.underlying3 h1
  simp only [List.cons.injEq, and_true] at e0 e1
  exact ⟨m0, m1, s, cf, e0, e1, q0, q1, q2, q3, hc⟩
set_option maxRecDepth 100000 in
set_option maxHeartbeats 4000000 in
/-- One letter, out of its twenty cells. -/
theorem letter_core {H : Type} {enc : TypeId × Value → H} {W : World} {fuel : Nat} {cs : List Value} {x : DataW H × List MemPlace}
    (h : DataW.trod enc Try.prog W 0 (fun _ => true) true fuel 95 cs = some x) (hsz : ∀ n ∈ x.1.weights Try.prog 95, n ≤ reachBytes) : ∃ (r : LR) (l : Lt), cs = r.cells l ∧ LtAt W r l := by
  obtain ⟨xs, k, _, hdd, hl, hxl, hf⟩ := DataW.trod_struct Try.underlying95 h
  rw [cellsLt] at hl
  obtain ⟨c0, c1, c2, c3, c4, c5, c6, c7, c8, c9, d0, d1, d2, d3, d4, d5, d6, d7, d8, d9, rfl⟩ := list20 hl
  have hx : xs.length = 15 := hxl
  match xs, hx with
  | [y0, y1, y2, y3, y4, y5, y6, y7, y8, y9, y10, y11, y12, y13, y14], _ =>
    have g0 := hf 0 _ rfl
    have g1 := hf 1 _ rfl
    have g2 := hf 2 _ rfl
    have g3 := hf 3 _ rfl
    have g4 := hf 4 _ rfl
    have g5 := hf 5 _ rfl
    have g6 := hf 6 _ rfl
    have g7 := hf 7 _ rfl
    have g8 := hf 8 _ rfl
    have g9 := hf 9 _ rfl
    have g10 := hf 10 _ rfl
    have g11 := hf 11 _ rfl
    have g12 := hf 12 _ rfl
    have g13 := hf 13 _ rfl
    have g14 := hf 14 _ rfl
    simp [cells3, cellsL, cellsB, cellsT, cellsES, cellsBase] at g0 g1 g2 g3 g4 g5 g6 g7 g8 g9 g10 g11 g12 g13 g14
    obtain ⟨z0, e0, _⟩ := DataW.trod_int Try.underlying90 g0
    obtain ⟨z1, e1, _⟩ := DataW.trod_int Try.underlying3 g1
    obtain ⟨z2, e2, _⟩ := DataW.trod_int Try.underlying3 g2
    obtain ⟨z3, e3, _⟩ := DataW.trod_int Try.underlying3 g3
    obtain ⟨z4, e4, _⟩ := DataW.trod_int Try.underlying3 g4
    obtain ⟨z5, e5, _⟩ := DataW.trod_int Try.underlying3 g5
    obtain ⟨z6, e6, _⟩ := DataW.trod_int Try.underlying3 g6
    obtain ⟨z7, e7, _⟩ := DataW.trod_int Try.underlying3 g7
    obtain ⟨z11, e11, _⟩ := DataW.trod_int Try.underlying3 g11
    obtain ⟨z12, e12, _⟩ := DataW.trod_int Try.underlying3 g12
    obtain ⟨z13, e13, _⟩ := DataW.trod_int Try.underlying3 g13
    obtain ⟨z8, e8, _⟩ := DataW.trod_bool Try.underlying4 g8
    simp only [List.cons.injEq, and_true] at e0 e8 e1 e2 e3 e4 e5 e6 e7 e11 e12 e13
    have hw : ∀ (k : Nat) (t : TypeId) (z : DataW H), ([90, 3, 3, 3, 3, 3, 3, 3, 4, 91, 93, 3, 3, 3, 26] : List TypeId)[k]? = some t → [y0.1, y1.1, y2.1, y3.1, y4.1, y5.1, y6.1, y7.1, y8.1, y9.1, y10.1, y11.1, y12.1, y13.1, y14.1][k]? = some z → ∀ m ∈ z.weights Try.prog t, m ≤ reachBytes := fun k t z hk hz m hm => by
      refine hsz _ ?_
      subst hdd
      rw [DataW.weights, Try.underlying95]
      exact DataW.weights_mem_each (j := k) (t := t) hk hz _ hm
    obtain ⟨ys, hy⟩ := bytes_core g14 fun elems spare he => hw 14 26 _ rfl rfl _ (by rw [he]; exact weights_slice elems spare)
    obtain ⟨A, c, es, e9, hn, -, hle, hes⟩ := ens_core g9 (hw 9 91 _ rfl rfl)
    obtain ⟨i, t, s, cf, q0, q1, q2, q3, q4, q5, hcf⟩ := base_core g10 (hw 10 93 _ rfl rfl)
    obtain ⟨B, d, e14, -⟩ := hy.form
    subst e0 e8 e9 e14 q0 q1 q2 q3 q4 q5 e1 e2 e3 e4 e5 e6 e7 e11 e12 e13
    exact ⟨⟨A, c, s, B, ys.length, d⟩, ⟨z0, z1, z2, z3, z4, z5, z6, z7, z8, es, i, t, cf, z11, z12, z13, ys⟩, rfl, hle, hes, hn, hcf, hy⟩
theorem array20 {α : Type} {cs : Array α} (h : cs.size = 20) : ∃ l : List α, cs = l.toArray ∧ l.length = 20 := by
  obtain ⟨l⟩ := cs
  exact ⟨l, rfl, h⟩
set_option maxRecDepth 100000 in
theorem letter_open {H : Type} {enc : TypeId × Value → H} {W : World} {ts : List TypeId} {ds : List (DataW H)} {v : Value} {d : DataW H} {p : List MemPlace} {base : Nat}
    (h : DataW.Trod enc Try.prog W 0 (fun _ => true) true 95 v d p) (hv : Value.okWide Try.prog W .any base 95 v)
    (hsz : (DataW.weightsEach Try.prog ts ds).all (· ≤ reachBytes) = true) (j : Nat) (ht : ts[j]? = some 95) (hd : ds[j]? = some d) :
    ∃ (r : LR) (l : Lt), v = r.val l ∧ LtAt W r l := by
  obtain ⟨cs, rfl, hc9⟩ := okWide_struct Try.underlying95 hv
  obtain ⟨l, rfl, -⟩ := array20 (hc9.trans cellsLt)
  obtain ⟨fuel, hf⟩ := h
  simp only [Value.cells] at hf
  obtain ⟨r, x, e, hx⟩ := letter_core hf fun n hn => by
    have := List.all_eq_true.1 hsz _ (DataW.weights_mem_each ht hd n hn)
    simpa using this
  exact ⟨r, x, by unfold LR.val; rw [← e], hx⟩
set_option maxRecDepth 100000 in
theorem image_open {H : Type} {enc : TypeId × Value → H} {W : World} {ts : List TypeId} {ds : List (DataW H)} {v : Value} {d : DataW H} {p : List MemPlace} {base : Nat}
    (h : DataW.Trod enc Try.prog W 0 (fun _ => true) true 97 v d p) (hv : Value.okWide Try.prog W .any base 97 v)
    (hsz : (DataW.weightsEach Try.prog ts ds).all (· ≤ reachBytes) = true) (j : Nat) (ht : ts[j]? = some 97) (hd : ds[j]? = some d) :
    ∃ (r : IR) (m : Im), v = r.val m ∧ ImAt W r m := by
  obtain ⟨cs, rfl, hc9⟩ := okWide_struct Try.underlying97 hv
  obtain ⟨l⟩ := cs
  obtain ⟨v0, v1, v2, v3, v4, v5, v6, rfl⟩ := list7 (hc9.trans cellsIm : l.length = 7)
  obtain ⟨fuel, hf⟩ := h
  obtain ⟨z0, z1, n, hx, _, h0, h1⟩ := ChangeShapes.trod_struct2 Try.underlying97 hf
  simp only [Prod.mk.injEq] at hx
  obtain ⟨rfl, -⟩ := hx
  simp only [Value.cells, cellsBase, cellsB, List.drop_zero, List.drop_succ_cons, List.take_succ_cons, List.take_zero] at h0 h1
  have hw : ∀ (k : Nat) (t : TypeId) (z : DataW H), ([93, 26] : List TypeId)[k]? = some t → [z0.1, z1.1][k]? = some z → ∀ m ∈ z.weights Try.prog t, m ≤ reachBytes := fun k t z hk hz m hm => by
    have := List.all_eq_true.1 hsz _ (DataW.weights_mem_each ht hd m (by
      rw [DataW.weights, Try.underlying97]
      exact DataW.weights_mem_each (j := k) (t := t) hk hz _ hm))
    simpa using this
  obtain ⟨i, t, s, cf, rfl, rfl, rfl, rfl, rfl, rfl, hcf⟩ := base_core h0 (hw 0 93 _ rfl rfl)
  obtain ⟨ys, hy⟩ := bytes_core h1 fun elems spare he => hw 1 26 _ rfl rfl _ (by rw [he]; exact weights_slice elems spare)
  obtain ⟨B, c, rfl, -⟩ := hy.form
  exact ⟨⟨s, B, ys.length, c⟩, ⟨i, t, cf, ys⟩, rfl, hcf, hy⟩
set_option maxRecDepth 100000 in
theorem letters_open {H : Type} {enc : TypeId × Value → H} {W : World} {ts : List TypeId} {ds : List (DataW H)} {v : Value} {d : DataW H} {p : List MemPlace} {base : Nat}
    (h : DataW.Trod enc Try.prog W 0 (fun _ => true) true 99 v d p) (hv : Value.okWide Try.prog W .any base 99 v)
    (hsz : (DataW.weightsEach Try.prog ts ds).all (· ≤ reachBytes) = true) (j : Nat) (ht : ts[j]? = some 99) (hd : ds[j]? = some d) :
    ∃ A c l, v = .slice A l.length c ∧ (A = none → c = 0) ∧ l.length ≤ c ∧ l.length ≤ 17592186044416 ∧ LtsIn W A l := by
  obtain ⟨a0, n0, c0, rfl⟩ := okWide_slice Try.underlying99 hv
  obtain ⟨fuel, hf⟩ := h
  rcases Deep.open_slice Try.underlying99 hf with ⟨hcs, _⟩ | ⟨a, len, cap, m, q, D, Pl, hcs, _, hl, _, hm, hdd, hel⟩
  · simp [Value.cells] at hcs
    obtain ⟨rfl, rfl, rfl⟩ := hcs
    exact ⟨none, 0, [], rfl, fun _ => rfl, Nat.le_refl _, Nat.zero_le _, fun j hj => absurd hj (Nat.not_lt_zero _)⟩
  · simp [Value.cells] at hcs
    obtain ⟨rfl, rfl, rfl⟩ := hcs
    simp only [if_true] at hm
    subst hm
    rw [cellsLt] at hel
    simp only [Prod.mk.injEq] at hdd
    obtain ⟨rfl, -⟩ := hdd
    have hreach : n0 ≤ 17592186044416 := by
      have := sized_slice hsz ht hd Try.underlying99
      rw [bytesLt] at this
      simp only [List.length_map, List.length_range, reachBytes] at this
      omega
    have each : ∀ i, i < n0 → ∃ (r : LR) (e : Lt), LtAt W r e ∧ ∀ q, q < 20 → W.cell? ((a.add (i * 20)).add q) = (r.cells e)[q]? := fun i hi => by
      obtain ⟨cs', hcs', hd'⟩ := hel i (by omega)
      have hmem : D i ∈ (List.range n0).map D := List.mem_map.2 ⟨i, List.mem_range.2 hi, rfl⟩
      obtain ⟨r, e, rfl, hb⟩ := letter_core hd' fun n hn => by
        have h7 := weightsAll_mem hmem hn
        have h8 := List.all_eq_true.1 hsz _ (DataW.weights_mem_each ht hd _ (by
          simp only [DataW.weights, Try.underlying99]
          exact List.mem_cons_of_mem _ (List.mem_append_left _ h7)))
        simpa using h8
      obtain ⟨_, _, hcell⟩ := World.cells?_some hcs'
      refine ⟨r, e, hb, fun q hq => ?_⟩
      rw [hcell q (by simpa [LR.cells] using hq)]
    have hsp : 0 < n0 → a.spot = none := fun h0 => by
      obtain ⟨r, e, _, hy⟩ := each 0 h0
      have := hy 0 (by decide)
      simpa [Addr.add] using World.cell?_spot this
    obtain ⟨f, hff⟩ : ∃ f : Nat → Lt, ∀ i, i < n0 → ∃ r : LR, LtAt W r (f i) ∧ ∀ q, q < 20 → W.cell? ((a.add (i * 20)).add q) = (r.cells (f i))[q]? :=
      ⟨fun i => if h : i < n0 then (each i h).choose_spec.choose else lt0, fun i hi => by simp only [dif_pos hi]; exact ⟨_, (each i hi).choose_spec.choose_spec⟩⟩
    have eAt : ∀ j, j < n0 → ltA ((List.range n0).map f) j = f j := fun j hj => by simp [ltA, hj]
    refine ⟨some a, m, (List.range n0).map f, by simp, (fun e => by cases e), by simpa using hl, by simpa using hreach, fun j hj => ?_⟩
    have hj0 : j < n0 := by simpa using hj
    obtain ⟨b, off, spot⟩ := a
    obtain rfl : spot = none := hsp (by omega)
    obtain ⟨r, hb, hq⟩ := hff j hj0
    rw [eAt j hj0]
    refine ⟨b, off, r, rfl, hb, fun k u hu => ?_⟩
    have hk : k < 20 := by
      have := (List.getElem?_eq_some_iff.1 hu).1
      simpa [LR.cells] using this
    have := hq k hk
    rw [add_off, add_off] at this
    rw [this]; exact hu
end Go.Proofs.Ytolfdncmlfnbdaa
