/- An act that came in. -/
import Derived.Test.YtebhcadolnjplaaGw
namespace Go.Proofs.Ytebhcadolnjplaa
open Go.ChangeShapes Go.WideShapes Go.ChangeAt Go.RowKit

set_option maxRecDepth 100000 in
theorem weights_ens {H : Type} (es sp : List (DataW H)) : (es.length + sp.length) * 136 ∈ (DataW.slice es sp).weights Try.prog 22 := by
  simp only [DataW.weights, Try.underlying22, bytesE]
  exact List.mem_cons_self ..
set_option maxRecDepth 100000 in
theorem ens_core {H : Type} {enc : TypeId × Value → H} {W : World} {fuel : Nat} {v : Value} {y : DataW H × List MemPlace} (hf : DataW.trod enc Try.prog W 0 (fun _ => true) true fuel 22 [v] = some y)
    (hsz : ∀ n ∈ y.1.weights Try.prog 22, n ≤ reachBytes) :
    ∃ A c l, v = .slice A l.length c ∧ (A = none → c = 0) ∧ l.length ≤ c ∧ l.length ≤ 17592186044416 ∧ EnsIn NoB W A l := by
  rcases Deep.open_slice Try.underlying22 hf with ⟨hcs, _⟩ | ⟨a, len, cap, m, q, D, Pl, hcs, _, hl, _, hm, hdd, hel⟩
  · simp at hcs
    subst hcs
    exact ⟨none, 0, [], rfl, fun _ => rfl, Nat.le_refl _, Nat.zero_le _, fun j hj => absurd hj (Nat.not_lt_zero _)⟩
  · simp at hcs
    subst hcs
    simp only [if_true] at hm
    subst hm
    rw [cellsE] at hel
    subst hdd
    have hreach : len ≤ 17592186044416 := by
      have := hsz _ (weights_ens _ _)
      simp only [List.length_map, List.length_range, reachBytes] at this
      omega
    have each : ∀ i, i < len → ∃ (r : ER) (e : En), EnAt NoB W r e ∧ ∀ q, q < 7 → W.cell? ((a.add (i * 7)).add q) = r.cells[q]? := fun i hi => by
      obtain ⟨cs', hcs', hd'⟩ := hel i (by omega)
      have hmem : D i ∈ (List.range len).map D := List.mem_map.2 ⟨i, List.mem_range.2 hi, rfl⟩
      obtain ⟨r, e, rfl, hb⟩ := entry_core hd' fun n hn => by
        have h7 := weightsAll_mem hmem hn
        exact hsz _ (by
          simp only [DataW.weights, Try.underlying22]
          exact List.mem_cons_of_mem _ (List.mem_append_left _ h7))
      obtain ⟨_, _, hcell⟩ := World.cells?_some hcs'
      refine ⟨r, e, hb, fun q hq => ?_⟩
      rw [hcell q (by simpa [ER.cells] using hq)]
    have hsp : 0 < len → a.spot = none := fun h0 => by
      obtain ⟨r, e, _, hy⟩ := each 0 h0
      have := hy 0 (by decide)
      simpa [Addr.add] using World.cell?_spot this
    obtain ⟨f, hff⟩ : ∃ f : Nat → En, ∀ i, i < len → ∃ r : ER, EnAt NoB W r (f i) ∧ ∀ q, q < 7 → W.cell? ((a.add (i * 7)).add q) = r.cells[q]? :=
      ⟨fun i => if h : i < len then (each i h).choose_spec.choose else en0, fun i hi => by simp only [dif_pos hi]; exact ⟨_, (each i hi).choose_spec.choose_spec⟩⟩
    have eAt : ∀ j, j < len → enA ((List.range len).map f) j = f j := fun j hj => by simp [enA, hj]
    refine ⟨some a, m, (List.range len).map f, by simp, (fun e => by cases e), by simpa using hl, by simpa using hreach, fun j hj => ?_⟩
    have hj0 : j < len := by simpa using hj
    obtain ⟨b, off, spot⟩ := a
    obtain rfl : spot = none := hsp (by omega)
    obtain ⟨r, hb, hq⟩ := hff j hj0
    rw [eAt j hj0]
    refine ⟨b, off, r, rfl, fun f => f, hb, fun q hq7 => ?_⟩
    have := hq q hq7
    rwa [add_off, add_off] at this
theorem cells22 : Try.prog.cellsOf 22 = 1 := by kernel_rfl
theorem cells29 : Try.prog.cellsOf 29 = 9 := by kernel_rfl
theorem base_core {H : Type} {enc : TypeId × Value → H} {W : World} {n : Nat} {v0 v1 v2 v3 v4 v5 : Value} {y : DataW H × List MemPlace} (h : DataW.trod enc Try.prog W 0 (fun _ => true) true n 27 [v0, v1, v2, v3, v4, v5] = some y)
    (hsz : ∀ n ∈ y.1.weights Try.prog 27, n ≤ reachBytes) :
    ∃ (i t : Int) (s : S4) (cf : Cfg), v0 = .int .i64 i ∧ v1 = .int .i64 t ∧ v2 = .slice s.A0 s.n0 s.c0 ∧ v3 = .slice s.A1 s.n1 s.c1 ∧ v4 = .slice s.A2 s.n2 s.c2 ∧ v5 = .slice s.A3 s.n3 s.c3 ∧ CfgAt W s cf := by
  obtain ⟨z0, z1, z2, m, hx, _, h0, h1, h2⟩ := Deep.trod_struct3 Try.underlying27 h
  simp only [cells3z, cells44, List.drop_zero, List.drop_succ_cons, List.take_succ_cons, List.take_zero] at h0 h1 h2
  obtain ⟨s, cf, q0, q1, q2, q3, hc⟩ := cfg_core h2 fun parts he => List.all_eq_true.2 fun k hk => by
    refine decide_eq_true (hsz _ ?_)
    subst hx
    rw [DataW.weights, Try.underlying27]
    refine DataW.weights_mem_each (j := 2) (t := 25) rfl (by simp; rfl) _ ?_
    rw [he, DataW.weights, Try.underlying25]
    exact hk
  obtain ⟨m0, e0, -, -⟩ := DataW.trod_int Try.underlying3 h0
  obtain ⟨m1, e1, -, -⟩ := DataW.trod_int Try.underlying3 h1
  simp only [List.cons.injEq, and_true] at e0 e1
  exact ⟨m0, m1, s, cf, e0, e1, q0, q1, q2, q3, hc⟩
theorem array9 {α : Type} {cs : Array α} (h : cs.size = 9) : ∃ c0 c1 c2 c3 c4 c5 c6 c7 c8, cs = #[c0, c1, c2, c3, c4, c5, c6, c7, c8] := by
  obtain ⟨l⟩ := cs
  match l, h with
  | [c0, c1, c2, c3, c4, c5, c6, c7, c8], _ => exact ⟨c0, c1, c2, c3, c4, c5, c6, c7, c8, rfl⟩
set_option maxRecDepth 100000 in
theorem act_open {H : Type} {enc : TypeId × Value → H} {W : World} {ts : List TypeId} {ds : List (DataW H)} {v : Value} {d : DataW H} {p : List MemPlace} {base : Nat}
    (h : DataW.Trod enc Try.prog W 0 (fun _ => true) true 29 v d p) (hv : Value.okWide Try.prog W .any base 29 v)
    (hsz : (DataW.weightsEach Try.prog ts ds).all (· ≤ reachBytes) = true) (j : Nat) (ht : ts[j]? = some 29) (hd : ds[j]? = some d) :
    ∃ (kd x i t : Int) (s : S4) (cf : Cfg) (A : Option Addr) (c : Nat) (l : List En), v = .agg #[.int .i64 kd, .int .i64 x, .slice A l.length c, .int .i64 i, .int .i64 t, .slice s.A0 s.n0 s.c0, .slice s.A1 s.n1 s.c1, .slice s.A2 s.n2 s.c2, .slice s.A3 s.n3 s.c3] ∧ CfgAt W s cf ∧ EnsIn NoB W A l ∧ l.length ≤ 17592186044416 := by
  obtain ⟨cs, rfl, hc9⟩ := okWide_struct Try.underlying29 hv
  obtain ⟨v0, v1, v2, v3, v4, v5, v6, v7, v8, rfl⟩ := array9 (hc9.trans cells29)
  obtain ⟨fuel, hf⟩ := h
  obtain ⟨z0, z1, z2, z3, n, hx, _, h0, h1, h2, h3⟩ := Joins.trod_struct4 Try.underlying29 hf
  simp only [Prod.mk.injEq] at hx
  obtain ⟨rfl, -⟩ := hx
  simp only [Value.cells, cells3z, cells22, cells46, List.drop_zero, List.drop_succ_cons, List.take_succ_cons, List.take_zero] at h0 h1 h2 h3
  have hw : ∀ (k : Nat) (t : TypeId) (z : DataW H), ([3, 3, 22, 27] : List TypeId)[k]? = some t → [z0.1, z1.1, z2.1, z3.1][k]? = some z → ∀ m ∈ z.weights Try.prog t, m ≤ reachBytes := fun k t z hk hz m hm => by
    have := List.all_eq_true.1 hsz _ (DataW.weights_mem_each ht hd m (by
      rw [DataW.weights, Try.underlying29]
      exact DataW.weights_mem_each (j := k) (t := t) hk hz _ hm))
    simpa using this
  obtain ⟨A, c, l, rfl, -, -, hn, hl⟩ := ens_core h2 (hw 2 22 _ rfl rfl)
  obtain ⟨i, t, s, cf, rfl, rfl, rfl, rfl, rfl, rfl, hcf⟩ := base_core h3 (hw 3 27 _ rfl rfl)
  obtain ⟨kd, e0, -, -⟩ := DataW.trod_int Try.underlying3 h0
  obtain ⟨x, e1, -, -⟩ := DataW.trod_int Try.underlying3 h1
  simp only [List.cons.injEq, and_true] at e0 e1
  subst e0 e1
  exact ⟨kd, x, i, t, s, cf, A, c, l, rfl, hcf, hl, hn⟩
end Go.Proofs.Ytebhcadolnjplaa
