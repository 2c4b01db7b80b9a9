/- How arguments that are a base, or a row of numbers, are opened. -/
import Derived.Test.YtebhcadolnjplaaFb
import Derived.Test.YtebhcadolnjplaaK
import Derived.Lib.SmallJoins
namespace Go.Proofs.Ytebhcadolnjplaa
open Go.ChangeShapes Go.WideShapes Go.ChangeAt Go.RowKit

theorem cells3z : Try.prog.cellsOf 3 = 1 := by kernel_rfl
theorem bytes3z : Try.prog.bytesOf 3 = 8 := by kernel_rfl
theorem cells42 : Try.prog.cellsOf 23 = 1 := by kernel_rfl
theorem cells44 : Try.prog.cellsOf 25 = 4 := by kernel_rfl
theorem cells46 : Try.prog.cellsOf 27 = 6 := by kernel_rfl

theorem ints_core {H : Type} {enc : TypeId × Value → H} {W : World} {n : Nat} {v : Value} {y : DataW H × List MemPlace} (h : DataW.trod enc Try.prog W 0 (fun _ => true) true n 23 [v] = some y)
    (hsz : ∀ elems spare, y.1 = .slice elems spare → (elems.length + spare.length) * 8 ≤ reachBytes) : ∃ xs, InI W v xs := by
  rcases open_ints Try.underlying23 Try.underlying3 cells3z h with ⟨hcs, hx⟩ | ⟨a, len, cap, zs, hcs, _, hl, hm, hz, hx, hcell, hwz⟩
  · simp at hcs
    subst hcs
    exact ⟨[], InI.nil _⟩
  · simp at hcs
    subst hcs
    simp only [if_true] at hz
    have hreach : len ≤ 17592186044416 := by
      have := hsz _ _ (by rw [hx])
      simp only [lits, List.length_map, List.length_take, List.length_drop, reachBytes] at this
      omega
    refine ⟨zs.take len, ?_⟩
    have hlen : (zs.take len).length = len := by simp; omega
    by_cases h0 : len = 0
    · subst h0
      exact .inl ⟨by simp, _, _, rfl, fun e => by cases e⟩
    · obtain ⟨b, off, spot⟩ := a
      have hspot : spot = none := by simpa [Addr.add] using World.cell?_spot (hcell 0 (by omega))
      subst hspot
      refine .inr ⟨b, off, cap, by rw [hlen], by rw [hlen]; exact hl, by rw [hlen]; omega, fun i hi => ?_⟩
      rw [hlen] at hi
      have e : (⟨b, off, none⟩ : Addr).add i = ⟨b, off + i, none⟩ := by unfold Addr.add; split <;> simp_all
      have hc := hcell i (by omega)
      rw [e] at hc
      rw [hc]
      have e2 : (zs.take len).getD i 0 = zs.getD i 0 := by simp [List.getD, hi]
      rw [e2]
set_option maxRecDepth 100000 in
theorem ints_open {H : Type} {enc : TypeId × Value → H} {W : World} {ts : List TypeId} {ds : List (DataW H)} {v : Value} {d : DataW H} {p : List MemPlace} {base : Nat}
    (h : DataW.Trod enc Try.prog W 0 (fun _ => true) true 23 v d p) (hv : Value.okWide Try.prog W .any base 23 v)
    (hsz : (DataW.weightsEach Try.prog ts ds).all (· ≤ reachBytes) = true) (j : Nat) (ht : ts[j]? = some 23) (hd : ds[j]? = some d) : ∃ xs, InI W v xs := by
  obtain ⟨a0, len, cap, rfl⟩ := okWide_slice Try.underlying23 hv
  obtain ⟨fuel, hf⟩ := h
  refine ints_core (y := (d, p)) (by simpa [Value.cells] using hf) fun elems spare he => ?_
  have := sized_slice hsz ht (hd.trans (by rw [← he])) Try.underlying23
  rwa [bytes3z] at this
theorem sized_parts {H : Type} {P : Program} {ts : List TypeId} {ds : List (DataW H)} {j : Nat} {t : TypeId} {fs : Array Field} {parts : List (DataW H)} (h : (DataW.weightsEach P ts ds).all (· ≤ reachBytes) = true)
    (ht : ts[j]? = some t) (hd : ds[j]? = some (.agg parts)) (hu : P.underlying t = some (.struct fs)) : (DataW.weightsEach P (fs.toList.map (·.type)) parts).all (· ≤ reachBytes) = true :=
  List.all_eq_true.2 fun x hx => List.all_eq_true.1 h x (DataW.weights_mem_each ht hd x (by simpa [DataW.weights, hu] using hx))
theorem array6 {α : Type} {cs : Array α} (h : cs.size = 6) : ∃ c0 c1 c2 c3 c4 c5, cs = #[c0, c1, c2, c3, c4, c5] := by
  obtain ⟨l⟩ := cs
  match l, h with
  | [c0, c1, c2, c3, c4, c5], _ => exact ⟨c0, c1, c2, c3, c4, c5, rfl⟩
set_option maxRecDepth 100000 in
theorem base_open {H : Type} {enc : TypeId × Value → H} {W : World} {ts : List TypeId} {ds : List (DataW H)} {v : Value} {d : DataW H} {p : List MemPlace} {base : Nat}
    (h : DataW.Trod enc Try.prog W 0 (fun _ => true) true 27 v d p) (hv : Value.okWide Try.prog W .any base 27 v)
    (hsz : (DataW.weightsEach Try.prog ts ds).all (· ≤ reachBytes) = true) (j : Nat) (ht : ts[j]? = some 27) (hd : ds[j]? = some d) :
    ∃ (i t : Int) (s : S4) (cf : Cfg), v = .agg #[.int .i64 i, .int .i64 t, .slice s.A0 s.n0 s.c0, .slice s.A1 s.n1 s.c1, .slice s.A2 s.n2 s.c2, .slice s.A3 s.n3 s.c3] ∧ CfgAt W s cf := by
  obtain ⟨cs, rfl, hc6⟩ := okWide_struct Try.underlying27 hv
  obtain ⟨v0, v1, v2, v3, v4, v5, rfl⟩ := array6 (hc6.trans cells46)
  obtain ⟨fuel, hf⟩ := h
  obtain ⟨z0, z1, z2, n, hx, _, h0, h1, h2⟩ := Deep.trod_struct3 Try.underlying27 hf
  simp only [Prod.mk.injEq] at hx
  obtain ⟨rfl, -⟩ := hx
  have hp := sized_parts hsz ht hd Try.underlying27
  simp only [Value.cells, cells3z, cells44, List.drop_zero, List.drop_succ_cons, List.take_succ_cons, List.take_zero] at h0 h1 h2
  obtain ⟨y0, y1, y2, y3, n2, hx2, _, k0, k1, k2, k3⟩ := Joins.trod_struct4 Try.underlying25 h2
  have hp2 := sized_parts hp (j := 2) (t := 25) rfl (by rw [hx2]; rfl) Try.underlying25
  simp only [cells42, List.drop_zero, List.drop_succ_cons, List.take_succ_cons, List.take_zero] at k0 k1 k2 k3
  have e : ∀ (j : Nat) (y : DataW H × List MemPlace) , [y0.1, y1.1, y2.1, y3.1][j]? = some y.1 → ([23, 23, 23, 23] : List TypeId)[j]? = some 23 → ∀ elems spare, y.1 = .slice elems spare → (elems.length + spare.length) * 8 ≤ reachBytes := fun j y hy ht elems spare he => by
    have := sized_slice hp2 (j := j) ht (hy.trans (by rw [he])) Try.underlying23
    rwa [bytes3z] at this
  obtain ⟨x0, i0⟩ := ints_core k0 (e 0 y0 rfl rfl)
  obtain ⟨x1, i1⟩ := ints_core k1 (e 1 y1 rfl rfl)
  obtain ⟨x2, i2⟩ := ints_core k2 (e 2 y2 rfl rfl)
  obtain ⟨x3, i3⟩ := ints_core k3 (e 3 y3 rfl rfl)
  obtain ⟨m0, e0, -, -⟩ := DataW.trod_int Try.underlying3 h0
  obtain ⟨m1, e1, -, -⟩ := DataW.trod_int Try.underlying3 h1
  simp only [List.cons.injEq, and_true] at e0 e1
  subst e0 e1
  obtain ⟨A0, c0, rfl, -⟩ := i0.form
  obtain ⟨A1, c1, rfl, -⟩ := i1.form
  obtain ⟨A2, c2, rfl, -⟩ := i2.form
  obtain ⟨A3, c3, rfl, -⟩ := i3.form
  exact ⟨m0, m1, ⟨A0, x0.length, c0, A1, x1.length, c1, A2, x2.length, c2, A3, x3.length, c3⟩, ⟨x0, x1, x2, x3⟩, rfl, ⟨i0, i1, i2, i3⟩⟩
end Go.Proofs.Ytebhcadolnjplaa
