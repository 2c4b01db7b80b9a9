/- How arguments that are a configuration, or a row of numbers, are opened. -/
import Derived.Test.YtolfdncmlfnbdaaK
import Derived.Test.YtolfdncmlfnbdaaQd
import Derived.Lib.SmallJoins
namespace Go.Proofs.Ytolfdncmlfnbdaa
open Go.ChangeShapes Go.WideShapes Go.ChangeAt Go.RowKit

theorem cells3 : Try.prog.cellsOf 3 = 1 := by kernel_rfl
theorem bytes3 : Try.prog.bytesOf 3 = 8 := by kernel_rfl
theorem cells48 : Try.prog.cellsOf 71 = 4 := by kernel_rfl

set_option maxRecDepth 100000 in
theorem ints_core {H : Type} {enc : TypeId × Value → H} {W : World} {n : Nat} {v : Value} {y : DataW H × List MemPlace} (h : DataW.trod enc Try.prog W 0 (fun _ => true) true n 22 [v] = some y)
    (hsz : ∀ elems spare, y.1 = .slice elems spare → (elems.length + spare.length) * 8 ≤ reachBytes) : ∃ xs, InI W v xs := by
  rcases open_ints Try.underlying22 Try.underlying3 cells3 h with ⟨hcs, hx⟩ | ⟨a, len, cap, zs, hcs, _, hl, hm, hz, hx, hcell, hwz⟩
  · simp at hcs
    subst hcs
    exact ⟨[], InI.nil _⟩
  · simp at hcs
    subst hcs
    simp only [if_true] at hz
    have hreach : len ≤ 17592186044416 := by
      have := hsz _ _ (by rw [hx])
      simp only [lits, List.length_map, List.length_take, List.length_drop, reachBytes] at this
      omega
    refine ⟨zs.take len, ?_⟩
    have hlen : (zs.take len).length = len := by simp; omega
    by_cases h0 : len = 0
    · subst h0
      exact .inl ⟨by simp, _, _, rfl, fun e => by cases e⟩
    · obtain ⟨b, off, spot⟩ := a
      have hspot : spot = none := by simpa [Addr.add] using World.cell?_spot (hcell 0 (by omega))
      subst hspot
      refine .inr ⟨b, off, cap, by rw [hlen], by rw [hlen]; exact hl, by rw [hlen]; omega, fun i hi => ?_⟩
      rw [hlen] at hi
      have e : (⟨b, off, none⟩ : Addr).add i = ⟨b, off + i, none⟩ := by unfold Addr.add; split <;> simp_all
      have hc := hcell i (by omega)
      rw [e] at hc
      rw [hc]
      have e2 : (zs.take len).getD i 0 = zs.getD i 0 := by simp [List.getD, hi]
      rw [e2]
set_option maxRecDepth 100000 in
theorem ints_open {H : Type} {enc : TypeId × Value → H} {W : World} {ts : List TypeId} {ds : List (DataW H)} {v : Value} {d : DataW H} {p : List MemPlace} {base : Nat}
    (h : DataW.Trod enc Try.prog W 0 (fun _ => true) true 22 v d p) (hv : Value.okWide Try.prog W .any base 22 v)
    (hsz : (DataW.weightsEach Try.prog ts ds).all (· ≤ reachBytes) = true) (j : Nat) (ht : ts[j]? = some 22) (hd : ds[j]? = some d) : ∃ xs, InI W v xs := by
  obtain ⟨a0, len, cap, rfl⟩ := okWide_slice Try.underlying22 hv
  obtain ⟨fuel, hf⟩ := h
  refine ints_core (y := (d, p)) (by simpa [Value.cells] using hf) fun elems spare he => ?_
  have := sized_slice hsz ht (hd.trans (by rw [← he])) Try.underlying22
  rwa [bytes3] at this
theorem sized_parts {H : Type} {P : Program} {ts : List TypeId} {ds : List (DataW H)} {j : Nat} {t : TypeId} {fs : Array Field} {parts : List (DataW H)} (h : (DataW.weightsEach P ts ds).all (· ≤ reachBytes) = true)
    (ht : ts[j]? = some t) (hd : ds[j]? = some (.agg parts)) (hu : P.underlying t = some (.struct fs)) : (DataW.weightsEach P (fs.toList.map (·.type)) parts).all (· ≤ reachBytes) = true :=
  List.all_eq_true.2 fun x hx => List.all_eq_true.1 h x (DataW.weights_mem_each ht hd x (by simpa [DataW.weights, hu] using hx))
set_option maxRecDepth 100000 in
theorem cfg_open {H : Type} {enc : TypeId × Value → H} {W : World} {ts : List TypeId} {ds : List (DataW H)} {v : Value} {d : DataW H} {p : List MemPlace} {base : Nat}
    (h : DataW.Trod enc Try.prog W 0 (fun _ => true) true 71 v d p) (hv : Value.okWide Try.prog W .any base 71 v)
    (hsz : (DataW.weightsEach Try.prog ts ds).all (· ≤ reachBytes) = true) (j : Nat) (ht : ts[j]? = some 71) (hd : ds[j]? = some d) : ∃ c, CfgIn W v c := by
  obtain ⟨v0, v1, v2, v3, y0, y1, y2, y3, n, rfl, rfl, _, h0, h1, h2, h3⟩ := Joins.open_agg4 Try.underlying71 (by kernel_rfl) cells48 hv h
  have hp := sized_parts hsz ht hd Try.underlying71
  have e : ∀ (j : Nat) (y : DataW H × List MemPlace) , [y0.1, y1.1, y2.1, y3.1][j]? = some y.1 → ([22, 22, 22, 22] : List TypeId)[j]? = some 22 → ∀ elems spare, y.1 = .slice elems spare → (elems.length + spare.length) * 8 ≤ reachBytes := fun j y hy ht elems spare he => by
    have := sized_slice hp (j := j) ht (hy.trans (by rw [he])) Try.underlying22
    rwa [bytes3] at this
  obtain ⟨x0, i0⟩ := ints_core h0 (e 0 y0 rfl rfl)
  obtain ⟨x1, i1⟩ := ints_core h1 (e 1 y1 rfl rfl)
  obtain ⟨x2, i2⟩ := ints_core h2 (e 2 y2 rfl rfl)
  obtain ⟨x3, i3⟩ := ints_core h3 (e 3 y3 rfl rfl)
  exact ⟨⟨x0, x1, x2, x3⟩, _, _, _, _, rfl, i0, i1, i2, i3⟩
end Go.Proofs.Ytolfdncmlfnbdaa
