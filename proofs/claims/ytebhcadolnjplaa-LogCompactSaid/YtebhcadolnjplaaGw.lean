/- A list of entries that came in. -/
import Derived.Test.YtebhcadolnjplaaGv
import Derived.Deep.Slices
namespace Go.Proofs.Ytebhcadolnjplaa
open Go.ChangeShapes Go.WideShapes Go.ChangeAt Go.RowKit

theorem cellsE : Try.prog.cellsOf 44 = 7 := by kernel_rfl
theorem cellsK : Try.prog.cellsOf 41 = 1 := by kernel_rfl
theorem cellsB : Try.prog.cellsOf 42 = 1 := by kernel_rfl
theorem bytesE : Try.prog.bytesOf 44 = 136 := by kernel_rfl
theorem weightsAll_mem {H : Type} {P : Program} {e : TypeId} {d : DataW H} {n : Nat} : ∀ {l : List (DataW H)}, d ∈ l → n ∈ d.weights P e → n ∈ DataW.weightsAll P e l
  | x :: l, hd, hn => by
    rw [DataW.weightsAll, List.mem_append]
    rcases List.mem_cons.1 hd with rfl | hd
    · exact .inl hn
    · exact .inr (weightsAll_mem hd hn)
theorem add_off (b o i : Nat) : (⟨b, o, none⟩ : Addr).add i = ⟨b, o + i, none⟩ := by unfold Addr.add; split <;> simp_all
theorem bytes_core {H : Type} {enc : TypeId × Value → H} {W : World} {n : Nat} {v : Value} {y : DataW H × List MemPlace} (h : DataW.trod enc Try.prog W 0 (fun _ => true) true n 42 [v] = some y)
    (hsz : ∀ elems spare, y.1 = .slice elems spare → (elems.length + spare.length) * 1 ≤ reachBytes) : ∃ xs, BytesIn W v xs := by
  rcases open_ints Try.underlying42 Try.underlying5 cells5 h with ⟨hcs, hx⟩ | ⟨a, len, cap, zs, hcs, _, hl, hm, hz, hx, hcell, hwz⟩
  · simp at hcs
    subst hcs
    exact ⟨[], BytesIn.nil _⟩
  · simp at hcs
    subst hcs
    simp only [if_true] at hz
    have hreach : len ≤ 140737488351232 := by
      have := hsz _ _ (by rw [hx])
      simp only [lits, List.length_map, List.length_take, List.length_drop, reachBytes] at this
      omega
    refine ⟨(zs.take len).map (BitVec.ofInt 8), ?_⟩
    have hlen : ((zs.take len).map (BitVec.ofInt 8)).length = len := by simp; omega
    by_cases h0 : len = 0
    · subst h0
      exact .inl ⟨by simp, _, _, rfl, fun e => by cases e⟩
    · obtain ⟨b, off, spot⟩ := a
      have hspot : spot = none := by simpa [Addr.add] using World.cell?_spot (hcell 0 (by omega))
      subst hspot
      refine .inr ⟨b, off, cap, by rw [hlen], by rw [hlen]; exact hl, by rw [hlen]; omega, fun i hi => ?_⟩
      rw [hlen] at hi
      have e : (⟨b, off, none⟩ : Addr).add i = ⟨b, off + i, none⟩ := add_off b off i
      have hc := hcell i (by omega)
      rw [e] at hc
      rw [hc]
      have hg : zs.getD i 0 = zs[i]'(by omega) := by simp [show i < zs.length by omega]
      have hw := wf_u8 (hwz _ (List.getElem_mem (show i < zs.length by omega)))
      rw [hg]
      have e2 : ((zs.take len).map (BitVec.ofInt 8)).getD i 0#8 = BitVec.ofInt 8 (zs[i]'(by omega)) := by
        simp [List.getD, hi, show i < zs.length by omega]
      rw [e2, ub_of hw]
theorem list7 {α : Type} {l : List α} (h : l.length = 7) : ∃ a b c d e f g, l = [a, b, c, d, e, f, g] := by
  match l, h with
  | [a, b, c, d, e, f, g], _ => exact ⟨a, b, c, d, e, f, g, rfl⟩
set_option maxRecDepth 100000 in
theorem weights_slice {H : Type} (es sp : List (DataW H)) : (es.length + sp.length) * 1 ∈ (DataW.slice es sp).weights Try.prog 42 := by
  simp only [DataW.weights, Try.underlying42, bytes5]
  exact List.mem_cons_self ..
theorem noOff (v : Value) : Off NoB v := fun _ _ _ _ _ _ f => f
set_option maxRecDepth 100000 in
/-- One entry, out of its seven cells. -/
theorem entry_core {H : Type} {enc : TypeId × Value → H} {W : World} {fuel : Nat} {cs : List Value} {x : DataW H × List MemPlace}
    (h : DataW.trod enc Try.prog W 0 (fun _ => true) true fuel 44 cs = some x) (hsz : ∀ n ∈ x.1.weights Try.prog 44, n ≤ reachBytes) : ∃ (r : ER) (e : En), cs = r.cells ∧ EnAt NoB W r e := by
  obtain ⟨xs, k, _, hdd, hl, hxl, hf⟩ := DataW.trod_struct Try.underlying44 h
  rw [cellsE] at hl
  obtain ⟨v0, v1, v2, v3, v4, v5, v6, rfl⟩ := list7 hl
  have hx : xs.length = 4 := hxl
  match xs, hx with
  | [y0, y1, y2, y3], _ =>
    have g0 := hf 0 _ rfl
    have g1 := hf 1 _ rfl
    have g2 := hf 2 _ rfl
    have g3 := hf 3 _ rfl
    simp [cells3z, cellsK, cellsB, cells44] at g0 g1 g2 g3
    obtain ⟨z0, e0, _⟩ := DataW.trod_int Try.underlying3 g0
    obtain ⟨z1, e1, _⟩ := DataW.trod_int Try.underlying41 g1
    simp only [List.cons.injEq, and_true] at e0 e1
    obtain ⟨ys, hy⟩ := bytes_core g2 fun elems spare he => by
      refine hsz _ ?_
      subst hdd
      rw [DataW.weights, Try.underlying44]
      exact DataW.weights_mem_each (j := 2) (t := 42) rfl (by simp [he]) _ (weights_slice elems spare)
    obtain ⟨s, cf, q0, q1, q2, q3, hc⟩ := cfg_core g3 fun parts he => List.all_eq_true.2 fun n hn => by
      refine decide_eq_true (hsz _ ?_)
      subst hdd
      rw [DataW.weights, Try.underlying44]
      refine DataW.weights_mem_each (j := 3) (t := 25) rfl (by simp; rfl) _ ?_
      rw [he, DataW.weights, Try.underlying25]
      exact hn
    obtain ⟨A, c, e2, -⟩ := hy.form
    subst e0 e1 e2 q0 q1 q2 q3
    exact ⟨⟨z0, z1, A, ys.length, c, s⟩, ⟨z0, z1, ys, cf⟩, rfl, rfl, rfl, hy, hc, noOff _, noOff _, noOff _, noOff _, noOff _⟩
set_option maxRecDepth 100000 in
theorem ens_open {H : Type} {enc : TypeId × Value → H} {W : World} {ts : List TypeId} {ds : List (DataW H)} {v : Value} {d : DataW H} {p : List MemPlace} {base : Nat}
    (h : DataW.Trod enc Try.prog W 0 (fun _ => true) true 22 v d p) (hv : Value.okWide Try.prog W .any base 22 v)
    (hsz : (DataW.weightsEach Try.prog ts ds).all (· ≤ reachBytes) = true) (j : Nat) (ht : ts[j]? = some 22) (hd : ds[j]? = some d) :
    ∃ A c l, v = .slice A l.length c ∧ (A = none → c = 0) ∧ l.length ≤ c ∧ l.length ≤ 17592186044416 ∧ EnsIn NoB W A l := by
  obtain ⟨a0, n0, c0, rfl⟩ := okWide_slice Try.underlying22 hv
  obtain ⟨fuel, hf⟩ := h
  rcases Deep.open_slice Try.underlying22 hf with ⟨hcs, _⟩ | ⟨a, len, cap, m, q, D, Pl, hcs, _, hl, _, hm, hdd, hel⟩
  · simp [Value.cells] at hcs
    obtain ⟨rfl, rfl, rfl⟩ := hcs
    exact ⟨none, 0, [], rfl, fun _ => rfl, Nat.le_refl _, Nat.zero_le _, fun j hj => absurd hj (Nat.not_lt_zero _)⟩
  · simp [Value.cells] at hcs
    obtain ⟨rfl, rfl, rfl⟩ := hcs
    simp only [if_true] at hm
    subst hm
    rw [cellsE] at hel
    simp only [Prod.mk.injEq] at hdd
    obtain ⟨rfl, -⟩ := hdd
    have hreach : n0 ≤ 17592186044416 := by
      have := sized_slice hsz ht hd Try.underlying22
      rw [bytesE] at this
      simp only [List.length_map, List.length_range, reachBytes] at this
      omega
    have each : ∀ i, i < n0 → ∃ (r : ER) (e : En), EnAt NoB W r e ∧ ∀ q, q < 7 → W.cell? ((a.add (i * 7)).add q) = r.cells[q]? := fun i hi => by
      obtain ⟨cs', hcs', hd'⟩ := hel i (by omega)
      have hmem : D i ∈ (List.range n0).map D := List.mem_map.2 ⟨i, List.mem_range.2 hi, rfl⟩
      obtain ⟨r, e, rfl, hb⟩ := entry_core hd' fun n hn => by
        have h7 := weightsAll_mem hmem hn
        have h8 := List.all_eq_true.1 hsz _ (DataW.weights_mem_each ht hd _ (by
          simp only [DataW.weights, Try.underlying22]
          exact List.mem_cons_of_mem _ (List.mem_append_left _ h7)))
        simpa using h8
      obtain ⟨_, _, hcell⟩ := World.cells?_some hcs'
      refine ⟨r, e, hb, fun q hq => ?_⟩
      rw [hcell q (by simpa [ER.cells] using hq)]
    have hsp : 0 < n0 → a.spot = none := fun h0 => by
      obtain ⟨r, e, _, hy⟩ := each 0 h0
      have := hy 0 (by decide)
      simpa [Addr.add] using World.cell?_spot this
    obtain ⟨f, hff⟩ : ∃ f : Nat → En, ∀ i, i < n0 → ∃ r : ER, EnAt NoB W r (f i) ∧ ∀ q, q < 7 → W.cell? ((a.add (i * 7)).add q) = r.cells[q]? :=
      ⟨fun i => if h : i < n0 then (each i h).choose_spec.choose else en0, fun i hi => by simp only [dif_pos hi]; exact ⟨_, (each i hi).choose_spec.choose_spec⟩⟩
    have eAt : ∀ j, j < n0 → enA ((List.range n0).map f) j = f j := fun j hj => by simp [enA, hj]
    refine ⟨some a, m, (List.range n0).map f, by simp, (fun e => by cases e), by simpa using hl, by simpa using hreach, fun j hj => ?_⟩
    have hj0 : j < n0 := by simpa using hj
    obtain ⟨b, off, spot⟩ := a
    obtain rfl : spot = none := hsp (by omega)
    obtain ⟨r, hb, hq⟩ := hff j hj0
    rw [eAt j hj0]
    refine ⟨b, off, r, rfl, fun f => f, hb, fun q hq7 => ?_⟩
    have := hq q hq7
    rwa [add_off, add_off] at this
end Go.Proofs.Ytebhcadolnjplaa
