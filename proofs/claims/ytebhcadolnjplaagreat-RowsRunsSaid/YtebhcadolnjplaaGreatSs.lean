/- A list of rows that came in. -/
import Derived.Test.YtebhcadolnjplaaGreatRx
import Derived.Test.YtebhcadolnjplaaGreatK
import Derived.Deep.Slices
namespace Go.Proofs.YtebhcadolnjplaaGreat
open Go.ChangeShapes Go.WideShapes Go.ChangeAt Go.RowKit

theorem cells105 : Tryz.prog.cellsOf 48 = 2 := by kernel_rfl
theorem cells9 : Tryz.prog.cellsOf 9 = 1 := by kernel_rfl
theorem bytes105 : Tryz.prog.bytesOf 48 = 32 := by kernel_rfl
theorem wAll_mem {H : Type} {P : Program} {e : TypeId} {d : DataW H} {n : Nat} : ∀ {l : List (DataW H)}, d ∈ l → n ∈ d.weights P e → n ∈ DataW.weightsAll P e l
  | x :: l, hd, hn => by
    rw [DataW.weightsAll, List.mem_append]
    rcases List.mem_cons.1 hd with rfl | hd
    · exact .inl hn
    · exact .inr (wAll_mem hd hn)
theorem two_of {α : Type} {l : List α} (h : l.length = 2) : ∃ a b, l = [a, b] := by
  match l, h with
  | [a, b], _ => exact ⟨a, b, rfl⟩
set_option maxRecDepth 100000 in
theorem row_core {H : Type} {enc : TypeId × Value → H} {W : World} {fuel : Nat} {cs : List Value} {x : DataW H × List MemPlace}
    (h : DataW.trod enc Tryz.prog W 0 (fun _ => true) true fuel 48 cs = some x) : ∃ y : Rw, cs = [.string y.key, .string y.val] ∧ y.key.size ∈ x.1.weights Tryz.prog 48 ∧ y.val.size ∈ x.1.weights Tryz.prog 48 := by
  obtain ⟨xs, k, _, hdd, hl, hxl, hf⟩ := DataW.trod_struct Tryz.underlying48 h
  rw [cells105] at hl
  obtain ⟨v0, v1, rfl⟩ := two_of hl
  have hx : xs.length = 2 := hxl
  match xs, hx with
  | [y0, y1], _ =>
    have g0 := hf 0 _ rfl
    have g1 := hf 1 _ rfl
    simp [cells9] at g0 g1
    obtain ⟨s0, e0, hs0, _⟩ := DataW.trod_string Tryz.underlying9 g0
    obtain ⟨s1, e1, hs1, _⟩ := DataW.trod_string Tryz.underlying9 g1
    simp only [List.cons.injEq, and_true] at e0 e1
    refine ⟨⟨s0, s1⟩, by rw [e0, e1], ?_, ?_⟩
    all_goals
      subst hdd hs0 hs1
      rw [DataW.weights, Tryz.underlying48]
    · exact DataW.weights_mem_each (j := 0) (t := 9) rfl rfl _ (by rw [DataW.weights, List.mem_singleton, Array.length_toList]; rfl)
    · exact DataW.weights_mem_each (j := 1) (t := 9) rfl rfl _ (by rw [DataW.weights, List.mem_singleton, Array.length_toList]; rfl)
set_option maxRecDepth 100000 in
theorem rows_open {H : Type} {enc : TypeId × Value → H} {W : World} {ts : List TypeId} {ds : List (DataW H)} {v : Value} {d : DataW H} {p : List MemPlace} {base : Nat}
    (h : DataW.Trod enc Tryz.prog W 0 (fun _ => true) true 29 v d p) (hv : Value.okWide Tryz.prog W .any base 29 v)
    (hsz : (DataW.weightsEach Tryz.prog ts ds).all (· ≤ reachBytes) = true) (j : Nat) (ht : ts[j]? = some 29) (hd : ds[j]? = some d) :
    ∃ A n c l, v = .slice A n c ∧ l.length = n ∧ n ≤ 17592186044416 ∧ RowsIn W A l ∧ RowsSz l := by
  obtain ⟨a0, n0, c0, rfl⟩ := okWide_slice Tryz.underlying29 hv
  obtain ⟨fuel, hf⟩ := h
  rcases Deep.open_slice Tryz.underlying29 hf with ⟨hcs, _⟩ | ⟨a, len, cap, m, q, D, Pl, hcs, _, hl, _, hm, hdd, hel⟩
  · simp [Value.cells] at hcs
    obtain ⟨rfl, rfl, rfl⟩ := hcs
    exact ⟨none, 0, 0, [], rfl, rfl, Nat.zero_le _, fun j hj => absurd hj (Nat.not_lt_zero _), fun j hj => absurd hj (Nat.not_lt_zero _)⟩
  · simp [Value.cells] at hcs
    obtain ⟨rfl, rfl, rfl⟩ := hcs
    simp only [if_true] at hm
    subst hm
    rw [cells105] at hel
    simp only [Prod.mk.injEq] at hdd
    obtain ⟨rfl, -⟩ := hdd
    have hreach : n0 ≤ 17592186044416 := by
      have := sized_slice hsz ht hd Tryz.underlying29
      rw [bytes105] at this
      simp only [List.length_map, List.length_range, reachBytes] at this
      omega
    have each : ∀ i, i < n0 → ∃ y : Rw, (y.key.size ∈ (D i).weights Tryz.prog 48 ∧ y.val.size ∈ (D i).weights Tryz.prog 48) ∧ ∀ j u, [Value.string y.key, .string y.val][j]? = some u → W.cell? ((a.add (i * 2)).add j) = some u := fun i hi => by
      obtain ⟨cs', hc, ht⟩ := hel i (by omega)
      obtain ⟨y, rfl, hl2⟩ := row_core ht
      obtain ⟨_, _, hcell⟩ := World.cells?_some hc
      refine ⟨y, hl2, fun j u hu => ?_⟩
      have hj := (List.getElem?_eq_some_iff.1 hu).1
      rw [hcell j (by simpa using hj)]
      exact hu
    have hsp : 0 < n0 → a.spot = none := fun h0 => by
      obtain ⟨y, _, hy⟩ := each 0 (by omega)
      have := hy 0 _ rfl
      simpa [Addr.add] using World.cell?_spot this
    obtain ⟨f, hff⟩ : ∃ f : Nat → Rw, ∀ i, i < n0 → ((f i).key.size ∈ (D i).weights Tryz.prog 48 ∧ (f i).val.size ∈ (D i).weights Tryz.prog 48) ∧ ∀ j u, [Value.string (f i).key, .string (f i).val][j]? = some u → W.cell? ((a.add (i * 2)).add j) = some u :=
      ⟨fun i => if h : i < n0 then (each i h).choose else rw0, fun i hi => by simp only [dif_pos hi]; exact (each i hi).choose_spec⟩
    have eAt : ∀ j, j < n0 → rwA ((List.range n0).map f) j = f j := fun j hj => by simp [rwA, hj]
    refine ⟨some a, n0, m, (List.range n0).map f, rfl, by simp, hreach, fun j hj => ?_, fun i hi => ?_⟩
    · have hj0 : j < n0 := by simpa using hj
      obtain ⟨b, off, spot⟩ := a
      obtain rfl : spot = none := hsp (by omega)
      have hq := (hff j hj0).2
      rw [Addr.add_lit] at hq
      rw [eAt j hj0]
      have c0 := hq 0 _ rfl
      have c1 := hq 1 _ rfl
      rw [Addr.add_lit] at c0 c1
      exact ⟨b, off, rfl, c0, c1⟩
    · have hj0 : i < n0 := by simpa using hi
      rw [eAt i hj0]
      have hmem : D i ∈ (List.range n0).map D := List.mem_map.2 ⟨i, List.mem_range.2 hj0, rfl⟩
      have hw := (hff i hj0).1
      have key : ∀ n, n ∈ (D i).weights Tryz.prog 48 → n ≤ reachBytes := fun n hn => by
        have h8 := List.all_eq_true.1 hsz _ (DataW.weights_mem_each ht hd _ (by
          simp only [DataW.weights, Tryz.underlying29]
          exact List.mem_cons_of_mem _ (List.mem_append_left _ (wAll_mem hmem hn))))
        simpa using h8
      exact ⟨Nat.le_trans (key _ hw.1) (by decide), Nat.le_trans (key _ hw.2) (by decide)⟩
end Go.Proofs.YtebhcadolnjplaaGreat
