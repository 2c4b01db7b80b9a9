/- Lists of deeds, texts that came in. -/
import Derived.Test.YtebhcadolnjplaaGreatVj
import Derived.Test.YtebhcadolnjplaaGreatSs
import Derived.Lib.SmallJoins
import Derived.SliceStrings
namespace Go.Proofs.YtebhcadolnjplaaGreat
open Go.ChangeShapes Go.WideShapes Go.ChangeAt Go.RowKit

theorem cells91 : Tryz.prog.cellsOf 36 = 2 := by kernel_rfl
theorem cells96 : Tryz.prog.cellsOf 38 = 4 := by kernel_rfl
theorem cells66 : Tryz.prog.cellsOf 29 = 1 := by kernel_rfl
theorem cells3d : Tryz.prog.cellsOf 3 = 1 := by kernel_rfl
theorem bytes96 : Tryz.prog.bytesOf 38 = 64 := by kernel_rfl
theorem four_of {α : Type} {l : List α} (h : l.length = 4) : ∃ a b c d, l = [a, b, c, d] := by
  match l, h with
  | [a, b, c, d], _ => exact ⟨a, b, c, d, rfl⟩
set_option maxRecDepth 100000 in
theorem span_core {H : Type} {enc : TypeId × Value → H} {W : World} {fuel : Nat} {cs : List Value} {x : DataW H × List MemPlace}
    (h : DataW.trod enc Tryz.prog W 0 (fun _ => true) true fuel 36 cs = some x) : ∃ y : Sp, cs = [.string y.lo, .string y.hi] ∧ y.lo.size ∈ x.1.weights Tryz.prog 36 ∧ y.hi.size ∈ x.1.weights Tryz.prog 36 := by
  obtain ⟨xs, k, _, hdd, hl, hxl, hf⟩ := DataW.trod_struct Tryz.underlying36 h
  rw [cells91] at hl
  obtain ⟨v0, v1, rfl⟩ := two_of hl
  have hx : xs.length = 2 := hxl
  match xs, hx with
  | [y0, y1], _ =>
    have g0 := hf 0 _ rfl
    have g1 := hf 1 _ rfl
    simp [cells9] at g0 g1
    obtain ⟨s0, e0, hs0, _⟩ := DataW.trod_string Tryz.underlying9 g0
    obtain ⟨s1, e1, hs1, _⟩ := DataW.trod_string Tryz.underlying9 g1
    simp only [List.cons.injEq, and_true] at e0 e1
    refine ⟨⟨s0, s1⟩, by rw [e0, e1], ?_, ?_⟩
    all_goals
      subst hdd hs0 hs1
      rw [DataW.weights, Tryz.underlying36]
    · exact DataW.weights_mem_each (j := 0) (t := 9) rfl rfl _ (by rw [DataW.weights, List.mem_singleton, Array.length_toList]; rfl)
    · exact DataW.weights_mem_each (j := 1) (t := 9) rfl rfl _ (by rw [DataW.weights, List.mem_singleton, Array.length_toList]; rfl)
set_option maxRecDepth 100000 in
theorem span_open {H : Type} {enc : TypeId × Value → H} {W : World} {v : Value} {d : DataW H} {p : List MemPlace} {base : Nat}
    (h : DataW.Trod enc Tryz.prog W 0 (fun _ => true) true 36 v d p) (hv : Value.okWide Tryz.prog W .any base 36 v) : ∃ s, v = spV s := by
  obtain ⟨v0, v1, y0, y1, n, rfl, _, _, h0, h1⟩ := Joins.open_agg2 Tryz.underlying36 (by kernel_rfl) cells91 hv h
  obtain ⟨s0, e0, _⟩ := DataW.trod_string Tryz.underlying9 h0
  obtain ⟨s1, e1, _⟩ := DataW.trod_string Tryz.underlying9 h1
  simp only [List.cons.injEq, and_true] at e0 e1
  exact ⟨⟨s0, s1⟩, by rw [e0, e1]; rfl⟩
set_option maxRecDepth 100000 in
theorem rows_core {H : Type} {enc : TypeId × Value → H} {W : World} {fuel : Nat} {v : Value} {x : DataW H × List MemPlace}
    (hf : DataW.trod enc Tryz.prog W 0 (fun _ => true) true fuel 29 [v] = some x) (hsz : ∀ n ∈ x.1.weights Tryz.prog 29, n ≤ reachBytes) :
    ∃ A n c l, v = .slice A n c ∧ l.length = n ∧ n ≤ 17592186044416 ∧ RowsIn W A l ∧ RowsSz l ∧ (A = none → c = 0) := by
  obtain ⟨x1, x2⟩ := x
  rcases Deep.open_slice Tryz.underlying29 hf with ⟨hcs, _⟩ | ⟨a, len, cap, m, q, D, Pl, hcs, _, hl, _, hm, hdd, hel⟩
  · simp at hcs
    subst hcs
    exact ⟨none, 0, 0, [], rfl, rfl, Nat.zero_le _, fun j hj => absurd hj (Nat.not_lt_zero _), fun j hj => absurd hj (Nat.not_lt_zero _), fun _ => rfl⟩
  · simp at hcs
    subst hcs
    simp only [if_true] at hm
    subst hm
    rw [cells105] at hel
    simp only [Prod.mk.injEq] at hdd
    obtain ⟨rfl, -⟩ := hdd
    have hreach : len ≤ 17592186044416 := by
      have := hsz _ (by simp only [DataW.weights, Tryz.underlying29, bytes105]; exact List.mem_cons_self ..)
      simp only [List.length_map, List.length_range, reachBytes] at this
      omega
    have each : ∀ i, i < len → ∃ y : Rw, (y.key.size ∈ (D i).weights Tryz.prog 48 ∧ y.val.size ∈ (D i).weights Tryz.prog 48) ∧ ∀ j u, [Value.string y.key, .string y.val][j]? = some u → W.cell? ((a.add (i * 2)).add j) = some u := fun i hi => by
      obtain ⟨cs', hc, ht⟩ := hel i (by omega)
      obtain ⟨y, rfl, hl2⟩ := row_core ht
      obtain ⟨_, _, hcell⟩ := World.cells?_some hc
      refine ⟨y, hl2, fun j u hu => ?_⟩
      have hj := (List.getElem?_eq_some_iff.1 hu).1
      rw [hcell j (by simpa using hj)]
      exact hu
    have hsp : 0 < len → a.spot = none := fun h0 => by
      obtain ⟨y, _, hy⟩ := each 0 (by omega)
      have := hy 0 _ rfl
      simpa [Addr.add] using World.cell?_spot this
    obtain ⟨f, hff⟩ : ∃ f : Nat → Rw, ∀ i, i < len → ((f i).key.size ∈ (D i).weights Tryz.prog 48 ∧ (f i).val.size ∈ (D i).weights Tryz.prog 48) ∧ ∀ j u, [Value.string (f i).key, .string (f i).val][j]? = some u → W.cell? ((a.add (i * 2)).add j) = some u :=
      ⟨fun i => if h : i < len then (each i h).choose else rw0, fun i hi => by simp only [dif_pos hi]; exact (each i hi).choose_spec⟩
    have eAt : ∀ j, j < len → rwA ((List.range len).map f) j = f j := fun j hj => by simp [rwA, hj]
    refine ⟨some a, len, m, (List.range len).map f, rfl, by simp, hreach, fun j hj => ?_, fun i hi => ?_, fun e => by cases e⟩
    · have hj0 : j < len := by simpa using hj
      obtain ⟨b, off, spot⟩ := a
      obtain rfl : spot = none := hsp (by omega)
      have hq := (hff j hj0).2
      rw [Addr.add_lit] at hq
      rw [eAt j hj0]
      have c0 := hq 0 _ rfl
      have c1 := hq 1 _ rfl
      rw [Addr.add_lit] at c0 c1
      exact ⟨b, off, rfl, c0, c1⟩
    · have hj0 : i < len := by simpa using hi
      rw [eAt i hj0]
      have hmem : D i ∈ (List.range len).map D := List.mem_map.2 ⟨i, List.mem_range.2 hj0, rfl⟩
      have hw := (hff i hj0).1
      have key : ∀ n, n ∈ (D i).weights Tryz.prog 48 → n ≤ reachBytes := fun n hn => hsz _ (by
        simp only [DataW.weights, Tryz.underlying29]
        exact List.mem_cons_of_mem _ (List.mem_append_left _ (wAll_mem hmem hn)))
      exact ⟨Nat.le_trans (key _ hw.1) (by decide), Nat.le_trans (key _ hw.2) (by decide)⟩
set_option maxRecDepth 100000 in
theorem rows_open2 {H : Type} {enc : TypeId × Value → H} {W : World} {ts : List TypeId} {ds : List (DataW H)} {v : Value} {d : DataW H} {p : List MemPlace} {base : Nat}
    (h : DataW.Trod enc Tryz.prog W 0 (fun _ => true) true 29 v d p) (hv : Value.okWide Tryz.prog W .any base 29 v)
    (hsz : (DataW.weightsEach Tryz.prog ts ds).all (· ≤ reachBytes) = true) (j : Nat) (ht : ts[j]? = some 29) (hd : ds[j]? = some d) :
    ∃ A n c l, v = .slice A n c ∧ l.length = n ∧ n ≤ 17592186044416 ∧ RowsIn W A l ∧ RowsSz l ∧ (A = none → c = 0) := by
  obtain ⟨a0, n0, c0, rfl⟩ := okWide_slice Tryz.underlying29 hv
  obtain ⟨fuel, hf⟩ := h
  refine rows_core (x := (d, p)) (by simpa [Value.cells] using hf) fun n hn => ?_
  have h8 := List.all_eq_true.1 hsz _ (DataW.weights_mem_each ht hd _ hn)
  simpa using h8
def Dd.cells (d : Dd) : List Value := [.int .i64 d.kind, .slice d.A d.n d.c, .string d.sp.lo, .string d.sp.hi]
structure DdIn (W : World) (d : Dd) : Prop where
  len : d.rows.length = d.n
  n6 : d.n ≤ 17592186044416
  rows : RowsIn W d.A d.rows
  sz : RowsSz d.rows
  lo : d.sp.lo.size ≤ 140737488355328
  hi : d.sp.hi.size ≤ 140737488355328
  nil : d.A = none → d.c = 0
set_option maxRecDepth 100000 in
theorem deed_core {H : Type} {enc : TypeId × Value → H} {W : World} {fuel : Nat} {cs : List Value} {x : DataW H × List MemPlace}
    (h : DataW.trod enc Tryz.prog W 0 (fun _ => true) true fuel 38 cs = some x) (hsz : ∀ n ∈ x.1.weights Tryz.prog 38, n ≤ reachBytes) : ∃ d : Dd, cs = d.cells ∧ DdIn W d := by
  obtain ⟨xs, k, _, hdd, hl, hxl, hf⟩ := DataW.trod_struct Tryz.underlying38 h
  rw [cells96] at hl
  obtain ⟨v0, v1, v2, v3, rfl⟩ := four_of hl
  have hx : xs.length = 3 := hxl
  match xs, hx with
  | [y0, y1, y2], _ =>
    have g0 := hf 0 _ rfl
    have g1 := hf 1 _ rfl
    have g2 := hf 2 _ rfl
    simp [cells3d, cells66, cells91] at g0 g1 g2
    obtain ⟨z0, e0, _⟩ := DataW.trod_int Tryz.underlying3 g0
    obtain ⟨A, n, c, l, rfl, hl, hn, hin, hrs, hnil⟩ := rows_core g1 fun m hm => hsz _ (by
      subst hdd
      rw [DataW.weights, Tryz.underlying38]
      exact DataW.weights_mem_each (j := 1) (t := 29) rfl rfl _ hm)
    obtain ⟨s, e2, hs0, hs1⟩ := span_core g2
    simp only [List.cons.injEq, and_true] at e0 e2
    have key : ∀ m, m ∈ y2.1.weights Tryz.prog 36 → m ≤ reachBytes := fun m hm => hsz _ (by
      subst hdd
      rw [DataW.weights, Tryz.underlying38]
      exact DataW.weights_mem_each (j := 2) (t := 36) rfl rfl _ hm)
    exact ⟨⟨z0, A, n, c, l, s⟩, by rw [e0, e2.1, e2.2]; rfl, ⟨hl, hn, hin, hrs, Nat.le_trans (key _ hs0) (by decide), Nat.le_trans (key _ hs1) (by decide), hnil⟩⟩
set_option maxRecDepth 100000 in
theorem deeds_open {H : Type} {enc : TypeId × Value → H} {W : World} {ts : List TypeId} {ds : List (DataW H)} {v : Value} {d : DataW H} {p : List MemPlace} {base : Nat}
    (h : DataW.Trod enc Tryz.prog W 0 (fun _ => true) true 22 v d p) (hv : Value.okWide Tryz.prog W .any base 22 v)
    (hsz : (DataW.weightsEach Tryz.prog ts ds).all (· ≤ reachBytes) = true) (j : Nat) (ht : ts[j]? = some 22) (hd : ds[j]? = some d) :
    ∃ A n c l, v = .slice A n c ∧ l.length = n ∧ n ≤ 17592186044416 ∧ DeedsIn W A l ∧ DeedsNil l := by
  obtain ⟨a0, n0, c0, rfl⟩ := okWide_slice Tryz.underlying22 hv
  obtain ⟨fuel, hf⟩ := h
  rcases Deep.open_slice Tryz.underlying22 hf with ⟨hcs, _⟩ | ⟨a, len, cap, m, q, D, Pl, hcs, _, hl, _, hm, hdd, hel⟩
  · simp [Value.cells] at hcs
    obtain ⟨rfl, rfl, rfl⟩ := hcs
    exact ⟨none, 0, 0, [], rfl, rfl, Nat.zero_le _, fun j hj => absurd hj (Nat.not_lt_zero _), fun j hj => absurd hj (Nat.not_lt_zero _)⟩
  · simp [Value.cells] at hcs
    obtain ⟨rfl, rfl, rfl⟩ := hcs
    simp only [if_true] at hm
    subst hm
    rw [cells96] at hel
    simp only [Prod.mk.injEq] at hdd
    obtain ⟨rfl, -⟩ := hdd
    have hreach : n0 ≤ 17592186044416 := by
      have := sized_slice hsz ht hd Tryz.underlying22
      rw [bytes96] at this
      simp only [List.length_map, List.length_range, reachBytes] at this
      omega
    have each : ∀ i, i < n0 → ∃ e : Dd, DdIn W e ∧ ∀ q, q < 4 → W.cell? ((a.add (i * 4)).add q) = e.cells[q]? := fun i hi => by
      obtain ⟨cs', hcs', hd'⟩ := hel i (by omega)
      have hmem : D i ∈ (List.range n0).map D := List.mem_map.2 ⟨i, List.mem_range.2 hi, rfl⟩
      obtain ⟨e, rfl, hb⟩ := deed_core hd' fun n hn => by
        have h7 := wAll_mem hmem hn
        have h8 := List.all_eq_true.1 hsz _ (DataW.weights_mem_each ht hd _ (by
          simp only [DataW.weights, Tryz.underlying22]
          exact List.mem_cons_of_mem _ (List.mem_append_left _ h7)))
        simpa using h8
      obtain ⟨_, _, hcell⟩ := World.cells?_some hcs'
      refine ⟨e, hb, fun q hq => ?_⟩
      rw [hcell q (by simpa [Dd.cells] using hq)]
    have hsp : 0 < n0 → a.spot = none := fun h0 => by
      obtain ⟨e, _, hy⟩ := each 0 h0
      have := hy 0 (by decide)
      simpa [Addr.add] using World.cell?_spot this
    obtain ⟨f, hff⟩ : ∃ f : Nat → Dd, ∀ i, i < n0 → DdIn W (f i) ∧ ∀ q, q < 4 → W.cell? ((a.add (i * 4)).add q) = (f i).cells[q]? :=
      ⟨fun i => if h : i < n0 then (each i h).choose else dd0, fun i hi => by simp only [dif_pos hi]; exact (each i hi).choose_spec⟩
    have eAt : ∀ j, j < n0 → ddA ((List.range n0).map f) j = f j := fun j hj => by simp [ddA, hj]
    refine ⟨some a, n0, m, (List.range n0).map f, rfl, by simp, hreach, fun j hj => ?_, fun j hj => by rw [eAt j (by simpa using hj)]; exact (hff j (by simpa using hj)).1.nil⟩
    have hj0 : j < n0 := by simpa using hj
    obtain ⟨b, off, spot⟩ := a
    obtain rfl : spot = none := hsp (by omega)
    obtain ⟨hb, hq⟩ := hff j hj0
    rw [eAt j hj0]
    have hc : ∀ q, q < 4 → W.cell? ⟨b, off + j * 4 + q, none⟩ = (f j).cells[q]? := fun q hq4 => by
      have := hq q hq4
      rwa [Addr.add_lit, Addr.add_lit] at this
    exact ⟨b, off, rfl, ⟨hc 0 (by decide), hc 1 (by decide), hc 2 (by decide), hc 3 (by decide), hb.len, hb.n6, hb.rows, hb.sz, hb.lo, hb.hi⟩⟩
theorem bytes9 : Tryz.prog.bytesOf 9 = 16 := by kernel_rfl
set_option maxRecDepth 100000 in
theorem texts_open {H : Type} {enc : TypeId × Value → H} {W : World} {v : Value} {d : DataW H} {p : List MemPlace} {base : Nat}
    (h : DataW.Trod enc Tryz.prog W 0 (fun _ => true) true 23 v d p) (hv : Value.okWide Tryz.prog W .any base 23 v) : ∃ A n c zs, v = .slice A n c ∧ zs.length = n ∧ KeysIn W A zs := by
  obtain ⟨a0, len0, cap0, rfl⟩ := okWide_slice Tryz.underlying23 hv
  obtain ⟨fuel, hf⟩ := h
  rcases open_strings (x := (d, p)) Tryz.underlying23 Tryz.underlying9 cells9 (by simpa [Value.cells] using hf) with ⟨hcs, hx⟩ | ⟨a, len, cap, ss, hcs, _, hl, hm, hz, hx, hcell, _⟩
  · simp at hcs
    obtain ⟨rfl, rfl, rfl⟩ := hcs
    exact ⟨none, 0, 0, [], rfl, rfl, fun j hj => absurd hj (Nat.not_lt_zero _)⟩
  · simp at hcs
    obtain ⟨rfl, rfl, rfl⟩ := hcs
    simp only [if_true] at hz
    have hlen : (ss.take len0).length = len0 := by simp; omega
    refine ⟨some a, len0, cap0, ss.take len0, rfl, hlen, fun i hi => ?_⟩
    rw [hlen] at hi
    have hc := hcell i (by omega)
    obtain ⟨b, off, spot⟩ := a
    have hspot : spot = none := by simpa [Addr.add] using World.cell?_spot (hcell 0 (by omega))
    subst hspot
    rw [Addr.add_lit] at hc
    refine ⟨b, off, rfl, ?_⟩
    rw [hc]
    have hi2 : i < ss.length := by omega
    simp [List.getD, hi, hi2]
end Go.Proofs.YtebhcadolnjplaaGreat
