/- Proved: the law PastRuns of layer 17 returns true for any rows of names and any names asked, and leaves what was there as it was (no condition). -/
import Derived.Test.YtnjaiiifafbbjaaRi
import Derived.Test.YtnjaiiifafbbjaaPr
namespace Go.Proofs.Ytnjaiiifafbbjaa
open Go.ChangeShapes Go.WideShapes Go.ChangeAt Go.RowKit

theorem readable7 : ∀ t ∈ Try.f7.params.toList, Try.prog.readableRec t = true ∧ t < Try.prog.types.size := by
  rw [Try.params7]
  intro t ht
  have hall : ([88, 89].all fun t => Try.prog.readableRec t && decide (t < Try.prog.types.size)) = true := by kernel_rfl
  simpa using List.all_eq_true.1 hall t (by simpa using ht)
theorem cells89 : Try.prog.cellsOf 89 = 1 := by kernel_rfl
theorem bytes89 : Try.prog.bytesOf 89 = 24 := by kernel_rfl
theorem mem_weightsAll {H : Type} {P : Program} {e : TypeId} {d : DataW H} {x : Nat} (hx : x ∈ DataW.weights P e d) : ∀ (l : List (DataW H)), d ∈ l → x ∈ DataW.weightsAll P e l
  | [], h => by cases h
  | y :: l, h => by
    rw [DataW.weightsAll, List.mem_append]
    rcases List.mem_cons.1 h with rfl | h
    · exact .inl hx
    · exact .inr (mem_weightsAll hx l h)

set_option maxRecDepth 100000 in
/-- One row of names, in a cell. -/
theorem row_in {H : Type} {enc : TypeId × Value → H} {W : World} {v : Value} {x : DataW H × List MemPlace} {fuel : Nat}
    (h : DataW.trod enc Try.prog W 0 (fun _ => true) true fuel 89 [v] = some x) :
    ∃ r : NRow, v = .slice r.A r.xs.length r.c ∧ NamesAt W r.A r.xs ∧ (r.A = none → r.c = 0) ∧ (r.xs ≠ [] → ∀ b off, r.A = some ⟨b, off, none⟩ → b < W.heap.size) ∧
      (r.xs = [] ∨ ∃ y, y ∈ DataW.weights Try.prog 89 x.1 ∧ r.xs.length * 16 ≤ y) := by
  rcases Deep.open_slice_pairs Try.underlying89 Try.underlying115 cells115 rfl rfl cells3 cells3 h with ⟨hcs, _⟩ | ⟨a, len, cap, m, n, V0, V1, D0, D1, P0, P1, hcs, _, hl, _, hm, hx, hcell⟩
  · simp only [List.cons.injEq, and_true] at hcs
    subst hcs
    exact ⟨⟨none, 0, []⟩, rfl, fun j hj => absurd hj (Nat.not_lt_zero _), fun _ => rfl, fun h => absurd rfl h, .inl rfl⟩
  · simp only [List.cons.injEq, and_true] at hcs
    subst hcs
    simp only [if_true] at hm
    subst hm
    have hxl : ((List.range len).map fun i => (⟨intV (V0 i), intV (V1 i)⟩ : Nm)).length = len := by simp
    refine ⟨⟨some a, m, (List.range len).map fun i => ⟨intV (V0 i), intV (V1 i)⟩⟩, by rw [hxl], fun j hj => ?_, fun e => (by cases e), fun hne b off e => ?_, .inr ?_⟩
    · have hj0 : j < len := by simpa using hj
      obtain ⟨b, off, spot⟩ := a
      have hspot : spot = none := by simpa [Addr.add] using World.cell?_spot (hcell 0 (by omega)).1
      obtain ⟨c0, c1, t0, t1⟩ := hcell j (by omega)
      subst hspot
      obtain ⟨s0, e0, _⟩ := DataW.trod_int Try.underlying3 t0
      obtain ⟨s1, e1, _⟩ := DataW.trod_int Try.underlying3 t1
      simp only [List.cons.injEq, and_true] at e0 e1
      rw [add_off, e0] at c0
      rw [add_off, e1] at c1
      have ea : atN ((List.range len).map fun i => (⟨intV (V0 i), intV (V1 i)⟩ : Nm)) j = ⟨s0, s1⟩ := by
        simp [atN, hj0, e0, e1, intV]
      rw [ea]
      exact ⟨b, off, rfl, c0, c1⟩
    · have hlen : 0 < len := by
        rcases Nat.eq_zero_or_pos len with h0 | h0
        · subst h0; exact absurd rfl hne
        · exact h0
      obtain rfl := Option.some.inj e
      exact World.block_lt_of_cell? _ _ (by simpa [Addr.add] using (hcell 0 (by omega)).1)
    · rw [hx, hxl]
      refine ⟨(len + (m - len)) * 16, ?_, by omega⟩
      simp only [DataW.weights, Try.underlying89, List.length_map, List.length_range, bytes115]
      exact List.mem_cons_self ..

set_option maxRecDepth 100000 in
theorem rows_open {H : Type} {enc : TypeId × Value → H} {W : World} {ts : List TypeId} {ds : List (DataW H)} {v : Value} {d : DataW H} {p : List MemPlace} {base : Nat}
    (h : DataW.Trod enc Try.prog W 0 (fun _ => true) true 88 v d p) (hv : Value.okWide Try.prog W .any base 88 v)
    (hsz : (DataW.weightsEach Try.prog ts ds).all (· ≤ reachBytes) = true) (j : Nat) (ht : ts[j]? = some 88) (hd : ds[j]? = some d) :
    ∃ A c xs, v = .slice A xs.length c ∧ RowsAt W.heap.size W A xs ∧ xs.length ≤ 140737488351232 := by
  obtain ⟨a0, len0, cap0, rfl⟩ := okWide_slice Try.underlying88 hv
  obtain ⟨fuel, hf⟩ := h
  rcases Deep.open_slice1 (x := (d, p)) Try.underlying88 cells89 (by simpa [Value.cells] using hf) with ⟨hcs, _⟩ | ⟨a, len, cap, m, n, V, D, Pl, hcs, _, hl, _, hm, hx, hcell⟩
  · simp at hcs
    obtain ⟨rfl, rfl, rfl⟩ := hcs
    exact ⟨none, 0, [], rfl, fun j hj => absurd hj (Nat.not_lt_zero _), by simp⟩
  · simp at hcs
    obtain ⟨rfl, rfl, rfl⟩ := hcs
    simp only [if_true] at hm
    subst hm
    simp only [Prod.mk.injEq] at hx
    have hd' := hd
    rw [hx.1] at hd'
    have hreach : len0 ≤ 140737488351232 := by
      have := sized_slice hsz ht hd' Try.underlying88
      rw [bytes89] at this
      simp only [List.length_map, List.length_range, reachBytes] at this
      omega
    have each : ∀ i, i < m → ∃ r : NRow, W.cell? (a.add i) = some (.slice r.A r.xs.length r.c) ∧ NamesAt W r.A r.xs ∧ (r.A = none → r.c = 0) ∧ (r.xs ≠ [] → ∀ b off, r.A = some ⟨b, off, none⟩ → b < W.heap.size) ∧
        (i < len0 → r.xs.length ≤ 140737488351232) := fun i hi => by
      obtain ⟨hc, ht0⟩ := hcell i hi
      obtain ⟨r, hr0, hr1, hr2, hr3, hr4⟩ := row_in ht0
      refine ⟨r, by rw [hc, hr0], hr1, hr2, hr3, fun hlt => ?_⟩
      rcases hr4 with e | ⟨y, hy, hle⟩
      · rw [e]; simp
      · have hm1 : y ∈ DataW.weightsAll Try.prog 89 ((List.range len0).map D) := mem_weightsAll hy _ (List.mem_map.2 ⟨i, List.mem_range.2 hlt, rfl⟩)
        have hm2 : y ≤ reachBytes := of_decide_eq_true (List.all_eq_true.1 hsz y (DataW.weights_mem_each ht hd' y (by
          simp only [DataW.weights, Try.underlying88]
          exact List.mem_cons_of_mem _ (List.mem_append.2 (.inl hm1)))))
        simp only [reachBytes] at hm2
        omega
    have hsp : 0 < len0 → a.spot = none := fun h0 => by
      obtain ⟨r, h, _⟩ := each 0 (by omega)
      simpa [Addr.add] using World.cell?_spot h
    obtain ⟨f, hf⟩ : ∃ f : Nat → NRow, ∀ i, i < m → W.cell? (a.add i) = some (.slice (f i).A (f i).xs.length (f i).c) ∧ NamesAt W (f i).A (f i).xs ∧ ((f i).A = none → (f i).c = 0) ∧ ((f i).xs ≠ [] → ∀ b off, (f i).A = some ⟨b, off, none⟩ → b < W.heap.size) ∧
        (i < len0 → (f i).xs.length ≤ 140737488351232) :=
      ⟨fun i => if h : i < m then (each i h).choose else nr0, fun i hi => by simp only [dif_pos hi]; exact (each i hi).choose_spec⟩
    refine ⟨some a, m, (List.range len0).map f, by simp, fun j hj => ?_, by simpa using hreach⟩
    have hj0 : j < len0 := by simpa using hj
    obtain ⟨b, off, spot⟩ := a
    obtain rfl : spot = none := hsp (by omega)
    obtain ⟨c0, h1, h2, h3, h4⟩ := hf j (by omega)
    rw [add_off] at c0
    have e : atR ((List.range len0).map f) j = f j := by simp [atR, hj0]
    rw [e]
    exact ⟨⟨b, off, rfl, c0⟩, h1, h2, h3, h4 hj0⟩

set_option maxRecDepth 100000 in
theorem pastRuns_lifted (os : Os) (started : os.Started) (H : Type) (enc : TypeId × Value → H) :
    ReturnsInHanded {} Try.checked os 7 .any (Rows.pastRunsSpec.pre6 enc Try.prog Try.f7 Rows.pastRunsRow.domain false) (Rows.pastRunsSpec.post enc Try.prog Try.f7 false true false false) := by
  refine returnsInHanded_of_change_sized (C := Try.checked) own started (by kernel_rfl) Try.func7
    (ChangeSpec.witness6 (enc := enc) (C := Try.checked) false ⟨#[], #[.slice none 0 0, .slice none 0 0], []⟩ 8 (by kernel_rfl) (by kernel_rfl) (by kernel_rfl) (by kernel_rfl)) ?_
  intro W base args ds gs before hval0 hW _ hsz0 _
  have hsz : (DataW.weightsEach Try.prog (Try.f7.params.toList ++ Rows.pastRunsSpec.plain.varTypes Try.prog) (ds ++ gs)).all (· ≤ reachBytes) = true := hsz0
  clear hsz0
  have hval : ∀ (j : Nat) t v, Try.f7.params[j]? = some t → args[j]? = some v → Value.okWide Try.prog W .any base t v := hval0
  have hW' := hW
  obtain ⟨p, q, hA0, hV, rfl, hfz, hnd⟩ := hW
  have hA : DataW.TrodAll enc Try.prog W 0 (fun _ => true) true Try.f7.params.toList args.toList ds p := hA0
  have hlt : ∀ x ∈ p, x.block < W.heap.size := fun x hx => by simpa using hW'.lt x (by simp [hx])
  have hAs := fun (W' : World) (hb : Below W.heap.size W W') => trodAll_below laidOut hb _ _ _ _ readable7 hlt hA
  rw [Try.params7] at hA hval hsz
  obtain ⟨v0, v1, d0, d1, p0, p1, rfl, rfl, rfl, h0, h1⟩ := trodAll_two hA
  obtain ⟨rfl, rfl⟩ := trodVars_none hV
  obtain ⟨A, ca, xs, rfl, hIA, hla⟩ := rows_open h0 (hval 0 88 v0 rfl rfl) hsz 0 rfl rfl
  obtain ⟨B, cb, ys, rfl, hcb, hIB, hB0', hBb, hlb⟩ := names_open h1 (hval 1 89 v1 rfl rfl) hsz 1 rfl rfl
  clear hA0 hval0
  refine (pastRuns_w A B xs.length ca ys.length cb xs ys W rfl rfl hIA hIB hBb hB0' hla hlb).mono fun e W' ⟨he, hbe⟩ => ?_
  subst he
  exact ⟨_, rfl, _, _, _, [], _, [], hW', trodAll_mk1 (shut_bool Try.underlying4 _), hAs W' hbe, rfl, hbe.frame _, fun h => by cases h⟩

theorem pastRuns_proved : Rows.PastRunsSaid :=
  OpenClaim.holds_of_wide 7 Try.f7 rfl rfl rfl rfl rfl rfl rfl ⟨rfl, rfl, rfl, rfl, rfl⟩ rfl rfl rfl rfl rfl (by kernel_rfl) Try.func7 (by kernel_rfl)
    (of_decide_eq_true (by kernel_rfl)) (by unfold Func.isWrapper; first | (rw [if_pos (by decide +kernel)]; kernel_rfl) | (rw [if_neg (by decide +kernel)]; exact ⟨rfl, rfl⟩))
    (fun os started H enc _ => pastRuns_lifted os started H enc)
end Go.Proofs.Ytnjaiiifafbbjaa
