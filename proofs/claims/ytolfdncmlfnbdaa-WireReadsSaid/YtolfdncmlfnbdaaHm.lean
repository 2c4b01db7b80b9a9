/- Proved: the law WireReads of layer 2 returns true for any bytes and any calls, and leaves what was there as it was (no condition). -/
import Derived.Test.YtolfdncmlfnbdaaHl
import Derived.Test.YtolfdncmlfnbdaaK
import Derived.Deep.SlicePairs
namespace Go.Proofs.Ytolfdncmlfnbdaa
open Go.ChangeShapes Go.WideShapes Go.ChangeAt Go.RowKit
theorem cells52 : Try.prog.cellsOf 52 = 2 := by kernel_rfl
theorem cells3c : Try.prog.cellsOf 3 = 1 := by kernel_rfl
theorem bytes52 : Try.prog.bytesOf 52 = 16 := by kernel_rfl
theorem add_off (b o i : Nat) : (⟨b, o, none⟩ : Addr).add i = ⟨b, o + i, none⟩ := by unfold Addr.add; split <;> simp_all
set_option maxRecDepth 100000 in
theorem slice_below {W : World} {base : Nat} {t e : TypeId} {a : Addr} {n c : Nat} (ht : Try.prog.underlying t = some (.slice e)) (h : Value.okWide Try.prog W .any base t (.slice (some a) n c)) : a.block < W.heap.size := by
  simp only [Value.okWide, ht, Cell.okWide, Cell.ok] at h
  obtain ⟨_, _, _, _, row, cells, hs, _⟩ := h
  unfold World.shape? at hs
  cases hh : W.heap[a.block]? with
  | none => simp [hh] at hs
  | some o => exact (Array.getElem?_eq_some_iff.1 hh).1
def intV : Value → Int
  | .int _ n => n
  | _ => 0
set_option maxRecDepth 100000 in
theorem calls_open {H : Type} {enc : TypeId × Value → H} {W : World} {ts : List TypeId} {ds : List (DataW H)} {v : Value} {d : DataW H} {p : List MemPlace} {base : Nat}
    (h : DataW.Trod enc Try.prog W 0 (fun _ => true) true 43 v d p) (hv : Value.okWide Try.prog W .any base 43 v)
    (hsz : (DataW.weightsEach Try.prog ts ds).all (· ≤ reachBytes) = true) (j : Nat) (ht : ts[j]? = some 43) (hd : ds[j]? = some d) :
    ∃ A c xs, v = .slice A xs.length c ∧ xs.length ≤ c ∧ CallsAt W A xs ∧ (A = none → c = 0) ∧ (∀ b off, A = some ⟨b, off, none⟩ → b < W.heap.size) ∧ xs.length ≤ 140737488351232 := by
  obtain ⟨a0, len0, cap0, rfl⟩ := okWide_slice Try.underlying43 hv
  obtain ⟨fuel, hf⟩ := h
  rcases Deep.open_slice_pairs (x := (d, p)) Try.underlying43 Try.underlying52 cells52 rfl rfl cells3c cells3c (by simpa [Value.cells] using hf) with ⟨hcs, _⟩ | ⟨a, len, cap, m, n, V0, V1, D0, D1, P0, P1, hcs, _, hl, _, hm, hx, hcell⟩
  · simp at hcs
    obtain ⟨rfl, rfl, rfl⟩ := hcs
    exact ⟨none, 0, [], rfl, Nat.le_refl _, fun j hj => absurd hj (Nat.not_lt_zero _), fun _ => rfl, fun _ _ e => (by cases e), by simp⟩
  · simp at hcs
    obtain ⟨rfl, rfl, rfl⟩ := hcs
    simp only [if_true] at hm
    subst hm
    have hxl : ((List.range len0).map fun i => (⟨intV (V0 i), intV (V1 i)⟩ : Cl)).length = len0 := by simp
    have hreach : len0 ≤ 140737488351232 := by
      simp only [Prod.mk.injEq] at hx
      have hs := hsz
      have hd' := hd
      rw [hx.1] at hd'
      have := sized_slice hs ht hd' Try.underlying43
      rw [bytes52] at this
      simp only [List.length_map, List.length_range, reachBytes] at this
      omega
    refine ⟨some a, _, (List.range len0).map fun i => ⟨intV (V0 i), intV (V1 i)⟩, by rw [hxl], by rw [hxl]; exact hl, fun j hj => ?_, fun e => (by cases e), fun b off e => ?_, by rw [hxl]; exact hreach⟩
    · have hj0 : j < len0 := by simpa using hj
      obtain ⟨b, off, spot⟩ := a
      have hspot : spot = none := by simpa [Addr.add] using World.cell?_spot (hcell 0 (by omega)).1
      obtain ⟨c0, c1, t0, t1⟩ := hcell j (by omega)
      subst hspot
      obtain ⟨s0, e0, _⟩ := DataW.trod_int Try.underlying3 t0
      obtain ⟨s1, e1, _⟩ := DataW.trod_int Try.underlying3 t1
      simp only [List.cons.injEq, and_true] at e0 e1
      rw [add_off, e0] at c0
      rw [add_off, e1] at c1
      have ea : ((List.range len0).map fun i => (⟨intV (V0 i), intV (V1 i)⟩ : Cl)).getD j ⟨0, 0⟩ = ⟨s0, s1⟩ := by
        simp [hj0, e0, e1, intV]
      rw [ea]
      exact ⟨b, off, rfl, c0, c1⟩
    · have := slice_below Try.underlying43 hv
      obtain rfl := Option.some.inj e
      exact this
theorem readable4 : ∀ t ∈ Try.f4.params.toList, Try.prog.readableRec t = true ∧ t < Try.prog.types.size := by
  rw [Try.params4]
  intro t ht
  have hall : ([26, 43].all fun t => Try.prog.readableRec t && decide (t < Try.prog.types.size)) = true := by kernel_rfl
  simpa using List.all_eq_true.1 hall t (by simpa using ht)
set_option maxRecDepth 100000 in
theorem wireReads_lifted (os : Os) (started : os.Started) (H : Type) (enc : TypeId × Value → H) :
    ReturnsInHanded {} Try.checked os 4 .any (Rows.wireReadsSpec.pre6 enc Try.prog Try.f4 Rows.wireReadsRow.domain false) (Rows.wireReadsSpec.post enc Try.prog Try.f4 false true false false) := by
  refine returnsInHanded_of_change_sized (C := Try.checked) own started (by kernel_rfl) Try.func4
    (ChangeSpec.witness6 (enc := enc) (C := Try.checked) false ⟨#[], #[.slice none 0 0, .slice none 0 0], []⟩ 8 (by kernel_rfl) (by kernel_rfl) (by kernel_rfl) (by kernel_rfl)) ?_
  intro W base args ds gs before hval0 hW _ hsz0 _
  have hsz : (DataW.weightsEach Try.prog (Try.f4.params.toList ++ Rows.wireReadsSpec.plain.varTypes Try.prog) (ds ++ gs)).all (· ≤ reachBytes) = true := hsz0
  clear hsz0
  have hval : ∀ (j : Nat) t v, Try.f4.params[j]? = some t → args[j]? = some v → Value.okWide Try.prog W .any base t v := hval0
  have hW' := hW
  obtain ⟨p, q, hA0, hV, rfl, hfz, hnd⟩ := hW
  have hA : DataW.TrodAll enc Try.prog W 0 (fun _ => true) true Try.f4.params.toList args.toList ds p := hA0
  have hlt : ∀ x ∈ p, x.block < W.heap.size := fun x hx => by simpa using hW'.lt x (by simp [hx])
  have hAs := fun (W' : World) (hb : Below W.heap.size W W') => trodAll_below laidOut hb _ _ _ _ readable4 hlt hA
  rw [Try.params4] at hA hval hsz
  obtain ⟨v0, v1, d0, d1, p0, p1, rfl, rfl, rfl, h0, h1⟩ := trodAll_two hA
  obtain ⟨rfl, rfl⟩ := trodVars_none hV
  obtain ⟨xs, hx⟩ := bytes_open h0 (hval 0 26 v0 rfl rfl) hsz 0 rfl rfl
  obtain ⟨A, c, l, rfl, -, hl, -, -, hlm⟩ := calls_open h1 (hval 1 43 v1 rfl rfl) hsz 1 rfl rfl
  clear hA0 hval0
  refine (wireReads_w W xs v0 l A l.length c hx hl rfl hlm).mono fun e W' ⟨he, hbe⟩ => ?_
  subst he
  exact ⟨_, rfl, _, _, _, [], _, [], hW', trodAll_mk1 (shut_bool Try.underlying4 _), hAs W' hbe, rfl, hbe.frame _, fun h => by cases h⟩
theorem wireReads_proved : Rows.WireReadsSaid :=
  OpenClaim.holds_of_wide 4 Try.f4 rfl rfl rfl rfl rfl rfl rfl ⟨rfl, rfl, rfl, rfl, rfl⟩ rfl rfl rfl rfl rfl (by kernel_rfl) Try.func4 (by kernel_rfl)
    (of_decide_eq_true (by kernel_rfl)) (by unfold Func.isWrapper; first | (rw [if_pos (by decide +kernel)]; kernel_rfl) | (rw [if_neg (by decide +kernel)]; exact ⟨rfl, rfl⟩))
    (fun os started H enc _ => wireReads_lifted os started H enc)
end Go.Proofs.Ytolfdncmlfnbdaa
