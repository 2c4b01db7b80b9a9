/- Proved: the law SharesRuns of layer 5 returns true for any group and any row of turns, and leaves what was there as it was (no condition). -/
import Derived.Test.YtneipmgkphdfkaaSz
import Derived.Test.YtneipmgkphdfkaaSp
namespace Go.Proofs.Ytneipmgkphdfkaa
open Go.ChangeShapes Go.WideShapes Go.ChangeAt Go.RowKit

theorem cells51 : Try.prog.cellsOf 51 = 3 := by kernel_rfl
theorem list3 {α : Type} {l : List α} (h : l.length = 3) : ∃ a b c, l = [a, b, c] := by
  match l, h with
  | [a, b, c], _ => exact ⟨a, b, c, rfl⟩
set_option maxRecDepth 100000 in
/-- One turn, out of its three cells. -/
theorem step_open {H : Type} {enc : TypeId × Value → H} {W : World} {fuel : Nat} {cs : List Value} {x : DataW H × List MemPlace}
    (h : DataW.trod enc Try.prog W 0 (fun _ => true) true fuel 51 cs = some x) : ∃ y : Step1, cs = [.string y.sp.lo, .string y.sp.hi, .int .i64 y.g] := by
  obtain ⟨xs, k, _, _, hl, hxl, hf⟩ := DataW.trod_struct Try.underlying51 h
  rw [cells51] at hl
  obtain ⟨v0, v1, v2, rfl⟩ := list3 hl
  have hx : xs.length = 2 := hxl
  match xs, hx with
  | [y0, y1], _ =>
    have g0 := hf 0 _ rfl
    have g1 := hf 1 _ rfl
    simp [cells23] at g0
    simp [cells3] at g1
    obtain ⟨z2, e2, _⟩ := DataW.trod_int Try.underlying3 g1
    obtain ⟨ys, k2, _, _, _, hyl, hg⟩ := DataW.trod_struct Try.underlying23 g0
    have hy : ys.length = 2 := hyl
    match ys, hy with
    | [u0, u1], _ =>
      have q0 := hg 0 _ rfl
      have q1 := hg 1 _ rfl
      simp [cells9] at q0 q1
      obtain ⟨s0, d0, _⟩ := DataW.trod_string Try.underlying9 q0
      obtain ⟨s1, d1, _⟩ := DataW.trod_string Try.underlying9 q1
      simp only [List.cons.injEq, and_true] at d0 d1 e2
      exact ⟨⟨⟨s0, s1⟩, z2⟩, by rw [d0, d1, e2]⟩
set_option maxRecDepth 100000 in
theorem steps_open {H : Type} {enc : TypeId × Value → H} {W : World} {v : Value} {d : DataW H} {p : List MemPlace} {base : Nat}
    (h : DataW.Trod enc Try.prog W 0 (fun _ => true) true 45 v d p) (hv : Value.okWide Try.prog W .any base 45 v) : ∃ A c xs, v = .slice A xs.length c ∧ StepsAt W A xs := by
  obtain ⟨a0, len0, cap0, rfl⟩ := okWide_slice Try.underlying45 hv
  obtain ⟨fuel, hf⟩ := h
  rcases Deep.open_slice Try.underlying45 hf with ⟨hcs, _⟩ | ⟨a, len, cap, m, q, D, Pl, hcs, _, hl, _, hm, _, hel⟩
  · simp [Value.cells] at hcs
    obtain ⟨rfl, rfl, rfl⟩ := hcs
    exact ⟨none, 0, [], rfl, fun j hj => absurd hj (Nat.not_lt_zero _)⟩
  · simp [Value.cells] at hcs
    obtain ⟨rfl, rfl, rfl⟩ := hcs
    simp only [if_true] at hm
    subst hm
    rw [cells51] at hel
    have each : ∀ i, i < m → ∃ y : Step1, ∀ j u, [Value.string y.sp.lo, .string y.sp.hi, .int .i64 y.g][j]? = some u → W.cell? ((a.add (i * 3)).add j) = some u := fun i hi => by
      obtain ⟨cs', hc, ht⟩ := hel i hi
      obtain ⟨y, rfl⟩ := step_open ht
      obtain ⟨_, _, hcell⟩ := World.cells?_some hc
      refine ⟨y, fun j u hu => ?_⟩
      have hj := (List.getElem?_eq_some_iff.1 hu).1
      rw [hcell j (by simpa using hj)]
      exact hu
    have hsp : 0 < len0 → a.spot = none := fun h0 => by
      obtain ⟨y, hy⟩ := each 0 (by omega)
      have := hy 0 _ rfl
      simpa [Addr.add] using World.cell?_spot this
    obtain ⟨f, hf⟩ : ∃ f : Nat → Step1, ∀ i, i < m → ∀ j u, [Value.string (f i).sp.lo, .string (f i).sp.hi, .int .i64 (f i).g][j]? = some u → W.cell? ((a.add (i * 3)).add j) = some u :=
      ⟨fun i => if h : i < m then (each i h).choose else ⟨allS, 0⟩, fun i hi => by simp only [dif_pos hi]; exact (each i hi).choose_spec⟩
    refine ⟨some a, m, (List.range len0).map f, by simp, fun j hj => ?_⟩
    have hj0 : j < len0 := by simpa using hj
    obtain ⟨b, off, spot⟩ := a
    obtain rfl : spot = none := hsp (by omega)
    have hq := hf j (by omega)
    rw [add_off] at hq
    have e : atS ((List.range len0).map f) j = f j := by simp [atS, hj0]
    rw [e]
    have c0 := hq 0 _ rfl
    have c1 := hq 1 _ rfl
    have c2 := hq 2 _ rfl
    rw [add_off] at c0 c1 c2
    exact ⟨b, off, rfl, c0, c1, c2⟩

theorem readable8 : ∀ t ∈ Try.f8.params.toList, Try.prog.readableRec t = true ∧ t < Try.prog.types.size := by
  rw [Try.params8]
  intro t ht
  have hall : ([3, 45].all fun t => Try.prog.readableRec t && decide (t < Try.prog.types.size)) = true := by kernel_rfl
  simpa using List.all_eq_true.1 hall t (by simpa using ht)

set_option maxRecDepth 100000 in
theorem sharesRuns_lifted (os : Os) (started : os.Started) (H : Type) (enc : TypeId × Value → H) :
    ReturnsInHanded {} Try.checked os 8 .any (Rows.sharesRunsSpec.pre6 enc Try.prog Try.f8 Rows.sharesRunsRow.domain false) (Rows.sharesRunsSpec.post enc Try.prog Try.f8 false true false false) := by
  refine returnsInHanded_of_change (C := Try.checked) own started (by kernel_rfl) Try.func8
    (ChangeSpec.witness6 (enc := enc) (C := Try.checked) false ⟨#[], #[.int .i64 0, .slice none 0 0], []⟩ 8 (by kernel_rfl) (by kernel_rfl) (by kernel_rfl) (by kernel_rfl)) ?_
  intro W base args ds gs before hval0 hW _ _
  have hval : ∀ (j : Nat) t v, Try.f8.params[j]? = some t → args[j]? = some v → Value.okWide Try.prog W .any base t v := hval0
  have hW' := hW
  obtain ⟨p, q, hA0, hV, rfl, hfz, hnd⟩ := hW
  have hA : DataW.TrodAll enc Try.prog W 0 (fun _ => true) true Try.f8.params.toList args.toList ds p := hA0
  have hlt : ∀ x ∈ p, x.block < W.heap.size := fun x hx => by simpa using hW'.lt x (by simp [hx])
  have hAs := fun (W' : World) (hb : Below W.heap.size W W') => trodAll_below laidOut hb _ _ _ _ readable8 hlt hA
  rw [Try.params8] at hA hval
  obtain ⟨v0, v1, d0, d1, p0, p1, rfl, rfl, rfl, h0, h1⟩ := trodAll_two hA
  obtain ⟨rfl, rfl⟩ := trodVars_none hV
  obtain ⟨g, rfl⟩ := okWide_int Try.underlying3 (hval 0 3 v0 rfl rfl)
  obtain ⟨A, c, xs, rfl, hxs⟩ := steps_open h1 (hval 1 45 v1 rfl rfl)
  clear hA0 hval0
  refine (sharesRuns_w g A xs.length c xs rfl W hxs).mono fun e W' ⟨he, hbe⟩ => ?_
  subst he
  exact ⟨_, rfl, _, _, _, [], _, [], hW', trodAll_mk1 (shut_bool Try.underlying4 _), hAs W' hbe, rfl, hbe.frame _, fun h => by cases h⟩

theorem sharesRuns_proved : Rows.SharesRunsSaid :=
  OpenClaim.holds_of_wide 8 Try.f8 rfl rfl rfl rfl rfl rfl rfl ⟨rfl, rfl, rfl, rfl, rfl⟩ rfl rfl rfl rfl rfl (by kernel_rfl) Try.func8 (by kernel_rfl)
    (of_decide_eq_true (by kernel_rfl)) (by unfold Func.isWrapper; first | (rw [if_pos (by decide +kernel)]; kernel_rfl) | (rw [if_neg (by decide +kernel)]; exact ⟨rfl, rfl⟩))
    (fun os started H enc _ => sharesRuns_lifted os started H enc)
end Go.Proofs.Ytneipmgkphdfkaa
