/- Proved: the law RowsRuns of layer 15 returns true for any deeds, any fork and any keys, and leaves what was there as it was (no condition). -/
import Derived.Test.YtebhcadolnjplaaGreatVk
namespace Go.Proofs.YtebhcadolnjplaaGreat
open Go.ChangeShapes Go.WideShapes Go.ChangeAt Go.RowKit
theorem readable3 : ∀ t ∈ Tryz.f3.params.toList, Tryz.prog.readableRec t = true ∧ t < Tryz.prog.types.size := by
  rw [Tryz.params3]
  intro t ht
  have hall : ([22, 3, 22, 23].all fun t => Tryz.prog.readableRec t && decide (t < Tryz.prog.types.size)) = true := by kernel_rfl
  simpa using List.all_eq_true.1 hall t (by simpa using ht)
set_option maxRecDepth 100000 in
theorem rowsRuns_lifted (os : Os) (started : os.Started) (H : Type) (enc : TypeId × Value → H) :
    ReturnsInHanded {} Tryz.checked os 3 .any (Rows.rowsRunsSpec.pre6 enc Tryz.prog Tryz.f3 Rows.rowsRunsRow.domain false) (Rows.rowsRunsSpec.post enc Tryz.prog Tryz.f3 false true false false) := by
  refine returnsInHanded_of_change_sized (C := Tryz.checked) own started (by kernel_rfl) Tryz.func3
    (ChangeSpec.witness6 (enc := enc) (C := Tryz.checked) false ⟨#[], #[.slice none 0 0, .int .i64 0, .slice none 0 0, .slice none 0 0], []⟩ 8 (by kernel_rfl) (by kernel_rfl) (by kernel_rfl) (by kernel_rfl)) ?_
  intro W base args ds gs before hval0 hW _ hsz0 _
  have hsz : (DataW.weightsEach Tryz.prog (Tryz.f3.params.toList ++ Rows.rowsRunsSpec.plain.varTypes Tryz.prog) (ds ++ gs)).all (· ≤ reachBytes) = true := hsz0
  clear hsz0
  have hval : ∀ (j : Nat) t v, Tryz.f3.params[j]? = some t → args[j]? = some v → Value.okWide Tryz.prog W .any base t v := hval0
  have hW' := hW
  obtain ⟨p, q, hA0, hV, rfl, hfz, hnd⟩ := hW
  have hA : DataW.TrodAll enc Tryz.prog W 0 (fun _ => true) true Tryz.f3.params.toList args.toList ds p := hA0
  have hlt : ∀ x ∈ p, x.block < W.heap.size := fun x hx => by simpa using hW'.lt x (by simp [hx])
  have hAs := fun (W' : World) (hb : Below W.heap.size W W') => trodAll_below laidOut hb _ _ _ _ readable3 hlt hA
  rw [Tryz.params3] at hA hval hsz
  obtain ⟨v0, v1, v2, v3, d0, d1, d2, d3, p0, p1, p2, p3, rfl, rfl, rfl, h0, h1, h2, h3⟩ := trodAll_four hA
  obtain ⟨rfl, rfl⟩ := trodVars_none hV
  obtain ⟨A, n, c, l, rfl, hl, hn6, hin, hnil⟩ := deeds_open h0 (hval 0 22 v0 rfl rfl) hsz 0 rfl rfl
  obtain ⟨fk, rfl⟩ := okWide_int Tryz.underlying3 (hval 1 3 v1 rfl rfl)
  obtain ⟨A2, n2, c2, l2, rfl, hl2, hn26, hin2, hnil2⟩ := deeds_open h2 (hval 2 22 v2 rfl rfl) hsz 2 rfl rfl
  obtain ⟨A3, n3, c3, zs, rfl, hz, hkeys⟩ := texts_open h3 (hval 3 23 v3 rfl rfl)
  clear hA0 hval0
  refine (runs_law A n c l hl hn6 fk A2 n2 c2 l2 hl2 hn26 A3 n3 c3 zs hz W hin hin2 hnil hnil2 hkeys).mono fun e W' ⟨he, hbe⟩ => ?_
  subst he
  exact ⟨_, rfl, _, _, _, [], _, [], hW', trodAll_mk1 (shut_bool Tryz.underlying4 _), hAs W' hbe, rfl, hbe.frame _, fun h => by cases h⟩
theorem rowsRuns_proved : Rows.RowsRunsSaid :=
  OpenClaim.holds_of_wide 3 Tryz.f3 rfl rfl rfl rfl rfl rfl rfl ⟨rfl, rfl, rfl, rfl, rfl⟩ rfl rfl rfl rfl rfl (by kernel_rfl) Tryz.func3 (by kernel_rfl)
    (of_decide_eq_true (by kernel_rfl)) (by unfold Func.isWrapper; first | (rw [if_pos (by decide +kernel)]; kernel_rfl) | (rw [if_neg (by decide +kernel)]; exact ⟨rfl, rfl⟩))
    (fun os started H enc _ => rowsRuns_lifted os started H enc)
end Go.Proofs.YtebhcadolnjplaaGreat
