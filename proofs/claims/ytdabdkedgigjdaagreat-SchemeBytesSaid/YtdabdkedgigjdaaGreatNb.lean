/- Proved: the law SchemeBytes of layer 20 returns true for any handoff and any bytes, and leaves what was there as it was (no condition). -/
import Derived.Test.YtdabdkedgigjdaaGreatNa
import Derived.Test.YtdabdkedgigjdaaGreatLk
import Derived.Test.YtdabdkedgigjdaaGreatYp
namespace Go.Proofs.YtdabdkedgigjdaaGreat
open Go.ChangeShapes Go.WideShapes Go.ChangeAt Go.RowKit

set_option maxRecDepth 100000 in
theorem handoff_open2 {H : Type} {enc : TypeId × Value → H} {W : World} {v : Value} {d : DataW H} {p : List MemPlace} {base : Nat}
    (h : DataW.Trod enc Tryz.prog W 0 (fun _ => true) true 52 v d p) (hv : Value.okWide Tryz.prog W .any base 52 v) : ∃ x : Sc, v = scV x ∧ (0 ≤ x.st ∧ x.st ≤ 255) ∧ x.sp.lo.size ∈ d.weights Tryz.prog 52 ∧ x.sp.hi.size ∈ d.weights Tryz.prog 52 := by
  obtain ⟨⟨cs⟩, rfl, hc⟩ := okWide_struct Tryz.underlying52 hv
  obtain ⟨fuel, hf⟩ := h
  obtain ⟨xs, k, _, hdd, hl, hxl, hg⟩ := DataW.trod_struct Tryz.underlying52 hf
  have hl8 : cs.length = 8 := hc.trans cells32
  obtain ⟨v0, v1, v2, v3, v4, v5, v6, v7, rfl⟩ := list8 hl8
  have hx : xs.length = 7 := hxl
  match xs, hx with
  | [y0, y1, y2, y3, y4, y5, y6], _ =>
    have g0 := hg 0 _ rfl
    have g1 := hg 1 _ rfl
    have g2 := hg 2 _ rfl
    have g3 := hg 3 _ rfl
    have g4 := hg 4 _ rfl
    have g5 := hg 5 _ rfl
    have g6 := hg 6 _ rfl
    simp [Value.cells, cells3, cells23, cells30u] at g0 g1 g2 g3 g4 g5 g6
    obtain ⟨z0, e0, _⟩ := DataW.trod_int Tryz.underlying3 g0
    obtain ⟨z2, e2, _⟩ := DataW.trod_int Tryz.underlying3 g2
    obtain ⟨z3, e3, _⟩ := DataW.trod_int Tryz.underlying3 g3
    obtain ⟨z4, e4, _⟩ := DataW.trod_int Tryz.underlying3 g4
    obtain ⟨z5, e5, _⟩ := DataW.trod_int Tryz.underlying3 g5
    obtain ⟨z6, e6, _, w6⟩ := DataW.trod_int Tryz.underlying50 g6
    obtain ⟨ys, k2, _, hy1, _, hyl, hq⟩ := DataW.trod_struct Tryz.underlying26 g1
    have hy : ys.length = 2 := hyl
    match ys, hy with
    | [u0, u1], _ =>
      have q0 := hq 0 _ rfl
      have q1 := hq 1 _ rfl
      simp [cells9] at q0 q1
      obtain ⟨s0, d0, hs0, l0⟩ := DataW.trod_string Tryz.underlying9 q0
      obtain ⟨s1, d1, hs1, l1⟩ := DataW.trod_string Tryz.underlying9 q1
      simp only [List.cons.injEq, and_true] at d0 d1 e0 e2 e3 e4 e5 e6
      refine ⟨⟨z0, ⟨s0, s1⟩, z2, z3, z4, z5, z6⟩, by rw [d0, d1, e0, e2, e3, e4, e5, e6]; rfl, wf_u8 w6, ?_, ?_⟩
      all_goals
        simp only [Prod.mk.injEq] at hdd
        obtain ⟨rfl, -⟩ := hdd
        subst hy1 hs0 hs1
        rw [DataW.weights, Tryz.underlying52]
        refine DataW.weights_mem_each (j := 1) (t := 26) rfl rfl _ ?_
        rw [DataW.weights, Tryz.underlying26]
      · exact DataW.weights_mem_each (j := 0) (t := 9) rfl rfl _ (by rw [DataW.weights, List.mem_singleton, Array.length_toList]; rfl)
      · exact DataW.weights_mem_each (j := 1) (t := 9) rfl rfl _ (by rw [DataW.weights, List.mem_singleton, Array.length_toList]; rfl)
theorem reach_of {ts : List TypeId} {H : Type} {ds : List (DataW H)} (hsz : (DataW.weightsEach Tryz.prog ts ds).all (· ≤ reachBytes) = true) {j : Nat} {t : TypeId} {d : DataW H} (ht : ts[j]? = some t) (hd : ds[j]? = some d) {n : Nat} (hn : n ∈ d.weights Tryz.prog t) : n ≤ 140737488355328 := by
  have h1 := List.all_eq_true.1 hsz _ (DataW.weights_mem_each ht hd n hn)
  have h2 : n ≤ reachBytes := by simpa using h1
  exact Nat.le_trans h2 (by decide)

theorem readable6 : ∀ t ∈ Tryz.f6.params.toList, Tryz.prog.readableRec t = true ∧ t < Tryz.prog.types.size := by
  rw [Tryz.params6]
  intro t ht
  have hall : ([52, 49].all fun t => Tryz.prog.readableRec t && decide (t < Tryz.prog.types.size)) = true := by kernel_rfl
  simpa using List.all_eq_true.1 hall t (by simpa using ht)

set_option maxRecDepth 100000 in
theorem schemeBytes_lifted (os : Os) (started : os.Started) (H : Type) (enc : TypeId × Value → H) :
    ReturnsInHanded {} Tryz.checked os 6 .any (Rows.schemeBytesSpec.pre6 enc Tryz.prog Tryz.f6 Rows.schemeBytesRow.domain false) (Rows.schemeBytesSpec.post enc Tryz.prog Tryz.f6 false true false false) := by
  refine returnsInHanded_of_change_sized (C := Tryz.checked) own started (by kernel_rfl) Tryz.func6
    (ChangeSpec.witness6 (enc := enc) (C := Tryz.checked) false ⟨#[], #[.agg #[.int .i64 0, .string ⟨#[]⟩, .string ⟨#[]⟩, .int .i64 0, .int .i64 0, .int .i64 0, .int .i64 0, .int .u8 0], .slice none 0 0], []⟩ 8 (by kernel_rfl) (by kernel_rfl) (by kernel_rfl) (by kernel_rfl)) ?_
  intro W base args ds gs before hval0 hW _ hsz0 _
  have hval : ∀ (j : Nat) t v, Tryz.f6.params[j]? = some t → args[j]? = some v → Value.okWide Tryz.prog W .any base t v := hval0
  have hW' := hW
  obtain ⟨p, q, hA0, hV, rfl, hfz, hnd⟩ := hW
  have hA : DataW.TrodAll enc Tryz.prog W 0 (fun _ => true) true Tryz.f6.params.toList args.toList ds p := hA0
  have hlt : ∀ x ∈ p, x.block < W.heap.size := fun x hx => by simpa using hW'.lt x (by simp [hx])
  have hAs := fun (W' : World) (hb : Below W.heap.size W W') => trodAll_below laidOut hb _ _ _ _ readable6 hlt hA
  rw [Tryz.params6] at hA hval
  obtain ⟨args⟩ := args
  obtain ⟨v0, t0, d0, ds0, p0, q0, e0, rfl, rfl, h0, hA⟩ := trodAll_cons hA
  obtain ⟨v1, t1, d1, ds1, p1, q1, e1, rfl, rfl, h1, hA⟩ := trodAll_cons hA
  obtain ⟨rfl, rfl, rfl⟩ := trodAll_nil hA
  subst e1
  simp only at e0
  subst e0
  obtain ⟨rfl, rfl⟩ := trodVars_none hV
  obtain ⟨x, rfl, hst, hlo, hhi⟩ := handoff_open2 h0 (hval 0 52 v0 rfl rfl)
  have hl := reach_of hsz0 (j := 0) rfl rfl hlo
  have hh := reach_of hsz0 (j := 0) rfl rfl hhi
  obtain ⟨xs, hxs⟩ := bytes_open h1 (hval 1 49 v1 rfl rfl) hsz0 1 rfl rfl
  clear hA0 hval0 hsz0 hlo hhi
  refine (scBytes_w x v1 xs W hl hh hst hxs).mono fun e W' ⟨he, hbe⟩ => ?_
  subst he
  exact ⟨_, rfl, _, _, _, [], _, [], hW', trodAll_mk1 (shut_bool Tryz.underlying4 _), hAs W' hbe, rfl, hbe.frame _, fun h => by cases h⟩

theorem schemeBytes_proved : Rows.SchemeBytesSaid :=
  OpenClaim.holds_of_wide 6 Tryz.f6 rfl rfl rfl rfl rfl rfl rfl ⟨rfl, rfl, rfl, rfl, rfl⟩ rfl rfl rfl rfl rfl (by kernel_rfl) Tryz.func6 (by kernel_rfl)
    (of_decide_eq_true (by kernel_rfl)) (by unfold Func.isWrapper; first | (rw [if_pos (by decide +kernel)]; kernel_rfl) | (rw [if_neg (by decide +kernel)]; exact ⟨rfl, rfl⟩))
    (fun os started H enc _ => schemeBytes_lifted os started H enc)
end Go.Proofs.YtdabdkedgigjdaaGreat
