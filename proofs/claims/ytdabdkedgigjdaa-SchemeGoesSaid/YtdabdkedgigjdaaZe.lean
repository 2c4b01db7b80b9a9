/- Proved: the law SchemeGoes of layer 20 returns true for any shares, number, span, group, stages and key, and leaves what was there as it was (no condition). -/
import Derived.Test.YtdabdkedgigjdaaZd
import Derived.Test.YtdabdkedgigjdaaYp
namespace Go.Proofs.Ytdabdkedgigjdaa
open Go.ChangeShapes Go.WideShapes Go.ChangeAt Go.RowKit

set_option maxRecDepth 100000 in
/-- Stages that came in. -/
theorem stages_open {H : Type} {enc : TypeId × Value → H} {W : World} {v : Value} {d : DataW H} {p : List MemPlace} {base : Nat}
    (h : DataW.Trod enc Try.prog W 0 (fun _ => true) true 27 v d p) (hv : Value.okWide Try.prog W .any base 27 v) : ∃ A m c ss, v = .slice A m c ∧ ss.length = m ∧ StN W v ss := by
  obtain ⟨a0, len0, cap0, rfl⟩ := okWide_slice Try.underlying27 hv
  obtain ⟨fuel, hf⟩ := h
  have hf' : DataW.trod enc Try.prog W 0 (fun _ => true) true fuel 27 [.slice a0 len0 cap0] = some (d, p) := by simpa [Value.cells] using hf
  rcases Deep.open_slice1 Try.underlying27 cells30u hf' with ⟨hcs, _⟩ | ⟨a, len, cap, m, q, V, D, Pl, hcs, _, hl, _, hm, _, hel⟩
  · simp only [List.cons.injEq, and_true] at hcs
    rw [hcs]
    exact ⟨none, 0, 0, [], rfl, rfl, StN.nil W⟩
  · simp only [List.cons.injEq, and_true] at hcs
    rw [hcs]
    simp only [if_true] at hm
    subst hm
    have each : ∀ i, i < m → ∃ z : Int, W.cell? (a.add i) = some (.int .u8 z) := fun i hi => by
      obtain ⟨h1, h2⟩ := hel i hi
      obtain ⟨z, e, _⟩ := DataW.trod_int Try.underlying30 h2
      simp only [List.cons.injEq, and_true] at e
      exact ⟨z, by rw [h1, e]⟩
    obtain ⟨f, hf⟩ : ∃ f : Nat → Int, ∀ i, i < m → W.cell? (a.add i) = some (.int .u8 (f i)) :=
      ⟨fun i => if h : i < m then (each i h).choose else 0, fun i hi => by simp only [dif_pos hi]; exact (each i hi).choose_spec⟩
    refine ⟨some a, len, m, (List.range len).map f, rfl, by simp, some a, m, by simp, fun j hj => ?_⟩
    have hj0 : j < len := by simpa using hj
    have hc := hf j (by omega)
    obtain ⟨b, off, spot⟩ := a
    obtain rfl : spot = none := by
      have h00 := World.cell?_spot (hf 0 (by omega))
      simpa [Addr.add] using h00
    rw [add_off] at hc
    exact ⟨b, off, rfl, by simpa using hc⟩

theorem readable3 : ∀ t ∈ Try.f3.params.toList, Try.prog.readableRec t = true ∧ t < Try.prog.types.size := by
  rw [Try.params3]
  intro t ht
  have hall : ([24, 3, 26, 3, 27, 9].all fun t => Try.prog.readableRec t && decide (t < Try.prog.types.size)) = true := by kernel_rfl
  simpa using List.all_eq_true.1 hall t (by simpa using ht)

set_option maxRecDepth 100000 in
theorem schemeGoes_lifted (os : Os) (started : os.Started) (H : Type) (enc : TypeId × Value → H) :
    ReturnsInHanded {} Try.checked os 3 .any (Rows.schemeGoesSpec.pre6 enc Try.prog Try.f3 Rows.schemeGoesRow.domain false) (Rows.schemeGoesSpec.post enc Try.prog Try.f3 false true false false) := by
  refine returnsInHanded_of_change_sized (C := Try.checked) own started (by kernel_rfl) Try.func3
    (ChangeSpec.witness6 (enc := enc) (C := Try.checked) false ⟨#[], #[.agg #[.int .i64 0, .slice none 0 0], .int .i64 0, .agg #[.string ⟨#[]⟩, .string ⟨#[]⟩], .int .i64 0, .slice none 0 0, .string ⟨#[]⟩], []⟩ 8 (by kernel_rfl) (by kernel_rfl) (by kernel_rfl) (by kernel_rfl)) ?_
  intro W base args ds gs before hval0 hW _ hsz0 _
  clear hsz0
  have hval : ∀ (j : Nat) t v, Try.f3.params[j]? = some t → args[j]? = some v → Value.okWide Try.prog W .any base t v := hval0
  have hW' := hW
  obtain ⟨p, q, hA0, hV, rfl, hfz, hnd⟩ := hW
  have hA : DataW.TrodAll enc Try.prog W 0 (fun _ => true) true Try.f3.params.toList args.toList ds p := hA0
  have hlt : ∀ x ∈ p, x.block < W.heap.size := fun x hx => by simpa using hW'.lt x (by simp [hx])
  have hAs := fun (W' : World) (hb : Below W.heap.size W W') => trodAll_below laidOut hb _ _ _ _ readable3 hlt hA
  rw [Try.params3] at hA hval
  obtain ⟨args⟩ := args
  obtain ⟨v0, t0, d0, ds0, p0, q0, e0, rfl, rfl, h0, hA⟩ := trodAll_cons hA
  obtain ⟨v1, t1, d1, ds1, p1, q1, e1, rfl, rfl, h1, hA⟩ := trodAll_cons hA
  obtain ⟨v2, t2, d2, ds2, p2, q2, e2, rfl, rfl, h2, hA⟩ := trodAll_cons hA
  obtain ⟨v3, t3, d3, ds3, p3, q3, e3, rfl, rfl, h3, hA⟩ := trodAll_cons hA
  obtain ⟨v4, t4, d4, ds4, p4, q4, e4, rfl, rfl, h4, hA⟩ := trodAll_cons hA
  obtain ⟨v5, t5, d5, ds5, p5, q5, e5, rfl, rfl, h5, hA⟩ := trodAll_cons hA
  obtain ⟨rfl, rfl, rfl⟩ := trodAll_nil hA
  subst e5; subst e4; subst e3; subst e2; subst e1
  simp only at e0
  subst e0
  obtain ⟨rfl, rfl⟩ := trodVars_none hV
  obtain ⟨ep, A, c, xs, rfl, hxc, hxs, hsh⟩ := shares_open2 h0 (hval 0 24 v0 rfl rfl)
  obtain ⟨num, rfl⟩ := okWide_int Try.underlying3 (hval 1 3 v1 rfl rfl)
  obtain ⟨i, rfl, hl, hh⟩ := span_open2 h2 (hval 2 26 v2 rfl rfl)
  obtain ⟨tt, rfl⟩ := okWide_int Try.underlying3 (hval 3 3 v3 rfl rfl)
  obtain ⟨LA, m, lc, ls, rfl, hm, hL⟩ := stages_open h4 (hval 4 27 v4 rfl rfl)
  obtain ⟨kk, rfl⟩ := okWide_string Try.underlying9 (hval 5 9 v5 rfl rfl)
  clear hA0 hval0
  refine (goes_all ep A c xs num i tt LA m lc ls kk hm hxc hsh hl hh W hxs hL).mono fun e W' ⟨he, hbe⟩ => ?_
  subst he
  exact ⟨_, rfl, _, _, _, [], _, [], hW', trodAll_mk1 (shut_bool Try.underlying4 _), hAs W' hbe, rfl, hbe.frame _, fun h => by cases h⟩

theorem schemeGoes_proved : Rows.SchemeGoesSaid :=
  OpenClaim.holds_of_wide 3 Try.f3 rfl rfl rfl rfl rfl rfl rfl ⟨rfl, rfl, rfl, rfl, rfl⟩ rfl rfl rfl rfl rfl (by kernel_rfl) Try.func3 (by kernel_rfl)
    (of_decide_eq_true (by kernel_rfl)) (by unfold Func.isWrapper; first | (rw [if_pos (by decide +kernel)]; kernel_rfl) | (rw [if_neg (by decide +kernel)]; exact ⟨rfl, rfl⟩))
    (fun os started H enc _ => schemeGoes_lifted os started H enc)
end Go.Proofs.Ytdabdkedgigjdaa
