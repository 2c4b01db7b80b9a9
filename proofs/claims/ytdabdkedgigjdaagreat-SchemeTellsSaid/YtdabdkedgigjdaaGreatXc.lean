/- Proved: the law SchemeTells of layer 20 returns true for any handoff, any shares, any stage, number, span and group, and leaves what was there as it was (no condition). -/
import Derived.Test.YtdabdkedgigjdaaGreatXb
import Derived.Test.YtdabdkedgigjdaaGreatM
import Derived.Test.YtdabdkedgigjdaaGreatYp
namespace Go.Proofs.YtdabdkedgigjdaaGreat
open Go.ChangeShapes Go.WideShapes Go.ChangeAt Go.RowKit

set_option maxRecDepth 100000 in
theorem shares_open3 {H : Type} {enc : TypeId × Value → H} {W : World} {v : Value} {d : DataW H} {p : List MemPlace} {base : Nat}
    (h : DataW.Trod enc Tryz.prog W 0 (fun _ => true) true 24 v d p) (hv : Value.okWide Tryz.prog W .any base 24 v) : ∃ ep A c xs, v = .agg #[.int .i64 ep, .slice A xs.length c] ∧ xs.length ≤ c ∧ SharesAt W A xs ∧ Short xs ∧ (A = none → c = 0) := by
  obtain ⟨v0, v1, y0, y1, k, rfl, _, _, h0, h1⟩ := Joins.open_agg2 Tryz.underlying24 (by kernel_rfl) cells48 hv h
  obtain ⟨ep, e0, _⟩ := DataW.trod_int Tryz.underlying3 h0
  simp only [List.cons.injEq, and_true] at e0
  subst e0
  rcases Deep.open_slice Tryz.underlying22 h1 with ⟨hcs, _⟩ | ⟨a, len, cap, m, q, D, Pl, hcs, _, hl, _, hm, _, hel⟩
  · simp only [List.cons.injEq, and_true] at hcs
    subst hcs
    exact ⟨ep, none, 0, [], rfl, Nat.le_refl _, fun j hj => absurd hj (Nat.not_lt_zero _), fun j hj => absurd hj (Nat.not_lt_zero _), fun _ => rfl⟩
  · simp only [List.cons.injEq, and_true] at hcs
    subst hcs
    simp only [if_true] at hm
    subst hm
    rw [cells60] at hel
    have each : ∀ i, i < m → ∃ y : Sh, (y.sp.lo.size ≤ maxLen ∧ y.sp.hi.size ≤ maxLen) ∧ ∀ j u, [Value.string y.sp.lo, .string y.sp.hi, .int .i64 y.g, .int .i64 y.e][j]? = some u → W.cell? ((a.add (i * 4)).add j) = some u := fun i hi => by
      obtain ⟨cs', hc, ht⟩ := hel i hi
      obtain ⟨y, rfl, hl2⟩ := share_open2 ht
      obtain ⟨_, _, hcell⟩ := World.cells?_some hc
      refine ⟨y, hl2, fun j u hu => ?_⟩
      have hj := (List.getElem?_eq_some_iff.1 hu).1
      rw [hcell j (by simpa using hj)]
      exact hu
    have hsp : 0 < len → a.spot = none := fun h0 => by
      obtain ⟨y, _, hy⟩ := each 0 (by omega)
      have := hy 0 _ rfl
      simpa [Addr.add] using World.cell?_spot this
    obtain ⟨f, hf⟩ : ∃ f : Nat → Sh, ∀ i, i < m → ((f i).sp.lo.size ≤ maxLen ∧ (f i).sp.hi.size ≤ maxLen) ∧ ∀ j u, [Value.string (f i).sp.lo, .string (f i).sp.hi, .int .i64 (f i).g, .int .i64 (f i).e][j]? = some u → W.cell? ((a.add (i * 4)).add j) = some u :=
      ⟨fun i => if h : i < m then (each i h).choose else sh0, fun i hi => by simp only [dif_pos hi]; exact (each i hi).choose_spec⟩
    refine ⟨ep, some a, m, (List.range len).map f, by simp, by simpa using hl, fun j hj => ?_, fun j hj => ?_, fun e => by cases e⟩
    rotate_left
    · have hj0 : j < len := by simpa using hj
      have e : at2 ((List.range len).map f) j = f j := by simp [at2, hj0]
      rw [e]
      exact (hf j (by omega)).1
    have hj0 : j < len := by simpa using hj
    obtain ⟨b, off, spot⟩ := a
    obtain rfl : spot = none := hsp (by omega)
    have hq := (hf j (by omega)).2
    rw [add_off] at hq
    have e : at2 ((List.range len).map f) j = f j := by simp [at2, hj0]
    rw [e]
    have c0 := hq 0 _ rfl
    have c1 := hq 1 _ rfl
    have c2 := hq 2 _ rfl
    have c3 := hq 3 _ rfl
    rw [add_off] at c0 c1 c2 c3
    exact ⟨b, off, rfl, c0, c1, c2, c3⟩

theorem readable5 : ∀ t ∈ Tryz.f5.params.toList, Tryz.prog.readableRec t = true ∧ t < Tryz.prog.types.size := by
  rw [Tryz.params5]
  intro t ht
  have hall : ([52, 24, 50, 3, 26, 3].all fun t => Tryz.prog.readableRec t && decide (t < Tryz.prog.types.size)) = true := by kernel_rfl
  simpa using List.all_eq_true.1 hall t (by simpa using ht)

set_option maxRecDepth 100000 in
theorem schemeTells_lifted (os : Os) (started : os.Started) (H : Type) (enc : TypeId × Value → H) :
    ReturnsInHanded {} Tryz.checked os 5 .any (Rows.schemeTellsSpec.pre6 enc Tryz.prog Tryz.f5 Rows.schemeTellsRow.domain false) (Rows.schemeTellsSpec.post enc Tryz.prog Tryz.f5 false true false false) := by
  refine returnsInHanded_of_change_sized (C := Tryz.checked) own started (by kernel_rfl) Tryz.func5
    (ChangeSpec.witness6 (enc := enc) (C := Tryz.checked) false ⟨#[], #[.agg #[.int .i64 0, .string ⟨#[]⟩, .string ⟨#[]⟩, .int .i64 0, .int .i64 0, .int .i64 0, .int .i64 0, .int .u8 0], .agg #[.int .i64 0, .slice none 0 0], .int .u8 0, .int .i64 0, .agg #[.string ⟨#[]⟩, .string ⟨#[]⟩], .int .i64 0], []⟩ 8 (by kernel_rfl) (by kernel_rfl) (by kernel_rfl) (by kernel_rfl)) ?_
  intro W base args ds gs before hval0 hW _ hsz0 _
  clear hsz0
  have hval : ∀ (j : Nat) t v, Tryz.f5.params[j]? = some t → args[j]? = some v → Value.okWide Tryz.prog W .any base t v := hval0
  have hW' := hW
  obtain ⟨p, q, hA0, hV, rfl, hfz, hnd⟩ := hW
  have hA : DataW.TrodAll enc Tryz.prog W 0 (fun _ => true) true Tryz.f5.params.toList args.toList ds p := hA0
  have hlt : ∀ x ∈ p, x.block < W.heap.size := fun x hx => by simpa using hW'.lt x (by simp [hx])
  have hAs := fun (W' : World) (hb : Below W.heap.size W W') => trodAll_below laidOut hb _ _ _ _ readable5 hlt hA
  rw [Tryz.params5] at hA hval
  obtain ⟨args⟩ := args
  obtain ⟨v0, t0, d0, ds0, p0, q0, e0, rfl, rfl, h0, hA⟩ := trodAll_cons hA
  obtain ⟨v1, t1, d1, ds1, p1, q1, e1, rfl, rfl, h1, hA⟩ := trodAll_cons hA
  obtain ⟨v2, t2, d2, ds2, p2, q2, e2, rfl, rfl, h2, hA⟩ := trodAll_cons hA
  obtain ⟨v3, t3, d3, ds3, p3, q3, e3, rfl, rfl, h3, hA⟩ := trodAll_cons hA
  obtain ⟨v4, t4, d4, ds4, p4, q4, e4, rfl, rfl, h4, hA⟩ := trodAll_cons hA
  obtain ⟨v5, t5, d5, ds5, p5, q5, e5, rfl, rfl, h5, hA⟩ := trodAll_cons hA
  obtain ⟨rfl, rfl, rfl⟩ := trodAll_nil hA
  subst e5; subst e4; subst e3; subst e2; subst e1
  simp only at e0
  subst e0
  obtain ⟨rfl, rfl⟩ := trodVars_none hV
  obtain ⟨x, rfl, hl, hh⟩ := handoff_open h0 (hval 0 52 v0 rfl rfl)
  obtain ⟨ep, A, c, xs, rfl, hxc, hxs, hsh, hnil⟩ := shares_open3 h1 (hval 1 24 v1 rfl rfl)
  obtain ⟨sto, rfl⟩ := okWide_int Tryz.underlying50 (hval 2 50 v2 rfl rfl)
  obtain ⟨num2, rfl⟩ := okWide_int Tryz.underlying3 (hval 3 3 v3 rfl rfl)
  obtain ⟨i, rfl, hl2, hh2⟩ := span_open2 h4 (hval 4 26 v4 rfl rfl)
  obtain ⟨t2, rfl⟩ := okWide_int Tryz.underlying3 (hval 5 3 v5 rfl rfl)
  clear hA0 hval0
  refine (scTells_w x ep A xs.length c xs sto num2 i t2 rfl hsh hnil hl hh hl2 hh2 W hxs).mono fun e W' ⟨he, hbe⟩ => ?_
  subst he
  exact ⟨_, rfl, _, _, _, [], _, [], hW', trodAll_mk1 (shut_bool Tryz.underlying4 _), hAs W' hbe, rfl, hbe.frame _, fun h => by cases h⟩

theorem schemeTells_proved : Rows.SchemeTellsSaid :=
  OpenClaim.holds_of_wide 5 Tryz.f5 rfl rfl rfl rfl rfl rfl rfl ⟨rfl, rfl, rfl, rfl, rfl⟩ rfl rfl rfl rfl rfl (by kernel_rfl) Tryz.func5 (by kernel_rfl)
    (of_decide_eq_true (by kernel_rfl)) (by unfold Func.isWrapper; first | (rw [if_pos (by decide +kernel)]; kernel_rfl) | (rw [if_neg (by decide +kernel)]; exact ⟨rfl, rfl⟩))
    (fun os started H enc _ => schemeTells_lifted os started H enc)
end Go.Proofs.YtdabdkedgigjdaaGreat
