/- Proved: the law ActParts of layer 14 returns true for any acts, any place, any text and any number, and leaves what was there as it was, on the tied card that is given (the tables of the program's text are laid as the text says; no other condition). -/
import Derived.Test.YthbbbjkgfdnkhaaDoorAo
import Derived.Test.YthbbbjkgfdnkhaaDoorAk
import Derived.Deep.Slices
namespace Go.Proofs.YthbbbjkgfdnkhaaDoor
open Go.ChangeShapes Go.WideShapes Go.ChangeAt Go.RowKit
theorem cells52 : Tryd.prog.cellsOf 52 = 4 := by kernel_rfl
theorem cells50 : Tryd.prog.cellsOf 50 = 1 := by kernel_rfl
theorem cells9 : Tryd.prog.cellsOf 9 = 1 := by kernel_rfl
theorem cells3 : Tryd.prog.cellsOf 3 = 1 := by kernel_rfl
theorem list4 {α : Type} {l : List α} (h : l.length = 4) : ∃ a b c d, l = [a, b, c, d] := by
  match l, h with
  | [a, b, c, d], _ => exact ⟨a, b, c, d, rfl⟩
theorem weightsAll_mem {H : Type} {P : Program} {e : TypeId} {d : DataW H} {n : Nat} : ∀ {l : List (DataW H)}, d ∈ l → n ∈ d.weights P e → n ∈ DataW.weightsAll P e l
  | x :: l, hd, hn => by
    rw [DataW.weightsAll, List.mem_append]
    rcases List.mem_cons.1 hd with rfl | hd
    · exact .inl hn
    · exact .inr (weightsAll_mem hd hn)
set_option maxRecDepth 100000 in
/-- One act, out of its four cells. -/
theorem act_open {H : Type} {enc : TypeId × Value → H} {W : World} {fuel : Nat} {cs : List Value} {x : DataW H × List MemPlace}
    (h : DataW.trod enc Tryd.prog W 0 (fun _ => true) true fuel 52 cs = some x) : ∃ y : Ac, cs = [.int .u8 y.kind, .string y.key, .string y.value, .int .i64 y.num] ∧ y.key.size ∈ x.1.weights Tryd.prog 52 ∧ y.value.size ∈ x.1.weights Tryd.prog 52 := by
  obtain ⟨xs, k, _, hdd, hl, hxl, hf⟩ := DataW.trod_struct Tryd.underlying52 h
  rw [cells52] at hl
  obtain ⟨v0, v1, v2, v3, rfl⟩ := list4 hl
  have hx : xs.length = 4 := hxl
  match xs, hx with
  | [y0, y1, y2, y3], _ =>
    have g0 := hf 0 _ rfl
    have g1 := hf 1 _ rfl
    have g2 := hf 2 _ rfl
    have g3 := hf 3 _ rfl
    simp [cells50, cells9, cells3] at g0 g1 g2 g3
    obtain ⟨z0, e0, _⟩ := DataW.trod_int Tryd.underlying50 g0
    obtain ⟨s1, e1, hs1, _⟩ := DataW.trod_string Tryd.underlying9 g1
    obtain ⟨s2, e2, hs2, _⟩ := DataW.trod_string Tryd.underlying9 g2
    obtain ⟨z3, e3, _⟩ := DataW.trod_int Tryd.underlying3 g3
    simp only [List.cons.injEq, and_true] at e0 e1 e2 e3
    refine ⟨⟨z0, s1, s2, z3⟩, by rw [e0, e1, e2, e3], ?_, ?_⟩
    all_goals
      subst hdd hs1 hs2
      rw [DataW.weights, Tryd.underlying52]
    · exact DataW.weights_mem_each (j := 1) (t := 9) rfl rfl _ (by rw [DataW.weights, List.mem_singleton, Array.length_toList]; rfl)
    · exact DataW.weights_mem_each (j := 2) (t := 9) rfl rfl _ (by rw [DataW.weights, List.mem_singleton, Array.length_toList]; rfl)
set_option maxRecDepth 100000 in
theorem acts_open {H : Type} {enc : TypeId × Value → H} {W : World} {v : Value} {d : DataW H} {p : List MemPlace} {base : Nat}
    (h : DataW.Trod enc Tryd.prog W 0 (fun _ => true) true 22 v d p) (hv : Value.okWide Tryd.prog W .any base 22 v) :
    ∃ A c l, v = .slice A l.length c ∧ l.length ≤ c ∧ ActsAt W A l ∧ ∀ j, j < l.length → (atA l j).key.size ∈ d.weights Tryd.prog 22 ∧ (atA l j).value.size ∈ d.weights Tryd.prog 22 := by
  obtain ⟨a0, n0, c0, rfl⟩ := okWide_slice Tryd.underlying22 hv
  obtain ⟨fuel, hf⟩ := h
  rcases Deep.open_slice Tryd.underlying22 hf with ⟨hcs, _⟩ | ⟨a, len, cap, m, q, D, Pl, hcs, _, hl, _, hm, hdd, hel⟩
  · simp [Value.cells] at hcs
    obtain ⟨rfl, rfl, rfl⟩ := hcs
    exact ⟨none, 0, [], rfl, Nat.le_refl _, fun j hj => absurd hj (Nat.not_lt_zero _), fun j hj => absurd hj (Nat.not_lt_zero _)⟩
  · simp [Value.cells] at hcs
    obtain ⟨rfl, rfl, rfl⟩ := hcs
    simp only [if_true] at hm
    subst hm
    rw [cells52] at hel
    have each : ∀ i, i < m → ∃ y : Ac, (y.key.size ∈ (D i).weights Tryd.prog 52 ∧ y.value.size ∈ (D i).weights Tryd.prog 52) ∧ ∀ j u, [Value.int .u8 y.kind, .string y.key, .string y.value, .int .i64 y.num][j]? = some u → W.cell? ((a.add (i * 4)).add j) = some u := fun i hi => by
      obtain ⟨cs', hc, ht⟩ := hel i hi
      obtain ⟨y, rfl, hl2⟩ := act_open ht
      obtain ⟨_, _, hcell⟩ := World.cells?_some hc
      refine ⟨y, hl2, fun j u hu => ?_⟩
      have hj := (List.getElem?_eq_some_iff.1 hu).1
      rw [hcell j (by simpa using hj)]
      exact hu
    have hsp : 0 < n0 → a.spot = none := fun h0 => by
      obtain ⟨y, _, hy⟩ := each 0 (by omega)
      have := hy 0 _ rfl
      simpa [Addr.add] using World.cell?_spot this
    obtain ⟨f, hff⟩ : ∃ f : Nat → Ac, ∀ i, i < m → ((f i).key.size ∈ (D i).weights Tryd.prog 52 ∧ (f i).value.size ∈ (D i).weights Tryd.prog 52) ∧ ∀ j u, [Value.int .u8 (f i).kind, .string (f i).key, .string (f i).value, .int .i64 (f i).num][j]? = some u → W.cell? ((a.add (i * 4)).add j) = some u :=
      ⟨fun i => if h : i < m then (each i h).choose else ac0, fun i hi => by simp only [dif_pos hi]; exact (each i hi).choose_spec⟩
    have eAt : ∀ j, j < n0 → atA ((List.range n0).map f) j = f j := fun j hj => by simp [atA, hj]
    refine ⟨some a, m, (List.range n0).map f, by simp, by simpa using hl, fun j hj => ?_, fun j hj => ?_⟩
    rotate_left
    · have hj0 : j < n0 := by simpa using hj
      rw [eAt j hj0]
      simp only [Prod.mk.injEq] at hdd
      obtain ⟨rfl, -⟩ := hdd
      have hmem : D j ∈ (List.range n0).map D := List.mem_map.2 ⟨j, List.mem_range.2 hj0, rfl⟩
      have hw := (hff j (by omega)).1
      simp only [DataW.weights, Tryd.underlying22]
      exact ⟨List.mem_cons_of_mem _ (List.mem_append_left _ (weightsAll_mem hmem hw.1)), List.mem_cons_of_mem _ (List.mem_append_left _ (weightsAll_mem hmem hw.2))⟩
    have hj0 : j < n0 := by simpa using hj
    obtain ⟨b, off, spot⟩ := a
    obtain rfl : spot = none := hsp (by omega)
    have hq := (hff j (by omega)).2
    rw [add_off] at hq
    rw [eAt j hj0]
    have c0 := hq 0 _ rfl
    have c1 := hq 1 _ rfl
    have c2 := hq 2 _ rfl
    have c3 := hq 3 _ rfl
    rw [add_off] at c0 c1 c2 c3
    exact ⟨b, off, rfl, c0, c1, c2, c3⟩

theorem readable6 : ∀ t ∈ Tryd.f6.params.toList, Tryd.prog.readableRec t = true ∧ t < Tryd.prog.types.size := by
  rw [Tryd.params6]
  intro t ht
  have hall : ([22, 4, 9, 3].all fun t => Tryd.prog.readableRec t && decide (t < Tryd.prog.types.size)) = true := by kernel_rfl
  simpa using List.all_eq_true.1 hall t ht

set_option maxRecDepth 100000 in
theorem actParts_lifted (os : Os) (started : os.Started) (H : Type) (enc : TypeId × Value → H) :
    ReturnsInHanded {} Tryd.checked os 6 .any (fun w args => (Rows.actPartsSpec.pre enc Tryd.prog Tryd.f6 [] false w args ∧ laidMetH Tryd.prog laid3 w) ∧ sizedMet enc Tryd.prog Tryd.f6 (OpenSpec.ofChange Rows.actPartsSpec) false w args)
      (Rows.actPartsSpec.post enc Tryd.prog Tryd.f6 false true false false) := by
  refine returnsInHanded_of_change_and (C := Tryd.checked) (X := fun w _ => laidMetH Tryd.prog laid3 w) (fun _ _ _ hh h => h.of_heap hh) own started (by kernel_rfl) Tryd.func6
    (ChangeSpec.witness_shaped (enc := enc) (C := Tryd.checked) (os := os) (X := fun w _ => laidMetH Tryd.prog laid3 w) false (World.doorLaid Tryd.prog 400 os) #[.slice none 0 0, .bool false, .string ⟨#[]⟩, .int .i64 0] 8 rfl (World.shaped_of_RefB (by kernel_rfl) (by kernel_rfl)) (by kernel_rfl) (by kernel_rfl) (by kernel_rfl) (door_met os _)) ?_
  intro W base args ds gs before hval0 hW _ hsz0 hL _
  have hsz : (DataW.weightsEach Tryd.prog (Tryd.f6.params.toList ++ Rows.actPartsSpec.plain.varTypes Tryd.prog) (ds ++ gs)).all (· ≤ reachBytes) = true := hsz0
  clear hsz0
  have hval : ∀ (j : Nat) t v, Tryd.f6.params[j]? = some t → args[j]? = some v → Value.okWide Tryd.prog W .any base t v := hval0
  have hW' := hW
  obtain ⟨p, q, hA0, hV, rfl, hfz, hnd⟩ := hW
  have hA : DataW.TrodAll enc Tryd.prog W 0 (fun _ => true) true Tryd.f6.params.toList args.toList ds p := hA0
  have hlt : ∀ x ∈ p, x.block < W.heap.size := fun x hx => by simpa using hW'.lt x (by simp [hx])
  have hAs := fun (W' : World) (hb : Below W.heap.size W W') => trodAll_below laidOut hb _ _ _ _ readable6 hlt hA
  rw [Tryd.params6] at hA hval hsz
  obtain ⟨v0, v1, v2, v3, d0, d1, d2, d3, p0, p1, p2, p3, rfl, rfl, rfl, h0, h1, h2, h3⟩ := trodAll_four hA
  obtain ⟨rfl, rfl⟩ := trodVars_none hV
  obtain ⟨A, c, l, rfl, hc, hI, hw⟩ := acts_open h0 (hval 0 22 v0 rfl rfl)
  have hz : Sz l := fun j hj => ⟨reach_of hsz (j := 0) rfl rfl (hw j hj).1, reach_of hsz (j := 0) rfl rfl (hw j hj).2⟩
  obtain ⟨is, rfl⟩ := okWide_bool Tryd.underlying4 (hval 1 4 v1 rfl rfl)
  obtain ⟨s, rfl, rfl, rfl, ws⟩ := Go.ChangeMaps.open_string Tryd.underlying9 (hval 2 9 v2 rfl rfl) h2
  obtain ⟨x, rfl, rfl, rfl, wx⟩ := open_int Tryd.underlying3 (hval 3 3 v3 rfl rfl) h3
  have hs := str_reach hsz (j := 2) rfl rfl
  clear hA0 hval0
  refine (parts_w A l.length c l rfl hc hz is s hs x W (tb_of_laid hL) hI).mono fun e W' ⟨he, hbe⟩ => ?_
  subst he
  exact ⟨_, rfl, _, _, _, [], _, [], hW', trodAll_mk1 (shut_bool Tryd.underlying4 _), hAs W' hbe, rfl, hbe.frame _, fun h => by cases h⟩

theorem actParts_over : Rows.ActPartsSaid :=
  OpenClaim.holds_of_wide 6 Tryd.f6 rfl rfl rfl rfl rfl rfl rfl ⟨rfl, rfl, rfl, rfl, rfl⟩ rfl rfl rfl rfl rfl (by kernel_rfl) Tryd.func6 (by kernel_rfl)
    (of_decide_eq_true (by kernel_rfl)) (by unfold Func.isWrapper; first | (rw [if_pos (by decide +kernel)]; kernel_rfl) | (rw [if_neg (by decide +kernel)]; exact ⟨rfl, rfl⟩))
    (fun os started H enc _ => actParts_lifted os started H enc)
theorem actParts_proved : Rows.ActPartsCardSaid :=
  Claim7.holds_tied_plain_at .later [] [.data, .data, .data] true (true, "c60da069d5d77187e93a662ab88e939a5124abd7a56eb44d0ab4451dadd5f14e") false
    (actParts_over) (fun _ h => by cases h) (by kernel_rfl) (fun _ h => by cases h) actParts_row_tie rfl ⟨rfl, rfl⟩ (by kernel_rfl) rfl
    (fun f fn hf hfn => by
      obtain rfl : f = 6 := Option.some.inj ((show Tryd.prog.funcNamed "watershed/watershedlaw14.ActParts" = some 6 by kernel_rfl).symm.trans hf) |>.symm
      obtain rfl : fn = Tryd.f6 := (Option.some.inj (Tryd.func6.symm.trans hfn)).symm
      exact ⟨by kernel_rfl, fun j t ht => by
        rw [Tryd.params6] at ht
        have hm : t ∈ [22, 4, 9, 3] := by simpa using Array.mem_of_getElem? ht
        have hall : ([22, 4, 9, 3].all fun u => !Tryd.prog.wantsStandIn u) = true := by kernel_rfl
        exact (show Tryd.prog.wantsStandIn t = false by simpa using List.all_eq_true.1 hall t hm)⟩)
    (by kernel_rfl)
end Go.Proofs.YthbbbjkgfdnkhaaDoor
