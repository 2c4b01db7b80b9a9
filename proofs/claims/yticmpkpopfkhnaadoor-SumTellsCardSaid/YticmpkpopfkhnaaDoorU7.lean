/- Proved: the law SumTells of layer 1 returns true for any lists of bytes and any sum, and leaves what was there as it was, on the tied card that is given (the table of the program's text is laid as the text says; no other condition). -/
import Derived.Test.YticmpkpopfkhnaaDoorU6
import Derived.Test.YticmpkpopfkhnaaDoorK
import Derived.Test.YticmpkpopfkhnaaDoorTie
import Derived.Test.YticmpkpopfkhnaaDoorCards
import Derived.SevenTiedAt
import Derived.Deep.Matrix
namespace Go.Proofs.YticmpkpopfkhnaaDoor
open Go.ChangeShapes Go.WideShapes Go.ChangeAt Go.RowKit

theorem cells34 : Tryd.prog.cellsOf 34 = 1 := by kernel_rfl
theorem bytes34 : Tryd.prog.bytesOf 34 = 24 := by kernel_rfl
theorem readable3 : ∀ t ∈ Tryd.f3.params.toList, Tryd.prog.readableRec t = true ∧ t < Tryd.prog.types.size := by
  rw [Tryd.params3]
  intro t ht
  have hall : ([22, 23].all fun t => Tryd.prog.readableRec t && decide (t < Tryd.prog.types.size)) = true := by kernel_rfl
  simpa using List.all_eq_true.1 hall t ht
theorem weightsAll_mem {H : Type} {P : Program} {e : TypeId} {d : DataW H} {n : Nat} : ∀ {l : List (DataW H)}, d ∈ l → n ∈ d.weights P e → n ∈ DataW.weightsAll P e l
  | x :: l, hd, hn => by
    rw [DataW.weightsAll, List.mem_append]
    rcases List.mem_cons.1 hd with rfl | hd
    · exact .inl hn
    · exact .inr (weightsAll_mem hd hn)

/-- A row of the open list, as bytes. -/
theorem row_bytes {W : World} (A : Option Addr) (L C : Nat) (Z : List Int) (hLC : L ≤ C) (hZ : Z.length = C) (hC : C ≤ 140737488351232) (hw : ∀ n ∈ Z, (Lit.int .u8 n).wf = true) (hA : A = none → C = 0)
    (hc : ∀ a', A = some a' → ∀ c, c < C → W.cell? (a'.add c) = some (.int .u8 (Z.getD c 0))) : BytesIn W (.slice A L C) ((Z.take L).map (BitVec.ofInt 8)) := by
  have hlen : ((Z.take L).map (BitVec.ofInt 8)).length = L := by simp; omega
  by_cases h0 : L = 0
  · subst h0
    exact .inl ⟨by simp, A, C, rfl, hA⟩
  · cases A with
    | none => have := hA rfl; omega
    | some a' =>
      obtain ⟨b, off, spot⟩ := a'
      have hc := hc _ rfl
      have hspot : spot = none := by simpa [Addr.add] using World.cell?_spot (hc 0 (by omega))
      subst hspot
      refine .inr ⟨b, off, C, by rw [hlen], by rw [hlen]; omega, fun i hi => ?_⟩
      rw [hlen] at hi
      have e : (⟨b, off, none⟩ : Addr).add i = ⟨b, off + i, none⟩ := by unfold Addr.add; split <;> simp_all
      have hci := hc i (by omega)
      rw [e] at hci
      rw [hci]
      have hg : Z.getD i 0 = Z[i]'(by omega) := by simp [show i < Z.length by omega]
      have hwi := wf_u8 (hw _ (List.getElem_mem (show i < Z.length by omega)))
      rw [hg]
      have e2 : ((Z.take L).map (BitVec.ofInt 8)).getD i 0 = BitVec.ofInt 8 (Z[i]'(by omega)) := by
        simp [List.getD, hi, show i < Z.length by omega]
      rw [e2, ub_of hwi]

theorem rows_open {H : Type} {enc : TypeId × Value → H} {W : World} {ts : List TypeId} {ds : List (DataW H)} {v : Value} {d : DataW H} {p : List MemPlace} {base : Nat}
    (h : DataW.Trod enc Tryd.prog W 0 (fun _ => true) true 22 v d p) (hv : Value.okWide Tryd.prog W .any base 22 v)
    (hsz : (DataW.weightsEach Tryd.prog ts ds).all (· ≤ reachBytes) = true) (j : Nat) (ht : ts[j]? = some 22) (hd : ds[j]? = some d) : ∃ ll, RowsIn W v ll := by
  obtain ⟨a0, len, cap, rfl⟩ := okWide_slice Tryd.underlying22 hv
  obtain ⟨fuel, hf⟩ := h
  rcases Go.Deep.open_int_rows Tryd.underlying22 Tryd.underlying34 Tryd.underlying5 cells34 cells5 hf with ⟨hcs, hx⟩ | ⟨a, len', cap', A, L, C, Z, hcs, _, hl, hm, hx, hrow⟩
  · simp [Value.cells] at hcs
    obtain ⟨rfl, rfl, rfl⟩ := hcs
    exact ⟨[], .inl ⟨rfl, _, _, rfl⟩⟩
  · simp [Value.cells] at hcs
    obtain ⟨rfl, rfl, rfl⟩ := hcs
    simp only [Prod.mk.injEq] at hx
    obtain ⟨rfl, rfl⟩ := hx
    have hreach : len ≤ 140737488351232 := by
      have := sized_slice hsz ht hd Tryd.underlying22
      rw [bytes34] at this
      simp only [List.length_map, List.length_range, reachBytes] at this
      omega
    have hin : ∀ r, r < len → C r ≤ 140737488351232 := by
      intro r hr
      obtain ⟨_, h2, _, h4, _, h6, _⟩ := hrow r (by omega)
      cases hA : A r with
      | none => have := h6 hA; omega
      | some a' =>
        have hmem : (Go.Deep.intRow (H := H) .u8 (A r) (L r) (Z r)) ∈ (List.range len).map fun r => Go.Deep.intRow (H := H) .u8 (A r) (L r) (Z r) := List.mem_map.2 ⟨r, List.mem_range.2 hr, rfl⟩
        have hwt : (((lits (H := H) .u8 ((Z r).take (L r))).length + (lits (H := H) .u8 ((Z r).drop (L r))).length) * Tryd.prog.bytesOf 5) ∈ (Go.Deep.intRow (H := H) .u8 (A r) (L r) (Z r)).weights Tryd.prog 34 := by
          rw [hA]
          simp [Go.Deep.intRow, DataW.weights, Tryd.underlying34]
        have h7 := weightsAll_mem hmem hwt
        have h8 := List.all_eq_true.1 hsz _ (DataW.weights_mem_each ht hd _ (by
          simp only [DataW.weights, Tryd.underlying22]
          exact List.mem_cons_of_mem _ (List.mem_append_left _ h7)))
        rw [bytes5] at h8
        simp only [lits, List.length_map, List.length_take, List.length_drop, reachBytes, decide_eq_true_eq] at h8
        omega
    refine ⟨(List.range len).map fun r => ((Z r).take (L r)).map (BitVec.ofInt 8), ?_⟩
    have hlen : ((List.range len).map fun r => ((Z r).take (L r)).map (BitVec.ofInt 8)).length = len := by simp
    by_cases h0 : len = 0
    · subst h0
      exact .inl ⟨rfl, _, _, rfl⟩
    · obtain ⟨b, off, spot⟩ := a
      have hspot : spot = none := by simpa [Addr.add] using World.cell?_spot (hrow 0 (by omega)).1
      subst hspot
      refine .inr ⟨b, off, cap, by rw [hlen], by rw [hlen]; omega, fun r hr => ?_⟩
      rw [hlen] at hr
      obtain ⟨h1, h2, h3, h4, h5, h6, h7⟩ := hrow r (by omega)
      have e : (⟨b, off, none⟩ : Addr).add r = ⟨b, off + r, none⟩ := by unfold Addr.add; split <;> simp_all
      rw [e] at h1
      refine ⟨_, h1, ?_⟩
      have eg : ((List.range len).map fun r => ((Z r).take (L r)).map (BitVec.ofInt 8)).getD r [] = ((Z r).take (L r)).map (BitVec.ofInt 8) := by simp [List.getD, hr]
      rw [eg]
      exact row_bytes (A r) (L r) (C r) (Z r) h2 h4 (hin r hr) h5 h6 (fun a' ha => (h7 a' ha).2)

set_option maxRecDepth 100000 in
theorem sumTells_lifted (os : Os) (started : os.Started) (H : Type) (enc : TypeId × Value → H) :
    ReturnsInHanded {} Tryd.checked os 3 .any (fun w args => (Rows.sumTellsSpec.pre enc Tryd.prog Tryd.f3 [] false w args ∧ laidMetH Tryd.prog [("watershed/sum.steps", Rows.laid_watershed_sum_steps)] w) ∧ sizedMet enc Tryd.prog Tryd.f3 (OpenSpec.ofChange Rows.sumTellsSpec) false w args)
      (Rows.sumTellsSpec.post enc Tryd.prog Tryd.f3 false true false false) := by
  refine returnsInHanded_of_change_and (C := Tryd.checked) (X := fun w _ => laidMetH Tryd.prog [("watershed/sum.steps", Rows.laid_watershed_sum_steps)] w) (fun _ _ _ hh h => h.of_heap hh) own started (by kernel_rfl) Tryd.func3
    (ChangeSpec.witness_shaped (enc := enc) (C := Tryd.checked) (os := os) (X := fun w _ => laidMetH Tryd.prog [("watershed/sum.steps", Rows.laid_watershed_sum_steps)] w) false (World.doorLaid Tryd.prog 400 os) #[.slice none 0 0, .int .u32 0] 8 rfl (World.shaped_of_RefB (by kernel_rfl) (by kernel_rfl)) (by kernel_rfl) (by kernel_rfl) (by kernel_rfl) (door_met os _)) ?_
  intro W base args ds gs before hval0 hW _ hsz0 hL _
  have hsz : (DataW.weightsEach Tryd.prog (Tryd.f3.params.toList ++ Rows.sumTellsSpec.plain.varTypes Tryd.prog) (ds ++ gs)).all (· ≤ reachBytes) = true := hsz0
  clear hsz0
  have hval : ∀ (j : Nat) t v, Tryd.f3.params[j]? = some t → args[j]? = some v → Value.okWide Tryd.prog W .any base t v := hval0
  have hW' := hW
  obtain ⟨p, q, hA0, hV, rfl, hfz, hnd⟩ := hW
  have hA : DataW.TrodAll enc Tryd.prog W 0 (fun _ => true) true Tryd.f3.params.toList args.toList ds p := hA0
  have hlt : ∀ x ∈ p, x.block < W.heap.size := fun x hx => by simpa using hW'.lt x (by simp [hx])
  have hAs := fun (W' : World) (hb : Below W.heap.size W W') => trodAll_below laidOut hb _ _ _ _ readable3 hlt hA
  rw [Tryd.params3] at hA hval hsz
  obtain ⟨v0, v1, d0, d1, p0, p1, rfl, rfl, rfl, h0, h1⟩ := trodAll_two hA
  obtain ⟨rfl, rfl⟩ := trodVars_none hV
  obtain ⟨c, rfl, rfl, rfl, wc⟩ := open_int Tryd.underlying23 (hval 1 23 v1 rfl rfl) h1
  obtain ⟨su, rfl⟩ := wf_u32 wc
  obtain ⟨ll, hll⟩ := rows_open h0 (hval 0 22 v0 rfl rfl) hsz 0 rfl rfl
  clear hA0 hval0
  refine (sumTells_v W (tab_of_laid hL) v0 ll hll su).mono fun e W' ⟨he, hbe⟩ => ?_
  subst he
  exact ⟨_, rfl, _, _, _, [], _, [], hW', trodAll_mk1 (shut_bool Tryd.underlying4 _), hAs W' hbe, rfl, hbe.frame _, fun h => by cases h⟩

theorem sumTells_over : Rows.SumTellsSaid :=
  OpenClaim.holds_of_wide 3 Tryd.f3 rfl rfl rfl rfl rfl rfl rfl ⟨rfl, rfl, rfl, rfl, rfl⟩ rfl rfl rfl rfl rfl (by kernel_rfl) Tryd.func3 (by kernel_rfl)
    (of_decide_eq_true (by kernel_rfl)) (by unfold Func.isWrapper; first | (rw [if_pos (by decide +kernel)]; kernel_rfl) | (rw [if_neg (by decide +kernel)]; exact ⟨rfl, rfl⟩))
    (fun os started H enc _ => sumTells_lifted os started H enc)
theorem sumTells_card : Rows.SumTellsCardSaid :=
  Claim7.holds_tied_plain_at .later [] [.data] true (true, "f7245d52ed65659dae973383c6bf4ace6ff76807b949e8684cb60d7a3e04a17f") false
    (sumTells_over) (fun _ h => by cases h) (by kernel_rfl) (fun _ h => by cases h) sumTells_row_tie rfl ⟨rfl, rfl⟩ (by kernel_rfl) rfl
    (fun f fn hf hfn => by
      obtain rfl : f = 3 := Option.some.inj ((show Tryd.prog.funcNamed "watershed/watershedlaw01.SumTells" = some 3 by kernel_rfl).symm.trans hf) |>.symm
      obtain rfl : fn = Tryd.f3 := (Option.some.inj (Tryd.func3.symm.trans hfn)).symm
      exact ⟨by kernel_rfl, fun j t ht => by
        rw [Tryd.params3] at ht
        have hm : t ∈ [22, 23] := by simpa using Array.mem_of_getElem? ht
        have hall : ([22, 23].all fun u => !Tryd.prog.wantsStandIn u) = true := by kernel_rfl
        exact (show Tryd.prog.wantsStandIn t = false by simpa using List.all_eq_true.1 hall t hm)⟩)
    (by kernel_rfl)

theorem sumTells_proved : Rows.SumTellsCardSaid := sumTells_card
end Go.Proofs.YticmpkpopfkhnaaDoor
