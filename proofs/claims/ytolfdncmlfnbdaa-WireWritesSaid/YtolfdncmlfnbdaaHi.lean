/- Proved: the law WireWrites of layer 2 returns true for any numbers, flags, texts and rows, and leaves what was there as it was (no condition). -/
import Derived.Test.YtolfdncmlfnbdaaHg
import Derived.Test.YtolfdncmlfnbdaaK
import Derived.SliceStrings
import Derived.Deep.Grids
import Derived.Deep.Matrix
import Derived.Carry
namespace Go.Proofs.Ytolfdncmlfnbdaa
open Go.ChangeShapes Go.WideShapes Go.ChangeAt Go.RowKit

theorem cellsW3 : Try.prog.cellsOf 3 = 1 := by kernel_rfl
theorem bytesW3 : Try.prog.bytesOf 3 = 8 := by kernel_rfl
theorem cellsW4 : Try.prog.cellsOf 4 = 1 := by kernel_rfl
theorem bytesW4 : Try.prog.bytesOf 4 = 1 := by kernel_rfl
theorem cellsW9 : Try.prog.cellsOf 9 = 1 := by kernel_rfl
theorem bytesW9 : Try.prog.bytesOf 9 = 16 := by kernel_rfl
theorem cellsW27 : Try.prog.cellsOf 26 = 1 := by kernel_rfl
theorem bytesW27 : Try.prog.bytesOf 26 = 24 := by kernel_rfl
theorem readableW3 : ∀ t ∈ Try.f3.params.toList, Try.prog.readableRec t = true ∧ t < Try.prog.types.size := by
  rw [Try.params3]
  intro t ht
  have hall : ([22, 23, 24, 25].all fun t => Try.prog.readableRec t && decide (t < Try.prog.types.size)) = true := by kernel_rfl
  simpa using List.all_eq_true.1 hall t (by simpa using ht)
theorem weightsAll_memW {H : Type} {P : Program} {e : TypeId} {d : DataW H} {n : Nat} : ∀ {l : List (DataW H)}, d ∈ l → n ∈ d.weights P e → n ∈ DataW.weightsAll P e l
  | x :: l, hd, hn => by
    rw [DataW.weightsAll, List.mem_append]
    rcases List.mem_cons.1 hd with rfl | hd
    · exact .inl hn
    · exact .inr (weightsAll_memW hd hn)
theorem add_plain (b off i : Nat) : (⟨b, off, none⟩ : Addr).add i = ⟨b, off + i, none⟩ := by unfold Addr.add; split <;> simp_all

section
variable {H : Type} {enc : TypeId × Value → H} {W : World} {ts : List TypeId} {ds : List (DataW H)} {v : Value} {d : DataW H} {p : List MemPlace} {base : Nat}
set_option maxRecDepth 100000 in
theorem nums_openW (h : DataW.Trod enc Try.prog W 0 (fun _ => true) true 22 v d p) (hv : Value.okWide Try.prog W .any base 22 v)
    (hsz : (DataW.weightsEach Try.prog ts ds).all (· ≤ reachBytes) = true) (j : Nat) (ht : ts[j]? = some 22) (hd : ds[j]? = some d) :
    ∃ (l : List Int) (A : Option Addr) (c : Nat), v = .slice A l.length c ∧ l.length ≤ 140737488351232 ∧ ∀ k, k < l.length → ∃ b o, A = some ⟨b, o, none⟩ ∧ W.cell? ⟨b, o + k, none⟩ = some (.int .i64 (l.getD k 0)) := by
  obtain ⟨a0, len, cap, rfl⟩ := okWide_slice Try.underlying22 hv
  obtain ⟨fuel, hf⟩ := h
  rcases open_ints Try.underlying22 Try.underlying3 cellsW3 hf with ⟨hcs, hx⟩ | ⟨a, len', cap', zs, hcs, _, hl, hm, hz, hx, hcell, hwz⟩
  · simp [Value.cells] at hcs
    obtain ⟨rfl, rfl, rfl⟩ := hcs
    exact ⟨[], none, 0, rfl, by simp, fun k hk => by cases hk⟩
  · simp [Value.cells] at hcs
    obtain ⟨rfl, rfl, rfl⟩ := hcs
    simp only [Prod.mk.injEq] at hx
    obtain ⟨rfl, rfl⟩ := hx
    simp only [if_true] at hz
    have hreach := sized_slice hsz ht hd Try.underlying22
    rw [bytesW3] at hreach
    simp only [lits, List.length_map, List.length_take, List.length_drop, reachBytes] at hreach
    have hlen : (zs.take len).length = len := by simp; omega
    refine ⟨zs.take len, some a, cap, by rw [hlen], by rw [hlen]; omega, fun k hk => ?_⟩
    rw [hlen] at hk
    obtain ⟨b, off, spot⟩ := a
    have hspot : spot = none := by simpa [Addr.add] using World.cell?_spot (hcell 0 (by omega))
    subst hspot
    refine ⟨b, off, rfl, ?_⟩
    have hc := hcell k (by omega)
    rw [add_plain] at hc
    rw [hc]
    simp [List.getD, hk]
set_option maxRecDepth 100000 in
theorem flags_openW (h : DataW.Trod enc Try.prog W 0 (fun _ => true) true 23 v d p) (hv : Value.okWide Try.prog W .any base 23 v)
    (hsz : (DataW.weightsEach Try.prog ts ds).all (· ≤ reachBytes) = true) (j : Nat) (ht : ts[j]? = some 23) (hd : ds[j]? = some d) :
    ∃ (l : List Bool) (A : Option Addr) (c : Nat), v = .slice A l.length c ∧ l.length ≤ 140737488351232 ∧ ∀ k, k < l.length → ∃ b o, A = some ⟨b, o, none⟩ ∧ W.cell? ⟨b, o + k, none⟩ = some (.bool (l.getD k false)) := by
  obtain ⟨a0, len, cap, rfl⟩ := okWide_slice Try.underlying23 hv
  obtain ⟨fuel, hf⟩ := h
  rcases Go.Deep.open_bools Try.underlying23 Try.underlying4 cellsW4 hf with ⟨hcs, hx⟩ | ⟨a, len', cap', B, hcs, _, hl, hm, hx, hcell⟩
  · simp [Value.cells] at hcs
    obtain ⟨rfl, rfl, rfl⟩ := hcs
    exact ⟨[], none, 0, rfl, by simp, fun k hk => by cases hk⟩
  · simp [Value.cells] at hcs
    obtain ⟨rfl, rfl, rfl⟩ := hcs
    simp only [Prod.mk.injEq] at hx
    obtain ⟨rfl, rfl⟩ := hx
    have hreach := sized_slice hsz ht hd Try.underlying23
    rw [bytesW4] at hreach
    simp only [List.length_map, List.length_range, reachBytes] at hreach
    have hlen : ((List.range len).map B).length = len := by simp
    refine ⟨(List.range len).map B, some a, cap, by rw [hlen], by rw [hlen]; omega, fun k hk => ?_⟩
    rw [hlen] at hk
    obtain ⟨b, off, spot⟩ := a
    have hspot : spot = none := by simpa [Addr.add] using World.cell?_spot (hcell 0 (by omega))
    subst hspot
    refine ⟨b, off, rfl, ?_⟩
    have hc := hcell k (by omega)
    rw [add_plain] at hc
    rw [hc]
    simp [List.getD, hk]
set_option maxRecDepth 100000 in
theorem txts_openW (h : DataW.Trod enc Try.prog W 0 (fun _ => true) true 24 v d p) (hv : Value.okWide Try.prog W .any base 24 v)
    (hsz : (DataW.weightsEach Try.prog ts ds).all (· ≤ reachBytes) = true) (j : Nat) (ht : ts[j]? = some 24) (hd : ds[j]? = some d) :
    ∃ (l : List ByteArray) (A : Option Addr) (c : Nat), v = .slice A l.length c ∧ l.length ≤ 140737488351232 ∧ (∀ k, k < l.length → (l.getD k { data := #[] }).size ≤ 140737488351232) ∧
      ∀ k, k < l.length → ∃ b o, A = some ⟨b, o, none⟩ ∧ W.cell? ⟨b, o + k, none⟩ = some (.string (l.getD k { data := #[] })) := by
  obtain ⟨a0, len, cap, rfl⟩ := okWide_slice Try.underlying24 hv
  obtain ⟨fuel, hf⟩ := h
  rcases open_strings Try.underlying24 Try.underlying9 cellsW9 hf with ⟨hcs, hx⟩ | ⟨a, len', cap', ss, hcs, _, hl, hm, hz, hx, hcell, hsm⟩
  · simp [Value.cells] at hcs
    obtain ⟨rfl, rfl, rfl⟩ := hcs
    exact ⟨[], none, 0, rfl, by simp, (fun k hk => by cases hk), fun k hk => by cases hk⟩
  · simp [Value.cells] at hcs
    obtain ⟨rfl, rfl, rfl⟩ := hcs
    simp only [Prod.mk.injEq] at hx
    obtain ⟨rfl, rfl⟩ := hx
    simp only [if_true] at hz
    have hreach := sized_slice hsz ht hd Try.underlying24
    rw [bytesW9] at hreach
    simp only [strs, List.length_map, List.length_take, List.length_drop, reachBytes] at hreach
    have hlen : (ss.take len).length = len := by simp; omega
    refine ⟨ss.take len, some a, cap, by rw [hlen], by rw [hlen]; omega, fun k hk => ?_, fun k hk => ?_⟩
    · rw [hlen] at hk
      have hk2 : k < ss.length := by omega
      have e : (ss.take len).getD k { data := #[] } = ss[k] := by simp [List.getD, hk, hk2]
      rw [e]
      have hmem : (DataW.lit (.string ss[k].data.toList) : DataW H) ∈ strs (H := H) (ss.take len) := by
        unfold strs
        exact List.mem_map.2 ⟨ss[k], List.mem_take_iff_getElem.2 ⟨k, by omega, rfl⟩, rfl⟩
      have hwt : ss[k].data.toList.length ∈ (DataW.lit (.string ss[k].data.toList) : DataW H).weights Try.prog 9 := by simp [DataW.weights]
      have h8 := List.all_eq_true.1 hsz _ (DataW.weights_mem_each ht hd _ (by
        simp only [DataW.weights, Try.underlying24]
        exact List.mem_cons_of_mem _ (List.mem_append_left _ (weightsAll_memW hmem hwt))))
      have h9 : ss[k].data.toList.length ≤ reachBytes := of_decide_eq_true h8
      have h10 : ss[k].size = ss[k].data.toList.length := rfl
      rw [h10]
      exact h9
    · rw [hlen] at hk
      obtain ⟨b, off, spot⟩ := a
      have hspot : spot = none := by simpa [Addr.add] using World.cell?_spot (hcell 0 (by omega))
      subst hspot
      refine ⟨b, off, rfl, ?_⟩
      have hc := hcell k (by omega)
      rw [add_plain] at hc
      rw [hc]
      have hk2 : k < ss.length := by omega
      simp [List.getD, hk, hk2]

set_option maxRecDepth 100000 in
theorem row_bytesW (A : Option Addr) (L C : Nat) (Z : List Int) (hLC : L ≤ C) (hZ : Z.length = C) (hC : C ≤ 140737488351232) (hw : ∀ n ∈ Z, (Lit.int .u8 n).wf = true) (hA : A = none → C = 0)
    (hc : ∀ a', A = some a' → ∀ c, c < C → W.cell? (a'.add c) = some (.int .u8 (Z.getD c 0))) : BytesIn W (.slice A L C) ((Z.take L).map (BitVec.ofInt 8)) := by
  have hlen : ((Z.take L).map (BitVec.ofInt 8)).length = L := by simp; omega
  by_cases h0 : L = 0
  · subst h0
    exact .inl ⟨by simp, A, C, rfl, hA⟩
  · cases A with
    | none => have := hA rfl; omega
    | some a' =>
      obtain ⟨b, off, spot⟩ := a'
      have hc := hc _ rfl
      have hspot : spot = none := by simpa [Addr.add] using World.cell?_spot (hc 0 (by omega))
      subst hspot
      refine .inr ⟨b, off, C, by rw [hlen], by rw [hlen]; omega, by rw [hlen]; omega, fun i hi => ?_⟩
      rw [hlen] at hi
      have hci := hc i (by omega)
      rw [add_plain] at hci
      rw [hci]
      have hg : Z.getD i 0 = Z[i]'(by omega) := by simp [show i < Z.length by omega]
      have hwi := wf_u8 (hw _ (List.getElem_mem (show i < Z.length by omega)))
      rw [hg]
      have e2 : ((Z.take L).map (BitVec.ofInt 8)).getD i 0#8 = BitVec.ofInt 8 (Z[i]'(by omega)) := by
        simp [List.getD, hi, show i < Z.length by omega]
      rw [e2, ub_of hwi]
set_option maxRecDepth 100000 in
theorem rows_openW (h : DataW.Trod enc Try.prog W 0 (fun _ => true) true 25 v d p) (hv : Value.okWide Try.prog W .any base 25 v)
    (hsz : (DataW.weightsEach Try.prog ts ds).all (· ≤ reachBytes) = true) (j : Nat) (ht : ts[j]? = some 25) (hd : ds[j]? = some d) :
    ∃ (l : List (List B8)) (A : Option Addr) (c : Nat), v = .slice A l.length c ∧ l.length ≤ 140737488351232 ∧
      ∀ k, k < l.length → ∃ b o V, A = some ⟨b, o, none⟩ ∧ W.cell? ⟨b, o + k, none⟩ = some V ∧ BytesIn W V (l.getD k []) := by
  obtain ⟨a0, len, cap, rfl⟩ := okWide_slice Try.underlying25 hv
  obtain ⟨fuel, hf⟩ := h
  rcases Go.Deep.open_int_rows Try.underlying25 Try.underlying26 Try.underlying5 cellsW27 cells5 hf with ⟨hcs, hx⟩ | ⟨a, len', cap', A, L, C, Z, hcs, _, hl, hm, hx, hrow⟩
  · simp [Value.cells] at hcs
    obtain ⟨rfl, rfl, rfl⟩ := hcs
    exact ⟨[], none, 0, rfl, by simp, fun k hk => by cases hk⟩
  · simp [Value.cells] at hcs
    obtain ⟨rfl, rfl, rfl⟩ := hcs
    simp only [Prod.mk.injEq] at hx
    obtain ⟨rfl, rfl⟩ := hx
    have hreach := sized_slice hsz ht hd Try.underlying25
    rw [bytesW27] at hreach
    simp only [List.length_map, List.length_range, reachBytes] at hreach
    have hin : ∀ r, r < len → C r ≤ 140737488351232 := by
      intro r hr
      obtain ⟨_, h2, _, h4, _, h6, _⟩ := hrow r (by omega)
      cases hA : A r with
      | none => have := h6 hA; omega
      | some a' =>
        have hmem : (Go.Deep.intRow (H := H) .u8 (A r) (L r) (Z r)) ∈ (List.range len).map fun r => Go.Deep.intRow (H := H) .u8 (A r) (L r) (Z r) := List.mem_map.2 ⟨r, List.mem_range.2 hr, rfl⟩
        have hwt : (((lits (H := H) .u8 ((Z r).take (L r))).length + (lits (H := H) .u8 ((Z r).drop (L r))).length) * Try.prog.bytesOf 5) ∈ (Go.Deep.intRow (H := H) .u8 (A r) (L r) (Z r)).weights Try.prog 26 := by
          rw [hA]
          simp [Go.Deep.intRow, DataW.weights, Try.underlying26]
        have h7 := weightsAll_memW hmem hwt
        have h8 := List.all_eq_true.1 hsz _ (DataW.weights_mem_each ht hd _ (by
          simp only [DataW.weights, Try.underlying25]
          exact List.mem_cons_of_mem _ (List.mem_append_left _ h7)))
        rw [bytes5] at h8
        simp only [lits, List.length_map, List.length_take, List.length_drop, reachBytes, decide_eq_true_eq] at h8
        omega
    have hlen : ((List.range len).map fun r => ((Z r).take (L r)).map (BitVec.ofInt 8)).length = len := by simp
    refine ⟨(List.range len).map fun r => ((Z r).take (L r)).map (BitVec.ofInt 8), some a, cap, by rw [hlen], by rw [hlen]; omega, fun r hr => ?_⟩
    rw [hlen] at hr
    obtain ⟨b, off, spot⟩ := a
    have hspot : spot = none := by simpa [Addr.add] using World.cell?_spot (hrow 0 (by omega)).1
    subst hspot
    obtain ⟨h1, h2, h3, h4, h5, h6, h7⟩ := hrow r (by omega)
    rw [add_plain] at h1
    refine ⟨b, off, _, rfl, h1, ?_⟩
    have eg : ((List.range len).map fun r => ((Z r).take (L r)).map (BitVec.ofInt 8)).getD r [] = ((Z r).take (L r)).map (BitVec.ofInt 8) := by simp [List.getD, hr]
    rw [eg]
    exact row_bytesW (A r) (L r) (C r) (Z r) h2 h4 (hin r hr) h5 h6 (fun a' ha => (h7 a' ha).2)
end

set_option maxRecDepth 100000 in
theorem wireWrites_lifted (os : Os) (started : os.Started) (H : Type) (enc : TypeId × Value → H) :
    ReturnsInHanded {} Try.checked os 3 .any (Rows.wireWritesSpec.pre6 enc Try.prog Try.f3 Rows.wireWritesRow.domain false) (Rows.wireWritesSpec.post enc Try.prog Try.f3 false true false false) := by
  refine returnsInHanded_of_change_sized (C := Try.checked) own started (by kernel_rfl) Try.func3
    (ChangeSpec.witness6 (enc := enc) (C := Try.checked) false ⟨#[], #[.slice none 0 0, .slice none 0 0, .slice none 0 0, .slice none 0 0], []⟩ 8 (by kernel_rfl) (by kernel_rfl) (by kernel_rfl) (by kernel_rfl)) ?_
  intro W base args ds gs before hval0 hW _ hsz0 _
  have hsz : (DataW.weightsEach Try.prog (Try.f3.params.toList ++ Rows.wireWritesSpec.plain.varTypes Try.prog) (ds ++ gs)).all (· ≤ reachBytes) = true := hsz0
  clear hsz0
  have hval : ∀ (j : Nat) t v, Try.f3.params[j]? = some t → args[j]? = some v → Value.okWide Try.prog W .any base t v := hval0
  have hW' := hW
  obtain ⟨p, q, hA0, hV, rfl, hfz, hnd⟩ := hW
  have hA : DataW.TrodAll enc Try.prog W 0 (fun _ => true) true Try.f3.params.toList args.toList ds p := hA0
  have hlt : ∀ x ∈ p, x.block < W.heap.size := fun x hx => by simpa using hW'.lt x (by simp [hx])
  have hAs := fun (W' : World) (hb : Below W.heap.size W W') => trodAll_below laidOut hb _ _ _ _ readableW3 hlt hA
  rw [Try.params3] at hA hval hsz
  obtain ⟨v0, v1, v2, v3, d0, d1, d2, d3, p0, p1, p2, p3, rfl, rfl, rfl, h0, h1, h2, h3⟩ := trodAll_four hA
  obtain ⟨rfl, rfl⟩ := trodVars_none hV
  obtain ⟨l0, A0, c0, rfl, b0, g0⟩ := nums_openW h0 (hval 0 22 v0 rfl rfl) hsz 0 rfl rfl
  obtain ⟨l1, A1, c1, rfl, b1, g1⟩ := flags_openW h1 (hval 1 23 v1 rfl rfl) hsz 1 rfl rfl
  obtain ⟨l2, A2, c2, rfl, b2, s2, g2⟩ := txts_openW h2 (hval 2 24 v2 rfl rfl) hsz 2 rfl rfl
  obtain ⟨l3, A3, c3, rfl, b3, g3⟩ := rows_openW h3 (hval 3 25 v3 rfl rfl) hsz 3 rfl rfl
  clear hA0 hval0
  refine (wireWrites_w W l0 l1 l2 l3 A0 A1 A2 A3 c0 c1 c2 c3 ⟨g0, g1, g2, g3⟩ b0 b1 b2 b3 s2).mono fun e W' ⟨he, hbe⟩ => ?_
  subst he
  exact ⟨_, rfl, _, _, _, [], _, [], hW', trodAll_mk1 (shut_bool Try.underlying4 _), hAs W' hbe, rfl, hbe.frame _, fun h => by cases h⟩

theorem wireWrites_proved : Rows.WireWritesSaid :=
  OpenClaim.holds_of_wide 3 Try.f3 rfl rfl rfl rfl rfl rfl rfl ⟨rfl, rfl, rfl, rfl, rfl⟩ rfl rfl rfl rfl rfl (by kernel_rfl) Try.func3 (by kernel_rfl)
    (of_decide_eq_true (by kernel_rfl)) (by unfold Func.isWrapper; first | (rw [if_pos (by decide +kernel)]; kernel_rfl) | (rw [if_neg (by decide +kernel)]; exact ⟨rfl, rfl⟩))
    (fun os started H enc _ => wireWrites_lifted os started H enc)
end Go.Proofs.Ytolfdncmlfnbdaa
