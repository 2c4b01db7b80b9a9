/- Rows of deeds that came in are opened; proved: the law DiskCrash of layer 7 returns true of any size, any deeds and any two numbers, and leaves what was there as it was (no condition). -/
import Derived.Test.YtfchjdhjbepocaaNm
import Derived.Test.YtfchjdhjbepocaaMu
import Derived.Deep.Slices
namespace Go.Proofs.Ytfchjdhjbepocaa
open Go.ChangeShapes Go.WideShapes Go.ChangeAt Go.RowKit

theorem cellsD : Try.prog.cellsOf 38 = 5 := by kernel_rfl
theorem bytesD : Try.prog.bytesOf 38 = 80 := by kernel_rfl
theorem cellsT35 : Try.prog.cellsOf 35 = 1 := by kernel_rfl
theorem cellsR36 : Try.prog.cellsOf 36 = 1 := by kernel_rfl
theorem list5 {α : Type} {l : List α} (h : l.length = 5) : ∃ a b c d e, l = [a, b, c, d, e] := by
  match l, h with
  | [a, b, c, d, e], _ => exact ⟨a, b, c, d, e, rfl⟩
section
variable {H : Type} {enc : TypeId × Value → H} {W : World} {fuel : Nat} {v : Value} {y : DataW H × List MemPlace}
set_option maxRecDepth 100000 in
theorem txts_core (hf : DataW.trod enc Try.prog W 0 (fun _ => true) true fuel 35 [v] = some y) (hwt : ∀ n ∈ y.1.weights Try.prog 35, n ≤ reachBytes) :
    ∃ (l : List ByteArray) (A : Option Addr) (c : Nat), v = .slice A l.length c ∧ l.length ≤ 140737488351232 ∧ (∀ k, k < l.length → (l.getD k { data := #[] }).size ≤ 140737488351232) ∧
      ∀ k, k < l.length → ∃ b o, A = some ⟨b, o, none⟩ ∧ W.cell? ⟨b, o + k, none⟩ = some (.string (l.getD k { data := #[] })) := by
  have ht : ([35] : List TypeId)[0]? = some 35 := rfl
  have hd : [y.1][0]? = some y.1 := rfl
  have hsz : (DataW.weightsEach Try.prog [35] [y.1]).all (· ≤ reachBytes) = true := List.all_eq_true.2 fun n hn => decide_eq_true (hwt n (by simpa [DataW.weightsEach] using hn))
  clear hwt
  rcases open_strings Try.underlying35 Try.underlying9 cellsW9 hf with ⟨hcs, hx⟩ | ⟨a, len, cap, ss, hcs, _, hl, hm, hz, hx, hcell, hsm⟩
  · simp at hcs
    subst hcs
    exact ⟨[], none, 0, rfl, by simp, (fun k hk => by cases hk), fun k hk => by cases hk⟩
  · simp at hcs
    subst hcs
    subst hx
    simp only [if_true] at hz
    have hreach := sized_slice hsz ht hd Try.underlying35
    rw [bytesW9] at hreach
    simp only [strs, List.length_map, List.length_take, List.length_drop, reachBytes] at hreach
    have hlen : (ss.take len).length = len := by simp; omega
    refine ⟨ss.take len, some a, cap, by rw [hlen], by rw [hlen]; omega, fun k hk => ?_, fun k hk => ?_⟩
    · rw [hlen] at hk
      have hk2 : k < ss.length := by omega
      have e : (ss.take len).getD k { data := #[] } = ss[k] := by simp [List.getD, hk, hk2]
      rw [e]
      have hmem : (DataW.lit (.string ss[k].data.toList) : DataW H) ∈ strs (H := H) (ss.take len) := by
        unfold strs
        exact List.mem_map.2 ⟨ss[k], List.mem_take_iff_getElem.2 ⟨k, by omega, rfl⟩, rfl⟩
      have hwt : ss[k].data.toList.length ∈ (DataW.lit (.string ss[k].data.toList) : DataW H).weights Try.prog 9 := by simp [DataW.weights]
      have h8 := List.all_eq_true.1 hsz _ (DataW.weights_mem_each ht hd _ (by
        simp only [DataW.weights, Try.underlying35]
        exact List.mem_cons_of_mem _ (List.mem_append_left _ (weightsAll_memW hmem hwt))))
      have h9 : ss[k].data.toList.length ≤ reachBytes := of_decide_eq_true h8
      have h10 : ss[k].size = ss[k].data.toList.length := rfl
      rw [h10]
      exact h9
    · rw [hlen] at hk
      obtain ⟨b, off, spot⟩ := a
      have hspot : spot = none := by simpa [Addr.add] using World.cell?_spot (hcell 0 (by omega))
      subst hspot
      refine ⟨b, off, rfl, ?_⟩
      have hc := hcell k (by omega)
      rw [add_plain] at hc
      rw [hc]
      have hk2 : k < ss.length := by omega
      simp [List.getD, hk, hk2]

set_option maxRecDepth 100000 in
theorem rows_core (hf : DataW.trod enc Try.prog W 0 (fun _ => true) true fuel 36 [v] = some y) (hwt : ∀ n ∈ y.1.weights Try.prog 36, n ≤ reachBytes) :
    ∃ (l : List (List B8)) (A : Option Addr) (c : Nat), v = .slice A l.length c ∧ l.length ≤ 140737488351232 ∧
      ∀ k, k < l.length → ∃ b o V, A = some ⟨b, o, none⟩ ∧ W.cell? ⟨b, o + k, none⟩ = some V ∧ BytesIn W V (l.getD k []) := by
  have ht : ([36] : List TypeId)[0]? = some 36 := rfl
  have hd : [y.1][0]? = some y.1 := rfl
  have hsz : (DataW.weightsEach Try.prog [36] [y.1]).all (· ≤ reachBytes) = true := List.all_eq_true.2 fun n hn => decide_eq_true (hwt n (by simpa [DataW.weightsEach] using hn))
  clear hwt
  rcases Go.Deep.open_int_rows Try.underlying36 Try.underlying48 Try.underlying5 cellsW27 cells5 hf with ⟨hcs, hx⟩ | ⟨a, len, cap, A, L, C, Z, hcs, _, hl, hm, hx, hrow⟩
  · simp at hcs
    subst hcs
    exact ⟨[], none, 0, rfl, by simp, fun k hk => by cases hk⟩
  · simp at hcs
    subst hcs
    subst hx
    have hreach := sized_slice hsz ht hd Try.underlying36
    rw [bytesW27] at hreach
    simp only [List.length_map, List.length_range, reachBytes] at hreach
    have hin : ∀ r, r < len → C r ≤ 140737488351232 := by
      intro r hr
      obtain ⟨_, h2, _, h4, _, h6, _⟩ := hrow r (by omega)
      cases hA : A r with
      | none => have := h6 hA; omega
      | some a' =>
        have hmem : (Go.Deep.intRow (H := H) .u8 (A r) (L r) (Z r)) ∈ (List.range len).map fun r => Go.Deep.intRow (H := H) .u8 (A r) (L r) (Z r) := List.mem_map.2 ⟨r, List.mem_range.2 hr, rfl⟩
        have hwt : (((lits (H := H) .u8 ((Z r).take (L r))).length + (lits (H := H) .u8 ((Z r).drop (L r))).length) * Try.prog.bytesOf 5) ∈ (Go.Deep.intRow (H := H) .u8 (A r) (L r) (Z r)).weights Try.prog 48 := by
          rw [hA]
          simp [Go.Deep.intRow, DataW.weights, Try.underlying48]
        have h7 := weightsAll_memW hmem hwt
        have h8 := List.all_eq_true.1 hsz _ (DataW.weights_mem_each ht hd _ (by
          simp only [DataW.weights, Try.underlying36]
          exact List.mem_cons_of_mem _ (List.mem_append_left _ h7)))
        rw [bytes5] at h8
        simp only [lits, List.length_map, List.length_take, List.length_drop, reachBytes, decide_eq_true_eq] at h8
        omega
    have hlen : ((List.range len).map fun r => ((Z r).take (L r)).map (BitVec.ofInt 8)).length = len := by simp
    refine ⟨(List.range len).map fun r => ((Z r).take (L r)).map (BitVec.ofInt 8), some a, cap, by rw [hlen], by rw [hlen]; omega, fun r hr => ?_⟩
    rw [hlen] at hr
    obtain ⟨b, off, spot⟩ := a
    have hspot : spot = none := by simpa [Addr.add] using World.cell?_spot (hrow 0 (by omega)).1
    subst hspot
    obtain ⟨h1, h2, h3, h4, h5, h6, h7⟩ := hrow r (by omega)
    rw [add_plain] at h1
    refine ⟨b, off, _, rfl, h1, ?_⟩
    have eg : ((List.range len).map fun r => ((Z r).take (L r)).map (BitVec.ofInt 8)).getD r [] = ((Z r).take (L r)).map (BitVec.ofInt 8) := by simp [List.getD, hr]
    rw [eg]
    exact row_bytesW (A r) (L r) (C r) (Z r) h2 h4 (hin r hr) h5 h6 (fun a' ha => (h7 a' ha).2)
/-- One deed, out of its five cells. -/
structure DeedO (W : World) (vs : List Value) (d : Deed) (A2 : Option Addr) (c2 : Nat) (A4 : Option Addr) (c4 : Nat) : Prop where
  cells : vs = (dvals d A2 c2 A4 c4).toList
  ns : TxIn (fun b => W.heap.size ≤ b) W A2 d.names
  ps : PtIn (fun b => W.heap.size ≤ b) W A4 d.parts
  z1 : d.name.size ≤ 140737488355328
  z2 : d.names.length ≤ 140737488355328
  z3 : d.parts.length ≤ 140737488355328
  z4 : ∀ j, (txA d.names j).size ≤ 140737488355328
  z5 : ∀ j, (ptA d.parts j).length ≤ 140737488355328
  k1 : -9223372036854775808 ≤ d.num
  k2 : d.num ≤ 9223372036854775807
set_option maxRecDepth 100000 in
theorem deed_core {cs : List Value} (h : DataW.trod enc Try.prog W 0 (fun _ => true) true fuel 38 cs = some y) (hsz : ∀ n ∈ y.1.weights Try.prog 38, n ≤ reachBytes) :
    ∃ (d : Deed) (A2 : Option Addr) (c2 : Nat) (A4 : Option Addr) (c4 : Nat), DeedO W cs d A2 c2 A4 c4 := by
  obtain ⟨xs, k, _, hdd, hl, hxl, hf⟩ := DataW.trod_struct Try.underlying38 h
  rw [cellsD] at hl
  obtain ⟨v0, v1, v2, v3, v4, rfl⟩ := list5 hl
  have hx : xs.length = 5 := hxl
  match xs, hx with
  | [y0, y1, y2, y3, y4], _ =>
    have g0 := hf 0 _ rfl
    have g1 := hf 1 _ rfl
    have g2 := hf 2 _ rfl
    have g3 := hf 3 _ rfl
    have g4 := hf 4 _ rfl
    simp [cellsW3, cellsW9, cellsT35, cellsR36] at g0 g1 g2 g3 g4
    obtain ⟨z0, e0, _⟩ := DataW.trod_int Try.underlying3 g0
    obtain ⟨z3, e3, _, hw3⟩ := DataW.trod_int Try.underlying3 g3
    obtain ⟨s1, e1, hy1, hs1⟩ := DataW.trod_string Try.underlying9 g1
    simp only [List.cons.injEq, and_true] at e0 e1 e3
    have hsub : ∀ (j : Nat) (t : TypeId) (yy : DataW H × List MemPlace), ([3, 9, 35, 3, 36] : List TypeId)[j]? = some t → [y0.1, y1.1, y2.1, y3.1, y4.1][j]? = some yy.1 → ∀ n ∈ yy.1.weights Try.prog t, n ≤ reachBytes := fun j t yy ht hy n hn => hsz _ (by
      subst hdd
      rw [DataW.weights, Try.underlying38]
      exact DataW.weights_mem_each ht hy _ hn)
    obtain ⟨l2, A2, c2, e2, b2, sz2, i2⟩ := txts_core g2 (hsub 2 35 y2 rfl rfl)
    obtain ⟨l4, A4, c4, e4, b4, i4⟩ := rows_core g4 (hsub 4 36 y4 rfl rfl)
    have hs1' : s1.size ≤ 140737488351232 := by
      have := hsub 1 9 y1 rfl rfl s1.data.toList.length (by rw [hy1]; simp [DataW.weights])
      have h10 : s1.size = s1.data.toList.length := rfl
      rw [h10]
      exact this
    subst e0 e1 e2 e3 e4
    have hpt := pt_of_rows i4
    refine ⟨⟨z0, s1, l2, z3, l4⟩, A2, c2, A4, c4, rfl, fun j hj => ?_, hpt, Nat.le_trans hs1' (by decide), Nat.le_trans b2 (by decide), Nat.le_trans b4 (by decide), fun j => ?_, fun j => ?_, (wf_i64 hw3).1, (wf_i64 hw3).2⟩
    · obtain ⟨b, o, e, hc⟩ := i2 j hj
      exact ⟨b, o, e, fun q => by have h5 : b < W.heap.size := World.block_lt_of_cell? _ _ hc; omega, hc⟩
    · by_cases hj : j < l2.length
      · exact Nat.le_trans (sz2 j hj) (by decide)
      · have : txA l2 j = ByteArray.empty := by unfold txA; rw [List.getD_eq_getElem?_getD, List.getElem?_eq_none (by omega)]; rfl
        rw [show txA (Deed.mk z0 s1 l2 z3 l4).names j = txA l2 j from rfl, this]
        exact Nat.zero_le _
    · by_cases hj : j < l4.length
      · obtain ⟨b, o, V, e, hc, hb⟩ := i4 j hj
        obtain ⟨B, c, _, hm⟩ := hb.form
        exact Nat.le_trans hm (by decide)
      · have : ptA l4 j = [] := by unfold ptA; rw [List.getD_eq_getElem?_getD, List.getElem?_eq_none (by omega)]; rfl
        rw [show ptA (Deed.mk z0 s1 l2 z3 l4).parts j = ptA l4 j from rfl, this]
        exact Nat.zero_le _
set_option maxRecDepth 100000 in
theorem weights_deeds {H : Type} (es sp : List (DataW H)) : (es.length + sp.length) * 80 ∈ (DataW.slice es sp).weights Try.prog 22 := by
  simp only [DataW.weights, Try.underlying22, bytesD]
  exact List.mem_cons_self ..
set_option maxRecDepth 100000 in
theorem deeds_core (hf : DataW.trod enc Try.prog W 0 (fun _ => true) true fuel 22 [v] = some y) (hsz : ∀ n ∈ y.1.weights Try.prog 22, n ≤ reachBytes) :
    ∃ (A : Option Addr) (c : Nat) (l : List Deed), v = .slice A l.length c ∧ l.length ≤ 140737488355328 ∧ DeedsIn (fun b => W.heap.size ≤ b) W A l ∧ ∀ j, j < l.length → -9223372036854775808 ≤ (deA l j).num ∧ (deA l j).num ≤ 9223372036854775807 := by
  rcases Deep.open_slice Try.underlying22 hf with ⟨hcs, _⟩ | ⟨a, len, cap, m, q, D, Pl, hcs, _, hl, _, hm, hdd, hel⟩
  · simp at hcs
    subst hcs
    exact ⟨none, 0, [], rfl, Nat.zero_le _, fun j hj => absurd hj (Nat.not_lt_zero _), fun j hj => absurd hj (Nat.not_lt_zero _)⟩
  · simp at hcs
    subst hcs
    simp only [if_true] at hm
    subst hm
    rw [cellsD] at hel
    subst hdd
    have hreach : len ≤ 140737488355328 := by
      have := hsz _ (weights_deeds _ _)
      simp only [List.length_map, List.length_range, reachBytes] at this
      omega
    have each : ∀ i, i < len → ∃ x : Deed × (Option Addr × Nat) × (Option Addr × Nat), ∃ cs, DeedO W cs x.1 x.2.1.1 x.2.1.2 x.2.2.1 x.2.2.2 ∧ ∀ q, q < 5 → W.cell? ((a.add (i * 5)).add q) = cs[q]? := fun i hi => by
      obtain ⟨cs', hcs', hd'⟩ := hel i (by omega)
      have hmem : D i ∈ (List.range len).map D := List.mem_map.2 ⟨i, List.mem_range.2 hi, rfl⟩
      obtain ⟨d, A2, c2, A4, c4, hb⟩ := deed_core hd' fun n hn => by
        have h7 := weightsAll_memW hmem hn
        exact hsz _ (by
          simp only [DataW.weights, Try.underlying22]
          exact List.mem_cons_of_mem _ (List.mem_append_left _ h7))
      obtain ⟨_, _, hcell⟩ := World.cells?_some hcs'
      refine ⟨(d, (A2, c2), (A4, c4)), cs', hb, fun q hq => ?_⟩
      rw [hcell q hq]
    have hsp : 0 < len → a.spot = none := fun h0 => by
      obtain ⟨x, cs, hb, hy⟩ := each 0 h0
      have := hy 0 (by decide)
      rw [hb.cells] at this
      simpa [Addr.add] using World.cell?_spot this
    obtain ⟨f, hff⟩ : ∃ f : Nat → Deed × (Option Addr × Nat) × (Option Addr × Nat), ∀ i, i < len → ∃ cs, DeedO W cs (f i).1 (f i).2.1.1 (f i).2.1.2 (f i).2.2.1 (f i).2.2.2 ∧ ∀ q, q < 5 → W.cell? ((a.add (i * 5)).add q) = cs[q]? :=
      ⟨fun i => if h : i < len then (each i h).choose else (de0, (none, 0), (none, 0)), fun i hi => by simp only [dif_pos hi]; exact (each i hi).choose_spec⟩
    have eAt : ∀ j, j < len → deA ((List.range len).map fun i => (f i).1) j = (f j).1 := fun j hj => by simp [deA, hj]
    refine ⟨some a, m, (List.range len).map fun i => (f i).1, by simp, by simpa using hreach, fun j hj => ?_, fun j hj => ?_⟩
    · have hj0 : j < len := by simpa using hj
      obtain ⟨b, off, spot⟩ := a
      obtain rfl : spot = none := hsp (by omega)
      obtain ⟨cs, hb, hq⟩ := hff j hj0
      rw [eAt j hj0]
      generalize f j = x at *
      have hq' : ∀ q, q < 5 → W.cell? ⟨b, off + j * 5 + q, none⟩ = (dvals x.1 x.2.1.1 x.2.1.2 x.2.2.1 x.2.2.2).toList[q]? := fun q hq5 => by
        have := hq q hq5
        rw [add_plain, add_plain] at this
        rw [this, hb.cells]
      have h0 := hq' 0 (by decide)
      refine ⟨b, off, x.2.1.1, x.2.1.2, x.2.2.1, x.2.2.2, rfl, fun q => ?_, ⟨h0, hq' 1 (by decide), hq' 2 (by decide), hq' 3 (by decide), hq' 4 (by decide), hb.ns, hb.ps, hb.z1, hb.z2, hb.z3, hb.z4, hb.z5⟩⟩
      have h1 : b < W.heap.size := World.block_lt_of_cell? _ _ h0
      omega
    · have hj0 : j < len := by simpa using hj
      obtain ⟨cs, hb, _⟩ := hff j hj0
      rw [eAt j hj0]
      exact ⟨hb.k1, hb.k2⟩
end
theorem readable5 : ∀ t ∈ Try.f5.params.toList, Try.prog.readableRec t = true ∧ t < Try.prog.types.size := by
  rw [Try.params5]
  intro t ht
  have hall : ([3, 22, 3, 3].all fun t => Try.prog.readableRec t && decide (t < Try.prog.types.size)) = true := by kernel_rfl
  simpa using List.all_eq_true.1 hall t (by simpa using ht)
set_option maxRecDepth 100000 in
set_option maxHeartbeats 1000000 in
theorem diskCrash_lifted (os : Os) (started : os.Started) (H : Type) (enc : TypeId × Value → H) :
    ReturnsInHanded {} Try.checked os 5 .any (Rows.diskCrashSpec.pre6 enc Try.prog Try.f5 Rows.diskCrashRow.domain false) (Rows.diskCrashSpec.post enc Try.prog Try.f5 false true false false) := by
  refine returnsInHanded_of_change_sized (C := Try.checked) own started (by kernel_rfl) Try.func5
    (ChangeSpec.witness6 (enc := enc) (C := Try.checked) false ⟨#[], #[.int .i64 0, .slice none 0 0, .int .i64 0, .int .i64 0], []⟩ 8 (by kernel_rfl) (by kernel_rfl) (by kernel_rfl) (by kernel_rfl)) ?_
  intro W base args ds gs before hval0 hW _ hsz0 _
  have hsz : (DataW.weightsEach Try.prog (Try.f5.params.toList ++ Rows.diskCrashSpec.plain.varTypes Try.prog) (ds ++ gs)).all (· ≤ reachBytes) = true := hsz0
  clear hsz0
  have hval : ∀ (j : Nat) t v, Try.f5.params[j]? = some t → args[j]? = some v → Value.okWide Try.prog W .any base t v := hval0
  have hW' := hW
  obtain ⟨p, q, hA0, hV, rfl, hfz, hnd⟩ := hW
  have hA : DataW.TrodAll enc Try.prog W 0 (fun _ => true) true Try.f5.params.toList args.toList ds p := hA0
  have hlt : ∀ x ∈ p, x.block < W.heap.size := fun x hx => by simpa using hW'.lt x (by simp [hx])
  have hAs := fun (W' : World) (hb : Below W.heap.size W W') => trodAll_below laidOut hb _ _ _ _ readable5 hlt hA
  rw [Try.params5] at hA hval hsz
  obtain ⟨v0, v1, v2, v3, d0, d1, d2, d3, p0, p1, p2, p3, rfl, rfl, rfl, h0, h1, h2, h3⟩ := trodAll_four hA
  obtain ⟨rfl, rfl⟩ := trodVars_none hV
  obtain ⟨g0, rfl, -, -, hw0⟩ := open_int Try.underlying3 (hval 0 3 v0 rfl rfl) h0
  obtain ⟨a0, len0, cap0, rfl⟩ := okWide_slice Try.underlying22 (hval 1 22 v1 rfl rfl)
  obtain ⟨fuel1, hf1⟩ := h1
  obtain ⟨A, c, l, ev, hl, hd, hk⟩ := deeds_core (y := (d1, p1)) hf1 (fun n hn => of_decide_eq_true (List.all_eq_true.1 hsz _ (DataW.weights_mem_each (j := 1) (t := 22) rfl rfl _ hn)))
  simp only [Value.slice.injEq] at ev
  obtain ⟨rfl, rfl, rfl⟩ := ev
  obtain ⟨g2, rfl, -, -, hw2⟩ := open_int Try.underlying3 (hval 2 3 v2 rfl rfl) h2
  obtain ⟨g3, rfl, -, -, hw3⟩ := open_int Try.underlying3 (hval 3 3 v3 rfl rfl) h3
  clear hA0 hval0
  refine (crashes_w g0 a0 l.length cap0 l g2 g3 W rfl hl hd hk).mono fun e W' ⟨he, hbe⟩ => ?_
  subst he
  exact ⟨_, rfl, _, _, _, [], _, [], hW', trodAll_mk1 (shut_bool Try.underlying4 _), hAs W' hbe, rfl, hbe.frame _, fun h => by cases h⟩
theorem diskCrash_proved : Rows.DiskCrashSaid :=
  OpenClaim.holds_of_wide 5 Try.f5 rfl rfl rfl rfl rfl rfl rfl ⟨rfl, rfl, rfl, rfl, rfl⟩ rfl rfl rfl rfl rfl (by kernel_rfl) Try.func5 (by kernel_rfl)
    (of_decide_eq_true (by kernel_rfl)) (by unfold Func.isWrapper; first | (rw [if_pos (by decide +kernel)]; kernel_rfl) | (rw [if_neg (by decide +kernel)]; exact ⟨rfl, rfl⟩))
    (fun os started H enc _ => diskCrash_lifted os started H enc)
end Go.Proofs.Ytfchjdhjbepocaa
