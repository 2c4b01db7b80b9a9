/- How arguments that are rows of bytes, flags and texts are opened, and how arguments are shut behind a call that has turned nothing that was there. -/
import Derived.Test.YtfchjdhjbepocaaMt
import Derived.ProofKit
import Derived.OpenShut
import Derived.SizedLaws
import Derived.SliceStrings
import Derived.Deep.Grids
import Derived.Deep.Matrix
import Derived.Carry
namespace Go.Proofs.Ytfchjdhjbepocaa
open Go.ChangeShapes Go.WideShapes Go.ChangeAt Go.RowKit

theorem own : ownKnob Try.prog.godebug = none := by kernel_rfl
theorem laidOut : laidOutB Try.prog = true := by kernel_rfl
theorem trodAll_below {H : Type} {enc : TypeId × Value → H} {P : Program} (hl : laidOutB P = true) {W W' : World} (hb : Below W.heap.size W W') :
    ∀ (ts : List TypeId) (vs : List Value) (ds : List (DataW H)) (ps : List MemPlace), (∀ t ∈ ts, P.readableRec t = true ∧ t < P.types.size) → (∀ x ∈ ps, x.block < W.heap.size) →
      DataW.TrodAll enc P W 0 (fun _ => true) true ts vs ds ps → DataW.TrodAll enc P W' 0 (fun b => decide (b < W.heap.size)) true ts vs ds ps := by
  intro ts
  induction ts with
  | nil =>
    intro vs ds ps _ _ h
    cases vs <;> cases ds <;> first | exact h | cases h
  | cons t ts ih =>
    intro vs ds ps ht hp h
    obtain ⟨v, vs', d, ds', p, q, rfl, rfl, rfl, h0, h1⟩ := trodAll_cons h
    exact trodAll_cons_mk (Below.trod hl (ht t (by simp)).1 (ht t (by simp)).2 h0 hb (fun x hx => hp x (by simp [hx]))) (ih vs' ds' q (fun t' h' => ht t' (by simp [h'])) (fun x hx => hp x (by simp [hx])) h1)

theorem cells5 : Try.prog.cellsOf 5 = 1 := by kernel_rfl
theorem bytes5 : Try.prog.bytesOf 5 = 1 := by kernel_rfl

theorem wf_u8 {n : Int} (h : (Lit.int .u8 n).wf = true) : 0 ≤ n ∧ n ≤ 255 := by
  have h1 : IntKind.u8.min = 0 := rfl
  have h2 : IntKind.u8.max = 255 := rfl
  simp only [Lit.wf, Bool.and_eq_true, decide_eq_true_eq] at h
  omega
theorem wf_i64 {n : Int} (h : (Lit.int .i64 n).wf = true) : -9223372036854775808 ≤ n ∧ n ≤ 9223372036854775807 := by
  have h1 : IntKind.i64.min = -9223372036854775808 := rfl
  have h2 : IntKind.i64.max = 9223372036854775807 := rfl
  simp only [Lit.wf, Bool.and_eq_true, decide_eq_true_eq] at h
  omega
theorem ub_of {n : Int} (h : 0 ≤ n ∧ n ≤ 255) : ub (BitVec.ofInt 8 n) = n := by
  obtain ⟨k, rfl⟩ := Int.eq_ofNat_of_zero_le h.1
  rw [BitVec.ofInt_natCast, ub, BitVec.toNat_ofNat]; omega

theorem cellsW3 : Try.prog.cellsOf 3 = 1 := by kernel_rfl
theorem bytesW3 : Try.prog.bytesOf 3 = 8 := by kernel_rfl
theorem cellsW4 : Try.prog.cellsOf 4 = 1 := by kernel_rfl
theorem bytesW4 : Try.prog.bytesOf 4 = 1 := by kernel_rfl
theorem cellsW9 : Try.prog.cellsOf 9 = 1 := by kernel_rfl
theorem bytesW9 : Try.prog.bytesOf 9 = 16 := by kernel_rfl
theorem cellsW27 : Try.prog.cellsOf 48 = 1 := by kernel_rfl
theorem bytesW27 : Try.prog.bytesOf 48 = 24 := by kernel_rfl
theorem weightsAll_memW {H : Type} {P : Program} {e : TypeId} {d : DataW H} {n : Nat} : ∀ {l : List (DataW H)}, d ∈ l → n ∈ d.weights P e → n ∈ DataW.weightsAll P e l
  | x :: l, hd, hn => by
    rw [DataW.weightsAll, List.mem_append]
    rcases List.mem_cons.1 hd with rfl | hd
    · exact .inl hn
    · exact .inr (weightsAll_memW hd hn)
theorem add_plain (b off i : Nat) : (⟨b, off, none⟩ : Addr).add i = ⟨b, off + i, none⟩ := by unfold Addr.add; split <;> simp_all

section
variable {H : Type} {enc : TypeId × Value → H} {W : World} {ts : List TypeId} {ds : List (DataW H)} {v : Value} {d : DataW H} {p : List MemPlace} {base : Nat}
set_option maxRecDepth 100000 in
theorem flags_openW (h : DataW.Trod enc Try.prog W 0 (fun _ => true) true 70 v d p) (hv : Value.okWide Try.prog W .any base 70 v)
    (hsz : (DataW.weightsEach Try.prog ts ds).all (· ≤ reachBytes) = true) (j : Nat) (ht : ts[j]? = some 70) (hd : ds[j]? = some d) :
    ∃ (l : List Bool) (A : Option Addr) (c : Nat), v = .slice A l.length c ∧ l.length ≤ 140737488351232 ∧ ∀ k, k < l.length → ∃ b o, A = some ⟨b, o, none⟩ ∧ W.cell? ⟨b, o + k, none⟩ = some (.bool (l.getD k false)) := by
  obtain ⟨a0, len, cap, rfl⟩ := okWide_slice Try.underlying70 hv
  obtain ⟨fuel, hf⟩ := h
  rcases Go.Deep.open_bools Try.underlying70 Try.underlying4 cellsW4 hf with ⟨hcs, hx⟩ | ⟨a, len', cap', B, hcs, _, hl, hm, hx, hcell⟩
  · simp [Value.cells] at hcs
    obtain ⟨rfl, rfl, rfl⟩ := hcs
    exact ⟨[], none, 0, rfl, by simp, fun k hk => by cases hk⟩
  · simp [Value.cells] at hcs
    obtain ⟨rfl, rfl, rfl⟩ := hcs
    simp only [Prod.mk.injEq] at hx
    obtain ⟨rfl, rfl⟩ := hx
    have hreach := sized_slice hsz ht hd Try.underlying70
    rw [bytesW4] at hreach
    simp only [List.length_map, List.length_range, reachBytes] at hreach
    have hlen : ((List.range len).map B).length = len := by simp
    refine ⟨(List.range len).map B, some a, cap, by rw [hlen], by rw [hlen]; omega, fun k hk => ?_⟩
    rw [hlen] at hk
    obtain ⟨b, off, spot⟩ := a
    have hspot : spot = none := by simpa [Addr.add] using World.cell?_spot (hcell 0 (by omega))
    subst hspot
    refine ⟨b, off, rfl, ?_⟩
    have hc := hcell k (by omega)
    rw [add_plain] at hc
    rw [hc]
    simp [List.getD, hk]
set_option maxRecDepth 100000 in
theorem txts_openW (h : DataW.Trod enc Try.prog W 0 (fun _ => true) true 35 v d p) (hv : Value.okWide Try.prog W .any base 35 v)
    (hsz : (DataW.weightsEach Try.prog ts ds).all (· ≤ reachBytes) = true) (j : Nat) (ht : ts[j]? = some 35) (hd : ds[j]? = some d) :
    ∃ (l : List ByteArray) (A : Option Addr) (c : Nat), v = .slice A l.length c ∧ l.length ≤ 140737488351232 ∧ (∀ k, k < l.length → (l.getD k { data := #[] }).size ≤ 140737488351232) ∧
      ∀ k, k < l.length → ∃ b o, A = some ⟨b, o, none⟩ ∧ W.cell? ⟨b, o + k, none⟩ = some (.string (l.getD k { data := #[] })) := by
  obtain ⟨a0, len, cap, rfl⟩ := okWide_slice Try.underlying35 hv
  obtain ⟨fuel, hf⟩ := h
  rcases open_strings Try.underlying35 Try.underlying9 cellsW9 hf with ⟨hcs, hx⟩ | ⟨a, len', cap', ss, hcs, _, hl, hm, hz, hx, hcell, hsm⟩
  · simp [Value.cells] at hcs
    obtain ⟨rfl, rfl, rfl⟩ := hcs
    exact ⟨[], none, 0, rfl, by simp, (fun k hk => by cases hk), fun k hk => by cases hk⟩
  · simp [Value.cells] at hcs
    obtain ⟨rfl, rfl, rfl⟩ := hcs
    simp only [Prod.mk.injEq] at hx
    obtain ⟨rfl, rfl⟩ := hx
    simp only [if_true] at hz
    have hreach := sized_slice hsz ht hd Try.underlying35
    rw [bytesW9] at hreach
    simp only [strs, List.length_map, List.length_take, List.length_drop, reachBytes] at hreach
    have hlen : (ss.take len).length = len := by simp; omega
    refine ⟨ss.take len, some a, cap, by rw [hlen], by rw [hlen]; omega, fun k hk => ?_, fun k hk => ?_⟩
    · rw [hlen] at hk
      have hk2 : k < ss.length := by omega
      have e : (ss.take len).getD k { data := #[] } = ss[k] := by simp [List.getD, hk, hk2]
      rw [e]
      have hmem : (DataW.lit (.string ss[k].data.toList) : DataW H) ∈ strs (H := H) (ss.take len) := by
        unfold strs
        exact List.mem_map.2 ⟨ss[k], List.mem_take_iff_getElem.2 ⟨k, by omega, rfl⟩, rfl⟩
      have hwt : ss[k].data.toList.length ∈ (DataW.lit (.string ss[k].data.toList) : DataW H).weights Try.prog 9 := by simp [DataW.weights]
      have h8 := List.all_eq_true.1 hsz _ (DataW.weights_mem_each ht hd _ (by
        simp only [DataW.weights, Try.underlying35]
        exact List.mem_cons_of_mem _ (List.mem_append_left _ (weightsAll_memW hmem hwt))))
      have h9 : ss[k].data.toList.length ≤ reachBytes := of_decide_eq_true h8
      have h10 : ss[k].size = ss[k].data.toList.length := rfl
      rw [h10]
      exact h9
    · rw [hlen] at hk
      obtain ⟨b, off, spot⟩ := a
      have hspot : spot = none := by simpa [Addr.add] using World.cell?_spot (hcell 0 (by omega))
      subst hspot
      refine ⟨b, off, rfl, ?_⟩
      have hc := hcell k (by omega)
      rw [add_plain] at hc
      rw [hc]
      have hk2 : k < ss.length := by omega
      simp [List.getD, hk, hk2]

set_option maxRecDepth 100000 in
theorem row_bytesW (A : Option Addr) (L C : Nat) (Z : List Int) (hLC : L ≤ C) (hZ : Z.length = C) (hC : C ≤ 140737488351232) (hw : ∀ n ∈ Z, (Lit.int .u8 n).wf = true) (hA : A = none → C = 0)
    (hc : ∀ a', A = some a' → ∀ c, c < C → W.cell? (a'.add c) = some (.int .u8 (Z.getD c 0))) : BytesIn W (.slice A L C) ((Z.take L).map (BitVec.ofInt 8)) := by
  have hlen : ((Z.take L).map (BitVec.ofInt 8)).length = L := by simp; omega
  by_cases h0 : L = 0
  · subst h0
    exact .inl ⟨by simp, A, C, rfl, hA⟩
  · cases A with
    | none => have := hA rfl; omega
    | some a' =>
      obtain ⟨b, off, spot⟩ := a'
      have hc := hc _ rfl
      have hspot : spot = none := by simpa [Addr.add] using World.cell?_spot (hc 0 (by omega))
      subst hspot
      refine .inr ⟨b, off, C, by rw [hlen], by rw [hlen]; omega, by rw [hlen]; omega, fun i hi => ?_⟩
      rw [hlen] at hi
      have hci := hc i (by omega)
      rw [add_plain] at hci
      rw [hci]
      have hg : Z.getD i 0 = Z[i]'(by omega) := by simp [show i < Z.length by omega]
      have hwi := wf_u8 (hw _ (List.getElem_mem (show i < Z.length by omega)))
      rw [hg]
      have e2 : ((Z.take L).map (BitVec.ofInt 8)).getD i 0#8 = BitVec.ofInt 8 (Z[i]'(by omega)) := by
        simp [List.getD, hi, show i < Z.length by omega]
      rw [show (List.map (BitVec.ofInt 8) (List.take L Z)).getD i 0 = BitVec.ofInt 8 (Z[i]'(by omega)) from e2, ub_of hwi]
set_option maxRecDepth 100000 in
theorem rows_openW (h : DataW.Trod enc Try.prog W 0 (fun _ => true) true 36 v d p) (hv : Value.okWide Try.prog W .any base 36 v)
    (hsz : (DataW.weightsEach Try.prog ts ds).all (· ≤ reachBytes) = true) (j : Nat) (ht : ts[j]? = some 36) (hd : ds[j]? = some d) :
    ∃ (l : List (List B8)) (A : Option Addr) (c : Nat), v = .slice A l.length c ∧ l.length ≤ 140737488351232 ∧
      ∀ k, k < l.length → ∃ b o V, A = some ⟨b, o, none⟩ ∧ W.cell? ⟨b, o + k, none⟩ = some V ∧ BytesIn W V (l.getD k []) := by
  obtain ⟨a0, len, cap, rfl⟩ := okWide_slice Try.underlying36 hv
  obtain ⟨fuel, hf⟩ := h
  rcases Go.Deep.open_int_rows Try.underlying36 Try.underlying48 Try.underlying5 cellsW27 cells5 hf with ⟨hcs, hx⟩ | ⟨a, len', cap', A, L, C, Z, hcs, _, hl, hm, hx, hrow⟩
  · simp [Value.cells] at hcs
    obtain ⟨rfl, rfl, rfl⟩ := hcs
    exact ⟨[], none, 0, rfl, by simp, fun k hk => by cases hk⟩
  · simp [Value.cells] at hcs
    obtain ⟨rfl, rfl, rfl⟩ := hcs
    simp only [Prod.mk.injEq] at hx
    obtain ⟨rfl, rfl⟩ := hx
    have hreach := sized_slice hsz ht hd Try.underlying36
    rw [bytesW27] at hreach
    simp only [List.length_map, List.length_range, reachBytes] at hreach
    have hin : ∀ r, r < len → C r ≤ 140737488351232 := by
      intro r hr
      obtain ⟨_, h2, _, h4, _, h6, _⟩ := hrow r (by omega)
      cases hA : A r with
      | none => have := h6 hA; omega
      | some a' =>
        have hmem : (Go.Deep.intRow (H := H) .u8 (A r) (L r) (Z r)) ∈ (List.range len).map fun r => Go.Deep.intRow (H := H) .u8 (A r) (L r) (Z r) := List.mem_map.2 ⟨r, List.mem_range.2 hr, rfl⟩
        have hwt : (((lits (H := H) .u8 ((Z r).take (L r))).length + (lits (H := H) .u8 ((Z r).drop (L r))).length) * Try.prog.bytesOf 5) ∈ (Go.Deep.intRow (H := H) .u8 (A r) (L r) (Z r)).weights Try.prog 48 := by
          rw [hA]
          simp [Go.Deep.intRow, DataW.weights, Try.underlying48]
        have h7 := weightsAll_memW hmem hwt
        have h8 := List.all_eq_true.1 hsz _ (DataW.weights_mem_each ht hd _ (by
          simp only [DataW.weights, Try.underlying36]
          exact List.mem_cons_of_mem _ (List.mem_append_left _ h7)))
        rw [bytes5] at h8
        simp only [lits, List.length_map, List.length_take, List.length_drop, reachBytes, decide_eq_true_eq] at h8
        omega
    have hlen : ((List.range len).map fun r => ((Z r).take (L r)).map (BitVec.ofInt 8)).length = len := by simp
    refine ⟨(List.range len).map fun r => ((Z r).take (L r)).map (BitVec.ofInt 8), some a, cap, by rw [hlen], by rw [hlen]; omega, fun r hr => ?_⟩
    rw [hlen] at hr
    obtain ⟨b, off, spot⟩ := a
    have hspot : spot = none := by simpa [Addr.add] using World.cell?_spot (hrow 0 (by omega)).1
    subst hspot
    obtain ⟨h1, h2, h3, h4, h5, h6, h7⟩ := hrow r (by omega)
    rw [add_plain] at h1
    refine ⟨b, off, _, rfl, h1, ?_⟩
    have eg : ((List.range len).map fun r => ((Z r).take (L r)).map (BitVec.ofInt 8)).getD r [] = ((Z r).take (L r)).map (BitVec.ofInt 8) := by simp [List.getD, hr]
    rw [eg]
    exact row_bytesW (A r) (L r) (C r) (Z r) h2 h4 (hin r hr) h5 h6 (fun a' ha => (h7 a' ha).2)
end


theorem pt_of_rows {W : World} {A : Option Addr} {l : List (List B8)} (h : ∀ k, k < l.length → ∃ b o V, A = some ⟨b, o, none⟩ ∧ W.cell? ⟨b, o + k, none⟩ = some V ∧ BytesIn W V (l.getD k [])) : PtIn (fun b => W.heap.size ≤ b) W A l := fun j hj => by
  obtain ⟨b, o, V, e, hc, hb⟩ := h j hj
  obtain ⟨B, c, rfl, hm⟩ := hb.form
  refine ⟨b, o, B, _, c, e, fun q => by have := World.block_lt_of_cell? _ _ hc; simp only at this; omega, hc, rfl, hb, fun hne g eg q => ?_⟩
  rcases hb with ⟨h0, _⟩ | ⟨b', o', c', e2, hn, hm2, hcell⟩
  · exact hne h0
  · simp only [Value.slice.injEq] at e2
    obtain ⟨rfl, -, -⟩ := e2
    have h1 : 0 < (l.getD j []).length := List.length_pos_iff.2 hne
    have h2 : b' < W.heap.size := World.block_lt_of_cell? _ _ (hcell 0 h1)
    cases eg
    have h3 : W.heap.size ≤ b' := q
    omega
end Go.Proofs.Ytfchjdhjbepocaa
