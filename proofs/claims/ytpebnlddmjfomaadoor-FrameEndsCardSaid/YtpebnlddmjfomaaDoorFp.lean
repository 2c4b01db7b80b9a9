/- How arguments are opened: bytes, rows of frames; what the laid table gives. -/
import Derived.Test.YtpebnlddmjfomaaDoorFa
import Derived.Test.YtpebnlddmjfomaaDoorFo
import Derived.Test.YtpebnlddmjfomaaDoorTie
import Derived.Test.YtpebnlddmjfomaaDoorCards
import Derived.ProofKit
import Derived.LaidMore
import Derived.OpenShut
import Derived.Stop.Joined
import Derived.SizedLaws
import Derived.SevenTiedAt
import Derived.Deep.Slices
namespace Go.Proofs.YtpebnlddmjfomaaDoor
open Go.ChangeShapes Go.WideShapes Go.ChangeAt Go.RowKit
theorem own : ownKnob Tryd.prog.godebug = none := by kernel_rfl
theorem laidOut : laidOutB Tryd.prog = true := by kernel_rfl
theorem gSteps : Tryd.prog.globalNamed "watershed/sum.steps" = some 0 := by kernel_rfl
theorem tSteps : (Tryd.prog.globals[0]?).map (·.type) = some 213 := by kernel_rfl
def steps0 {H : Type} : List (DataW H) := tabL.map fun v => .lit (.int .u32 (u v))
theorem steps_eq {H : Type} : (Rows.laid_watershed_sum_steps : DataW H) = .agg steps0 := by kernel_rfl
theorem c51 : Tryd.prog.cellsOf 51 = 1 := by kernel_rfl
theorem c213 : Tryd.prog.cellsOf 213 = 16 := by kernel_rfl

theorem steps_get {H : Type} (k : Nat) (hk : k < 16) : (steps0 (H := H))[k]? = some (.lit (.int .u32 (u (T k)))) := by
  have hl : k < tabL.length := hk
  simp [steps0, T, List.getElem?_eq_getElem hl]

theorem tab_of_laid {W : World} (h : laidMetH Tryd.prog [("watershed/sum.steps", Rows.laid_watershed_sum_steps)] W) : Tab W := by
  rw [MakeChecks.laidMetH_plain _ _ _ (by kernel_rfl)] at h
  obtain ⟨ps, ⟨g0, t0, cs0, f0, p0, q0, hg0, ht0, hv0, hd0, _⟩, _⟩ := h
  obtain rfl := Option.some.inj (gSteps.symm.trans hg0)
  obtain rfl := Option.some.inj (tSteps.symm.trans ht0)
  obtain ⟨xs, m1, rfl, hx1, hlen, hn, hel⟩ := DataW.trod_array Tryd.underlying213 hd0
  rw [steps_eq] at hx1
  simp only [Prod.mk.injEq, DataW.agg.injEq] at hx1
  rw [c51] at hel
  rw [c213] at hlen
  intro k hk
  have hk1 := hel k hk
  have hkx : k < xs.length := by omega
  rw [List.getElem?_eq_getElem hkx] at hk1
  obtain ⟨n, e1, e2, _⟩ := DataW.trod_int Tryd.underlying51 hk1
  have hs := steps_get (H := Unit) k hk
  rw [hx1.1] at hs
  simp only [List.getElem?_map, List.getElem?_eq_getElem hkx, Option.map_some, Option.some.injEq] at hs
  rw [e2] at hs
  simp only [DataW.lit.injEq, Lit.int.injEq, true_and] at hs
  subst hs
  have hc := World.var?_cell hg0 hv0 k
  have hck : cs0.toList[k]? = some (.int .u32 (u (T k))) := by
    have := congrArg (fun l : List Value => l[0]?) e1
    simpa [List.getElem?_take, List.getElem?_drop] using this
  rw [hc]
  simpa using hck

theorem door_met (os : Os) (args : Array Value) : laidMetH Tryd.prog [("watershed/sum.steps", Rows.laid_watershed_sum_steps)] ((World.doorLaid Tryd.prog 400 os).forCall (fun _ _ => 0) ⟨#[], args, []⟩).memory :=
  laidMetH_of_parts3 (fuel := 8) (laidMet_of_run' 8 (by kernel_rfl) (by kernel_rfl)) (by kernel_rfl) (by kernel_rfl)

theorem trodAll_below {H : Type} {enc : TypeId × Value → H} {P : Program} (hl : laidOutB P = true) {W W' : World} (hb : Below W.heap.size W W') :
    ∀ (ts : List TypeId) (vs : List Value) (ds : List (DataW H)) (ps : List MemPlace), (∀ t ∈ ts, P.readableRec t = true ∧ t < P.types.size) → (∀ x ∈ ps, x.block < W.heap.size) →
      DataW.TrodAll enc P W 0 (fun _ => true) true ts vs ds ps → DataW.TrodAll enc P W' 0 (fun b => decide (b < W.heap.size)) true ts vs ds ps := by
  intro ts
  induction ts with
  | nil =>
    intro vs ds ps _ _ h
    cases vs <;> cases ds <;> first | exact h | cases h
  | cons t ts ih =>
    intro vs ds ps ht hp h
    obtain ⟨v, vs', d, ds', p, q, rfl, rfl, rfl, h0, h1⟩ := trodAll_cons h
    exact trodAll_cons_mk (Below.trod hl (ht t (by simp)).1 (ht t (by simp)).2 h0 hb (fun x hx => hp x (by simp [hx]))) (ih vs' ds' q (fun t' h' => ht t' (by simp [h'])) (fun x hx => hp x (by simp [hx])) h1)

theorem cells5 : Tryd.prog.cellsOf 5 = 1 := by kernel_rfl
theorem bytes5 : Tryd.prog.bytesOf 5 = 1 := by kernel_rfl

theorem wf_u8 {n : Int} (h : (Lit.int .u8 n).wf = true) : 0 ≤ n ∧ n ≤ 255 := by
  have h1 : IntKind.u8.min = 0 := rfl
  have h2 : IntKind.u8.max = 255 := rfl
  simp only [Lit.wf, Bool.and_eq_true, decide_eq_true_eq] at h
  omega
theorem wf_u32 {n : Int} (h : (Lit.int .u32 n).wf = true) : ∃ v : B32, n = u v := by
  have h1 : IntKind.u32.min = 0 := rfl
  have h2 : IntKind.u32.max = 4294967295 := rfl
  simp only [Lit.wf, Bool.and_eq_true, decide_eq_true_eq] at h
  refine ⟨BitVec.ofInt 32 n, ?_⟩
  obtain ⟨k, rfl⟩ := Int.eq_ofNat_of_zero_le (show 0 ≤ n by omega)
  rw [BitVec.ofInt_natCast, u, BitVec.toNat_ofNat]; omega
theorem wf_i64 {n : Int} (h : (Lit.int .i64 n).wf = true) : -9223372036854775808 ≤ n ∧ n ≤ 9223372036854775807 := by
  have h1 : IntKind.i64.min = -9223372036854775808 := rfl
  have h2 : IntKind.i64.max = 9223372036854775807 := rfl
  simp only [Lit.wf, Bool.and_eq_true, decide_eq_true_eq] at h
  omega
theorem ub_of {n : Int} (h : 0 ≤ n ∧ n ≤ 255) : ub (BitVec.ofInt 8 n) = n := by
  obtain ⟨k, rfl⟩ := Int.eq_ofNat_of_zero_le h.1
  rw [BitVec.ofInt_natCast, ub, BitVec.toNat_ofNat]; omega

theorem weightsAll_mem {H : Type} {P : Program} {e : TypeId} {d : DataW H} {n : Nat} : ∀ {l : List (DataW H)}, d ∈ l → n ∈ d.weights P e → n ∈ DataW.weightsAll P e l
  | x :: l, hd, hn => by
    rw [DataW.weightsAll, List.mem_append]
    rcases List.mem_cons.1 hd with rfl | hd
    · exact .inl hn
    · exact .inr (weightsAll_mem hd hn)

theorem add_off (b o i : Nat) : (⟨b, o, none⟩ : Addr).add i = ⟨b, o + i, none⟩ := by unfold Addr.add; split <;> simp_all
theorem bytes_core {H : Type} {enc : TypeId × Value → H} {W : World} {n : Nat} {v : Value} {y : DataW H × List MemPlace} (h : DataW.trod enc Tryd.prog W 0 (fun _ => true) true n 23 [v] = some y)
    (hsz : ∀ elems spare, y.1 = .slice elems spare → (elems.length + spare.length) * 1 ≤ reachBytes) : ∃ xs, BytesIn W v xs := by
  rcases open_ints Tryd.underlying23 Tryd.underlying5 cells5 h with ⟨hcs, hx⟩ | ⟨a, len, cap, zs, hcs, _, hl, hm, hz, hx, hcell, hwz⟩
  · simp at hcs
    subst hcs
    exact ⟨[], BytesIn.nil _⟩
  · simp at hcs
    subst hcs
    simp only [if_true] at hz
    have hreach : len ≤ 140737488351232 := by
      have := hsz _ _ (by rw [hx])
      simp only [lits, List.length_map, List.length_take, List.length_drop, reachBytes] at this
      omega
    refine ⟨(zs.take len).map (BitVec.ofInt 8), ?_⟩
    have hlen : ((zs.take len).map (BitVec.ofInt 8)).length = len := by simp; omega
    by_cases h0 : len = 0
    · subst h0
      exact .inl ⟨by simp, _, _, rfl, fun e => by cases e⟩
    · obtain ⟨b, off, spot⟩ := a
      have hspot : spot = none := by simpa [Addr.add] using World.cell?_spot (hcell 0 (by omega))
      subst hspot
      refine .inr ⟨b, off, cap, by rw [hlen], by rw [hlen]; exact hl, by rw [hlen]; omega, fun i hi => ?_⟩
      rw [hlen] at hi
      have e : (⟨b, off, none⟩ : Addr).add i = ⟨b, off + i, none⟩ := by unfold Addr.add; split <;> simp_all
      have hc := hcell i (by omega)
      rw [e] at hc
      rw [hc]
      have hg : zs.getD i 0 = zs[i]'(by omega) := by simp [show i < zs.length by omega]
      have hw := wf_u8 (hwz _ (List.getElem_mem (show i < zs.length by omega)))
      rw [hg]
      have e2 : ((zs.take len).map (BitVec.ofInt 8)).getD i 0#8 = BitVec.ofInt 8 (zs[i]'(by omega)) := by
        simp [List.getD, hi, show i < zs.length by omega]
      rw [e2, ub_of hw]

theorem cells28 : Tryd.prog.cellsOf 28 = 2 := by kernel_rfl
theorem cells23 : Tryd.prog.cellsOf 23 = 1 := by kernel_rfl
theorem cells3 : Tryd.prog.cellsOf 3 = 1 := by kernel_rfl
set_option maxRecDepth 100000 in
theorem bytes_open {H : Type} {enc : TypeId × Value → H} {W : World} {ts : List TypeId} {ds : List (DataW H)} {v : Value} {d : DataW H} {p : List MemPlace} {base : Nat}
    (h : DataW.Trod enc Tryd.prog W 0 (fun _ => true) true 23 v d p) (hv : Value.okWide Tryd.prog W .any base 23 v)
    (hsz : (DataW.weightsEach Tryd.prog ts ds).all (· ≤ reachBytes) = true) (j : Nat) (ht : ts[j]? = some 23) (hd : ds[j]? = some d) : ∃ xs, BytesIn W v xs := by
  obtain ⟨a0, len, cap, rfl⟩ := okWide_slice Tryd.underlying23 hv
  obtain ⟨fuel, hf⟩ := h
  refine bytes_core (y := (d, p)) (by simpa [Value.cells] using hf) fun elems spare he => ?_
  have := sized_slice hsz ht (hd.trans (by rw [← he])) Tryd.underlying23
  rwa [bytes5] at this
theorem list2 {α : Type} {l : List α} (h : l.length = 2) : ∃ a b, l = [a, b] := by
  match l, h with
  | [a, b], _ => exact ⟨a, b, rfl⟩
set_option maxRecDepth 100000 in
theorem weights_slice {H : Type} (es sp : List (DataW H)) : (es.length + sp.length) * 1 ∈ (DataW.slice es sp).weights Tryd.prog 23 := by
  simp only [DataW.weights, Tryd.underlying23, bytes5]
  exact List.mem_cons_self ..
set_option maxRecDepth 100000 in
/-- One frame, out of its two cells. -/
theorem frame_open {H : Type} {enc : TypeId × Value → H} {W : World} {fuel : Nat} {cs : List Value} {x : DataW H × List MemPlace}
    (h : DataW.trod enc Tryd.prog W 0 (fun _ => true) true fuel 28 cs = some x) (hsz : ∀ n ∈ x.1.weights Tryd.prog 28, n ≤ reachBytes) : ∃ (f : Fr) (v : Value), cs = [.int .i64 f.kind, v] ∧ BytesIn W v f.data := by
  obtain ⟨xs, k, _, hdd, hl, hxl, hf⟩ := DataW.trod_struct Tryd.underlying28 h
  rw [cells28] at hl
  obtain ⟨v0, v1, rfl⟩ := list2 hl
  have hx : xs.length = 2 := hxl
  match xs, hx with
  | [y0, y1], _ =>
    have g0 := hf 0 _ rfl
    have g1 := hf 1 _ rfl
    simp [cells3, cells23] at g0 g1
    obtain ⟨z0, e0, _⟩ := DataW.trod_int Tryd.underlying3 g0
    simp only [List.cons.injEq, and_true] at e0
    obtain ⟨ys, hy⟩ := bytes_core g1 fun elems spare he => by
      refine hsz _ ?_
      subst hdd
      rw [DataW.weights, Tryd.underlying28]
      exact DataW.weights_mem_each (j := 1) (t := 23) rfl (by simp [he]) _ (weights_slice elems spare)
    exact ⟨⟨z0, ys⟩, v1, by rw [e0], hy⟩
set_option maxRecDepth 100000 in
theorem frames_open {H : Type} {enc : TypeId × Value → H} {W : World} {ts : List TypeId} {ds : List (DataW H)} {v : Value} {d : DataW H} {p : List MemPlace} {base : Nat}
    (h : DataW.Trod enc Tryd.prog W 0 (fun _ => true) true 22 v d p) (hv : Value.okWide Tryd.prog W .any base 22 v)
    (hsz : (DataW.weightsEach Tryd.prog ts ds).all (· ≤ reachBytes) = true) (j : Nat) (ht : ts[j]? = some 22) (hd : ds[j]? = some d) :
    ∃ A c l, v = .slice A l.length c ∧ (A = none → c = 0) ∧ l.length ≤ c ∧ FramesAt W A l := by
  obtain ⟨a0, n0, c0, rfl⟩ := okWide_slice Tryd.underlying22 hv
  obtain ⟨fuel, hf⟩ := h
  rcases Deep.open_slice Tryd.underlying22 hf with ⟨hcs, _⟩ | ⟨a, len, cap, m, q, D, Pl, hcs, _, hl, _, hm, hdd, hel⟩
  · simp [Value.cells] at hcs
    obtain ⟨rfl, rfl, rfl⟩ := hcs
    exact ⟨none, 0, [], rfl, fun _ => rfl, Nat.le_refl _, fun j hj => absurd hj (Nat.not_lt_zero _)⟩
  · simp [Value.cells] at hcs
    obtain ⟨rfl, rfl, rfl⟩ := hcs
    simp only [if_true] at hm
    subst hm
    rw [cells28] at hel
    simp only [Prod.mk.injEq] at hdd
    obtain ⟨rfl, -⟩ := hdd
    have each : ∀ i, i < n0 → ∃ (f : Fr) (v : Value), BytesIn W v f.data ∧ W.cell? ((a.add (i * 2)).add 0) = some (.int .i64 f.kind) ∧ W.cell? ((a.add (i * 2)).add 1) = some v := fun i hi => by
      obtain ⟨cs', hcs', hd'⟩ := hel i (by omega)
      have hmem : D i ∈ (List.range n0).map D := List.mem_map.2 ⟨i, List.mem_range.2 hi, rfl⟩
      obtain ⟨f, v, rfl, hb⟩ := frame_open hd' fun n hn => by
        have h7 := weightsAll_mem hmem hn
        have h8 := List.all_eq_true.1 hsz _ (DataW.weights_mem_each ht hd _ (by
          simp only [DataW.weights, Tryd.underlying22]
          exact List.mem_cons_of_mem _ (List.mem_append_left _ h7)))
        simpa using h8
      obtain ⟨_, _, hcell⟩ := World.cells?_some hcs'
      exact ⟨f, v, hb, by rw [hcell 0 (by simp)]; rfl, by rw [hcell 1 (by simp)]; rfl⟩
    have hsp : 0 < n0 → a.spot = none := fun h0 => by
      obtain ⟨f, v, _, hy, _⟩ := each 0 h0
      simpa [Addr.add] using World.cell?_spot hy
    obtain ⟨f, hff⟩ : ∃ f : Nat → Fr, ∀ i, i < n0 → ∃ v : Value, BytesIn W v (f i).data ∧ W.cell? ((a.add (i * 2)).add 0) = some (.int .i64 (f i).kind) ∧ W.cell? ((a.add (i * 2)).add 1) = some v :=
      ⟨fun i => if h : i < n0 then (each i h).choose else ⟨0, []⟩, fun i hi => by simp only [dif_pos hi]; exact (each i hi).choose_spec⟩
    have eAt : ∀ j, j < n0 → atF ((List.range n0).map f) j = f j := fun j hj => by simp [atF, hj]
    refine ⟨some a, m, (List.range n0).map f, by simp, (fun e => by cases e), by simpa using hl, fun j hj => ?_⟩
    have hj0 : j < n0 := by simpa using hj
    obtain ⟨b, off, spot⟩ := a
    obtain rfl : spot = none := hsp (by omega)
    obtain ⟨v, hb, d0, d1⟩ := hff j hj0
    rw [add_off, add_off] at d0 d1
    rw [eAt j hj0]
    exact ⟨b, off, rfl, d0, v, d1, hb⟩
end Go.Proofs.YtpebnlddmjfomaaDoor
