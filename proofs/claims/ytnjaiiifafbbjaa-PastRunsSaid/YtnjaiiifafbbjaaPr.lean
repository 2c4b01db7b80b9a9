/- Proved: the law PastGrows of layer 17 returns true for any two rows of names and any number, and leaves what was there as it was (no condition). -/
import Derived.Test.YtnjaiiifafbbjaaPq
import Derived.Test.YtnjaiiifafbbjaaK
import Derived.Deep.SlicePairs
namespace Go.Proofs.Ytnjaiiifafbbjaa
open Go.ChangeShapes Go.WideShapes Go.ChangeAt Go.RowKit

theorem readable9 : ∀ t ∈ Try.f9.params.toList, Try.prog.readableRec t = true ∧ t < Try.prog.types.size := by
  rw [Try.params9]
  intro t ht
  have hall : ([89, 89, 3].all fun t => Try.prog.readableRec t && decide (t < Try.prog.types.size)) = true := by kernel_rfl
  simpa using List.all_eq_true.1 hall t (by simpa using ht)

theorem cells115 : Try.prog.cellsOf 115 = 2 := by kernel_rfl
theorem cells3 : Try.prog.cellsOf 3 = 1 := by kernel_rfl
theorem bytes115 : Try.prog.bytesOf 115 = 16 := by kernel_rfl
set_option maxRecDepth 100000 in
theorem slice_below {W : World} {base : Nat} {t e : TypeId} {a : Addr} {n c : Nat} (ht : Try.prog.underlying t = some (.slice e)) (h : Value.okWide Try.prog W .any base t (.slice (some a) n c)) : a.block < W.heap.size := by
  simp only [Value.okWide, ht, Cell.okWide, Cell.ok] at h
  obtain ⟨_, _, _, _, row, cells, hs, _⟩ := h
  unfold World.shape? at hs
  cases hh : W.heap[a.block]? with
  | none => simp [hh] at hs
  | some o => exact (Array.getElem?_eq_some_iff.1 hh).1
def intV : Value → Int
  | .int _ n => n
  | _ => 0
set_option maxRecDepth 100000 in
theorem names_open {H : Type} {enc : TypeId × Value → H} {W : World} {ts : List TypeId} {ds : List (DataW H)} {v : Value} {d : DataW H} {p : List MemPlace} {base : Nat}
    (h : DataW.Trod enc Try.prog W 0 (fun _ => true) true 89 v d p) (hv : Value.okWide Try.prog W .any base 89 v)
    (hsz : (DataW.weightsEach Try.prog ts ds).all (· ≤ reachBytes) = true) (j : Nat) (ht : ts[j]? = some 89) (hd : ds[j]? = some d) :
    ∃ A c xs, v = .slice A xs.length c ∧ xs.length ≤ c ∧ NamesAt W A xs ∧ (A = none → c = 0) ∧ (∀ b off, A = some ⟨b, off, none⟩ → b < W.heap.size) ∧ xs.length ≤ 140737488351232 := by
  obtain ⟨a0, len0, cap0, rfl⟩ := okWide_slice Try.underlying89 hv
  obtain ⟨fuel, hf⟩ := h
  rcases Deep.open_slice_pairs (x := (d, p)) Try.underlying89 Try.underlying115 cells115 rfl rfl cells3 cells3 (by simpa [Value.cells] using hf) with ⟨hcs, _⟩ | ⟨a, len, cap, m, n, V0, V1, D0, D1, P0, P1, hcs, _, hl, _, hm, hx, hcell⟩
  · simp at hcs
    obtain ⟨rfl, rfl, rfl⟩ := hcs
    exact ⟨none, 0, [], rfl, Nat.le_refl _, fun j hj => absurd hj (Nat.not_lt_zero _), fun _ => rfl, fun _ _ e => (by cases e), by simp⟩
  · simp at hcs
    obtain ⟨rfl, rfl, rfl⟩ := hcs
    simp only [if_true] at hm
    subst hm
    have hxl : ((List.range len0).map fun i => (⟨intV (V0 i), intV (V1 i)⟩ : Nm)).length = len0 := by simp
    have hreach : len0 ≤ 140737488351232 := by
      simp only [Prod.mk.injEq] at hx
      have hs := hsz
      have hd' := hd
      rw [hx.1] at hd'
      have := sized_slice hs ht hd' Try.underlying89
      rw [bytes115] at this
      simp only [List.length_map, List.length_range, reachBytes] at this
      omega
    refine ⟨some a, _, (List.range len0).map fun i => ⟨intV (V0 i), intV (V1 i)⟩, by rw [hxl], by rw [hxl]; exact hl, fun j hj => ?_, fun e => (by cases e), fun b off e => ?_, by rw [hxl]; exact hreach⟩
    · have hj0 : j < len0 := by simpa using hj
      obtain ⟨b, off, spot⟩ := a
      have hspot : spot = none := by simpa [Addr.add] using World.cell?_spot (hcell 0 (by omega)).1
      obtain ⟨c0, c1, t0, t1⟩ := hcell j (by omega)
      subst hspot
      obtain ⟨s0, e0, _⟩ := DataW.trod_int Try.underlying3 t0
      obtain ⟨s1, e1, _⟩ := DataW.trod_int Try.underlying3 t1
      simp only [List.cons.injEq, and_true] at e0 e1
      rw [add_off, e0] at c0
      rw [add_off, e1] at c1
      have ea : atN ((List.range len0).map fun i => (⟨intV (V0 i), intV (V1 i)⟩ : Nm)) j = ⟨s0, s1⟩ := by
        simp [atN, hj0, e0, e1, intV]
      rw [ea]
      exact ⟨b, off, rfl, c0, c1⟩
    · have := slice_below Try.underlying89 hv
      obtain rfl := Option.some.inj e
      exact this

theorem pastGrows_w (A B : Option Addr) (na nb ca cb : Nat) (xs ys : List Nm) (x : Int) (w : World) (hna : xs.length = na) (hnb : ys.length = nb) (hca : na ≤ ca) (hA0 : A = none → ca = 0) (hB0 : B = none → cb = 0) (hIA : NamesAt w A xs) (hIB : NamesAt w B ys) (hAb : ∀ b off, A = some ⟨b, off, none⟩ → b < w.heap.size) (hBb : ∀ b off, B = some ⟨b, off, none⟩ → b < w.heap.size) (hla : na ≤ 140737488351232) (hlb : nb ≤ 140737488351232) :
    Calls Try.prog 9 #[.slice A na ca, .slice B nb cb, .int .i64 x] w (Ret w (.bool true)) := by
  by_cases hbig : 1000 < na + nb
  · exact pg_big A B na nb ca cb x w hla hlb hbig
  · cases hg : (allB xs && allB ys) with
    | false => exact pg_bad A B na nb ca cb xs ys x w hna hnb hA0 hB0 hIA hIB (by omega) hg
    | true =>
      rw [Bool.and_eq_true] at hg
      exact pg_good A B na nb ca cb xs ys x w hna hnb hca hA0 hB0 hIA hIB hAb hBb (by omega) hg.1 hg.2

set_option maxRecDepth 100000 in
theorem pastGrows_lifted (os : Os) (started : os.Started) (H : Type) (enc : TypeId × Value → H) :
    ReturnsInHanded {} Try.checked os 9 .any (Rows.pastGrowsSpec.pre6 enc Try.prog Try.f9 Rows.pastGrowsRow.domain false) (Rows.pastGrowsSpec.post enc Try.prog Try.f9 false true false false) := by
  refine returnsInHanded_of_change_sized (C := Try.checked) own started (by kernel_rfl) Try.func9
    (ChangeSpec.witness6 (enc := enc) (C := Try.checked) false ⟨#[], #[.slice none 0 0, .slice none 0 0, .int .i64 0], []⟩ 8 (by kernel_rfl) (by kernel_rfl) (by kernel_rfl) (by kernel_rfl)) ?_
  intro W base args ds gs before hval0 hW _ hsz0 _
  have hsz : (DataW.weightsEach Try.prog (Try.f9.params.toList ++ Rows.pastGrowsSpec.plain.varTypes Try.prog) (ds ++ gs)).all (· ≤ reachBytes) = true := hsz0
  clear hsz0
  have hval : ∀ (j : Nat) t v, Try.f9.params[j]? = some t → args[j]? = some v → Value.okWide Try.prog W .any base t v := hval0
  have hW' := hW
  obtain ⟨p, q, hA0, hV, rfl, hfz, hnd⟩ := hW
  have hA : DataW.TrodAll enc Try.prog W 0 (fun _ => true) true Try.f9.params.toList args.toList ds p := hA0
  have hlt : ∀ x ∈ p, x.block < W.heap.size := fun x hx => by simpa using hW'.lt x (by simp [hx])
  have hAs := fun (W' : World) (hb : Below W.heap.size W W') => trodAll_below laidOut hb _ _ _ _ readable9 hlt hA
  rw [Try.params9] at hA hval hsz
  obtain ⟨v0, v1, v2, d0, d1, d2, p0, p1, p2, rfl, rfl, rfl, h0, h1, h2⟩ := trodAll_three hA
  obtain ⟨rfl, rfl⟩ := trodVars_none hV
  obtain ⟨A, ca, xs, rfl, hca, hIA, hA0', hAb, hla⟩ := names_open h0 (hval 0 89 v0 rfl rfl) hsz 0 rfl rfl
  obtain ⟨B, cb, ys, rfl, hcb, hIB, hB0', hBb, hlb⟩ := names_open h1 (hval 1 89 v1 rfl rfl) hsz 1 rfl rfl
  obtain ⟨g, rfl⟩ := okWide_int Try.underlying3 (hval 2 3 v2 rfl rfl)
  clear hA0 hval0
  refine (pastGrows_w A B xs.length ys.length ca cb xs ys g W rfl rfl hca hA0' hB0' hIA hIB hAb hBb hla hlb).mono fun e W' ⟨he, hbe⟩ => ?_
  subst he
  exact ⟨_, rfl, _, _, _, [], _, [], hW', trodAll_mk1 (shut_bool Try.underlying4 _), hAs W' hbe, rfl, hbe.frame _, fun h => by cases h⟩

theorem pastGrows_proved : Rows.PastGrowsSaid :=
  OpenClaim.holds_of_wide 9 Try.f9 rfl rfl rfl rfl rfl rfl rfl ⟨rfl, rfl, rfl, rfl, rfl⟩ rfl rfl rfl rfl rfl (by kernel_rfl) Try.func9 (by kernel_rfl)
    (of_decide_eq_true (by kernel_rfl)) (by unfold Func.isWrapper; first | (rw [if_pos (by decide +kernel)]; kernel_rfl) | (rw [if_neg (by decide +kernel)]; exact ⟨rfl, rfl⟩))
    (fun os started H enc _ => pastGrows_lifted os started H enc)
end Go.Proofs.Ytnjaiiifafbbjaa
