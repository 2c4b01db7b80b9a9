/- The law SharesKeys: its mathematics. -/
import Derived.Test.YtneipmgkphdfkaaSr
namespace Go.Proofs.Ytneipmgkphdfkaa
open Go.RowKit

theorem sort_two (a b : Int) : sortI [a, b] = if a ≤ b then [a, b] else [b, a] := by
  unfold sortI
  by_cases h : a ≤ b
  · rw [if_pos h]
    simp [List.mergeSort, List.MergeSort.Internal.splitInTwo, h]
  · rw [if_neg h]
    simp [List.mergeSort, List.MergeSort.Internal.splitInTwo, h]
theorem compact_same (a : Int) : Lib.compact [a, a] = [a] := by
  simp [Lib.compact, Lib.compactUpTo, Lib.keeps, List.range, List.range.loop]
theorem compact_two {a b : Int} (h : b ≠ a) : Lib.compact [a, b] = [a, b] := by
  simp [Lib.compact, Lib.compactUpTo, Lib.keeps, List.range, List.range.loop, h]
theorem of_some (ep : Int) (xs : List Sh) (k : Str) : (firstM ep xs (fun x => hasB x.sp k)).isSome = (sharesB ep xs && keyB k) := by
  unfold firstM
  cases h : sharesB ep xs with
  | true => rw [if_pos rfl, shares_some h]; rfl
  | false => rfl
theorem first_has {ep : Int} {xs : List Sh} {q : Sh → Bool} (h : (firstM ep xs q).isSome = true) : q ((firstM ep xs q).getD sh0) = true := by
  unfold firstM at *
  cases hs : sharesB ep xs with
  | false => rw [hs] at h; cases h
  | true =>
    rw [hs, if_pos rfl] at h
    rw [if_pos rfl]
    obtain ⟨x, hx⟩ := Option.isSome_iff_exists.1 h
    rw [hx]
    exact List.find?_some hx
/-- The share of a span is the share of each of its keys. -/
theorem in_of {ep : Int} {xs : List Sh} {i : Sp} {k : Str} (h : (firstM ep xs (fun x => withinB i x.sp)).isSome = true) (hk : hasB i k = true) :
    (firstM ep xs (fun x => withinB i x.sp)).getD sh0 = (firstM ep xs (fun x => hasB x.sp k)).getD sh0 := by
  unfold firstM at *
  cases hs : sharesB ep xs with
  | false => rw [hs] at h; cases h
  | true =>
    rw [hs, if_pos rfl] at h
    rw [if_pos rfl, if_pos rfl]
    obtain ⟨x, hx⟩ := Option.isSome_iff_exists.1 h
    have hw : withinB i x.sp = true := by simpa using List.find?_some hx
    have hc := shares_count hs k
    rw [(has_parts hk).2.1, if_pos rfl] at hc
    have := find_one hc (List.mem_of_find?_eq_some hx) (within_has hw hk)
    rw [hx, this]
theorem groups_all (ep : Int) (xs : List Sh) (k o : Str) : (groupsM ep xs [k, o]).2 = ((firstM ep xs (fun x => hasB x.sp k)).isSome && (firstM ep xs (fun x => hasB x.sp o)).isSome) := by
  rw [of_some, of_some]
  unfold groupsM
  cases sharesB ep xs <;> cases h1 : keyB k <;> cases h2 : keyB o <;> simp [h1, h2]
theorem groups_two {ep : Int} {xs : List Sh} {k o : Str} (h : (groupsM ep xs [k, o]).2 = true) {a b : Int} (ha : ((firstM ep xs (fun x => hasB x.sp k)).getD sh0).g = a) (hb : ((firstM ep xs (fun x => hasB x.sp o)).getD sh0).g = b) :
    groupsM ep xs [k, o] = (if a = b then [a] else if a < b then [a, b] else [b, a], true) := by
  have hs : (sharesB ep xs && [k, o].all keyB) = true := by
    cases hc : (sharesB ep xs && [k, o].all keyB) with
    | true => rfl
    | false => unfold groupsM at h; rw [hc] at h; cases h
  have h1 : sharesB ep xs = true := by rw [Bool.and_eq_true] at hs; exact hs.1
  unfold firstM at ha hb
  rw [if_pos h1] at ha hb
  have e1 : groupOf xs k = a := ha
  have e2 : groupOf xs o = b := hb
  unfold groupsM
  rw [hs, if_pos rfl]
  simp only [List.map_cons, List.map_nil, e1, e2, sort_two]
  by_cases h2 : a = b
  · subst h2
    simp [compact_same]
  · rw [if_neg h2]
    by_cases h3 : a < b
    · rw [if_pos (by omega), if_pos h3, compact_two (by omega)]
    · rw [if_neg (by omega), if_neg h3, compact_two (by omega)]
theorem groups_none {ep : Int} {xs : List Sh} {ks : List Str} (h : (groupsM ep xs ks).2 = false) : groupsM ep xs ks = ([], false) := by
  unfold groupsM at *
  cases hc : (sharesB ep xs && ks.all keyB) with
  | true => rw [hc] at h; cases h
  | false => rfl
theorem OwnI.cell {w : World} {B : Nat} {A : Option Addr} {n c : Nat} {zs : List Int} (h : OwnI w B A n c zs) : ∀ j, j < zs.length → ∃ b, A = some ⟨b, 0, none⟩ ∧ w.cell? ⟨b, j, none⟩ = some (.int .i64 (zs[j]?.getD 0)) := fun j hj => by
  obtain ⟨h1, rfl⟩ := h
  rcases h1.2 with ⟨e, h5⟩ | ⟨g, cap, cur, e, r⟩
  · omega
  · obtain ⟨rfl, -, rfl⟩ : A = some ⟨g, 0, none⟩ ∧ True ∧ c = cap := by
      simp only [Value.slice.injEq] at e
      exact ⟨e.1, trivial, e.2.2⟩
    refine ⟨g, rfl, ?_⟩
    rw [World.ownsRow.cellAt h1 j (by omega)]
    simp [hj]
theorem four_own (w : World) (a b c d : Str) : OwnT (w.alloc (.cells #[.string a, .string b, .string c, .string d] 9)) w.heap.size (.slice (some ⟨w.heap.size, 0, none⟩) 4 4) [a, b, c, d] :=
  World.ownsRow_lit w #[.string a, .string b, .string c, .string d] 4 (Nat.le_refl _) (by decide) rfl
end Go.Proofs.Ytneipmgkphdfkaa
