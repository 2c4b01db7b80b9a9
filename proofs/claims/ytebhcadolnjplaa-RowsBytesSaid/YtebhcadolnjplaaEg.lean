/- The texts of a list, sorted: a new list of the same texts. -/
import Derived.Test.YtebhcadolnjplaaEa
import Derived.Test.YtebhcadolnjplaaShelf
import Derived.RangeFuncBound
import Derived.Sort.OwnSorted
namespace Go.Proofs.Ytebhcadolnjplaa
open Go.RowKit Go.Shelf Go.Sort

attribute [local go_sem] Oper.semAt_some

set_option maxRecDepth 100000 in
set_option maxHeartbeats 2000000 in
theorem collects_in (n : Nat) (hn : 4 ≤ n) (Bs : Nat) (sv : Value) (zs : List Str) (hlen : zs.length ≤ 1000000) (w : World) (hBs : Bs < w.heap.size) (hcs : w.cell? ⟨Bs, 0, none⟩ = some sv) (hI : Strs w.heap.size w sv zs) :
    CallsIn Fence.wide n Try.prog 142 #[.func (.func 144) #[] #[.pointer (some ⟨Bs, 0, none⟩)]] w fun e W' => ∃ v, e = .returned v ∧ W'.ownsRow w.heap.size 9 1 v zs.length (zs.map Value.string) ∧ Below w.heap.size w W' := by
  have h1 : 1 ≤ n := by omega
  refine callsIn_of_wp Try.func142 rfl trivial ?_ rfl
  simp only [Try.ntmps142, List.size_toArray, List.length_cons, List.length_nil, Nat.reduceAdd, Nat.reduceSub, Array.replicate_succ, Array.replicate_zero, List.push_toArray, List.append_toArray, List.nil_append, List.cons_append]
  gi_wp2
  refine ⟨trivial, ?_⟩
  refine (appends_in (n - 1) (by omega) Bs sv zs hlen _ hBs hcs hI).mono ?_
  rintro e W ⟨v, rfl, hrow, hb⟩
  gi_wp2
  go_ret
  exact ⟨v, rfl, hrow, hb⟩

/-- The texts, sorted. -/
def sortL (zs : List Str) : List (List UInt8) := (zs.map fun s => s.data.toList).mergeSort fun x y => decide (x ≤ y)
def sortS (zs : List Str) : List Str := (sortL zs).map fun l => ⟨l.toArray⟩
theorem map_enc (zs : List Str) : zs.map Value.string = (zs.map fun s => s.data.toList).map encStr := by
  rw [List.map_map]
  rfl
theorem map_sort (zs : List Str) : (sortL zs).map encStr = (sortS zs).map Value.string := by
  unfold sortS
  rw [List.map_map]
  rfl
theorem sortS_len (zs : List Str) : (sortS zs).length = zs.length := by simp [sortS, sortL]
theorem sortS_perm (zs : List Str) : (sortS zs).Perm zs := by
  unfold sortS sortL
  refine ((List.mergeSort_perm _ _).map _).trans ?_
  rw [List.map_map]
  exact List.Perm.of_eq (List.map_id'' (fun s => rfl) zs)

set_option maxRecDepth 100000 in
set_option maxHeartbeats 2000000 in
theorem sorted_in (n : Nat) (hn : 5 ≤ n) (Bs : Nat) (sv : Value) (zs : List Str) (hlen : zs.length ≤ 1000000) (w : World) (hBs : Bs < w.heap.size) (hcs : w.cell? ⟨Bs, 0, none⟩ = some sv) (hI : Strs w.heap.size w sv zs) :
    CallsIn Fence.wide n Try.prog 94 #[.func (.func 144) #[] #[.pointer (some ⟨Bs, 0, none⟩)]] w fun e W' => ∃ v, e = .returned v ∧ W'.ownsRow w.heap.size 9 1 v zs.length ((sortS zs).map Value.string) ∧ Below w.heap.size w W' := by
  have h1 : 1 ≤ n := by omega
  refine callsIn_of_wp Try.func94 rfl trivial ?_ rfl
  simp only [Try.ntmps94, List.size_toArray, List.length_cons, List.length_nil, Nat.reduceAdd, Nat.reduceSub, Array.replicate_succ, Array.replicate_zero, List.push_toArray, List.append_toArray, List.nil_append, List.cons_append]
  gi_wp2
  refine ⟨trivial, ?_⟩
  refine (collects_in (n - 1) (by omega) Bs sv zs hlen _ hBs hcs hI).mono ?_
  rintro e W ⟨v, rfl, hrow, hb⟩
  gi_wp2
  rcases hrow.2 with ⟨rfl, hz⟩ | ⟨gb, cap, cur, rfl, hbase, hgb, r1, r2, r3, r4⟩
  · have hss : zs = [] := List.eq_nil_of_length_eq_zero hz
    subst hss
    have cS := callsIn_wide (n := n - 1).2 (Try.slices_Sort_string_none none 0 W)
    gi_wp2
    refine ⟨trivial, ?_⟩
    refine cS.mono ?_
    rintro e w' ⟨rfl, rfl⟩
    gi_wp2
    go_ret
    exact ⟨.slice none 0 0, rfl, by simpa [sortS, sortL] using hrow, hb⟩
  · have hl : (zs.map fun s => s.data.toList).length = zs.length := by simp
    have hH : Holds encStr W gb 0 (zs.map fun s => s.data.toList).toArray := holds_of_block hgb (by rw [← map_enc, hl]; simpa using r4)
    have hgl : gb < W.heap.size := (Array.getElem?_eq_some_iff.1 hgb).1
    have cS := callsIn_wide (n := n - 1).2 (Try.slices_Sort_string gb 0 cap (zs.map fun s => s.data.toList) W hH hgl (by rw [hl]; omega))
    rw [hl] at cS
    gi_wp2
    refine ⟨trivial, ?_⟩
    refine cS.mono ?_
    rintro e w' ⟨rfl, nn, os, rfl⟩
    gi_wp2
    go_ret
    refine ⟨_, rfl, ?_, hb.grown (grownBy_sorted _) hb.size (fun j hj => by cases hj; exact hbase)⟩
    rw [← map_sort]
    have hrw := ownsRow_sorted (n := nn) (os := os) (ss := zs.map fun s => s.data.toList) (ts := sortL zs) (by simp [sortL]) hbase hgb (by rw [hl]; exact r1) r2 r3
    rw [hl] at hrw
    exact hrw

end Go.Proofs.Ytebhcadolnjplaa
