/- Rows: the first row that is meant; clear; what stays. -/
import Derived.Test.YtebhcadolnjplaaSh
namespace Go.Proofs.Ytebhcadolnjplaa
open Go.RowKit

def IdxInP (s : Sp) (n : Nat) (l : List Rw) (W : World) (e : Ending) (w' : World) : Prop := ∃ x : Int, e = .returned (.int .i64 x) ∧ Ok W w' ∧ ((x = -1 ∧ ∀ j, j < n → hasB s (rwA l j).key = false) ∨ ∃ k : Nat, k < n ∧ x = (k : Int) ∧ hasB s (rwA l k).key = true ∧ ∀ j, j < k → hasB s (rwA l j).key = false)
set_option maxRecDepth 100000 in
set_option maxHeartbeats 4000000 in
theorem idxIn_f (s : Sp) (z : Nat) (A : Option Addr) (n c : Nat) (l : List Rw) (W : World) (hn : l.length = n) (hn6 : n ≤ 1000000) (h : RowsIn W A l) (z0 : W.cell? ⟨z, 0, none⟩ = some (.string s.lo)) (z1 : W.cell? ⟨z, 1, none⟩ = some (.string s.hi)) :
    Calls Try.prog 139 #[.slice A n c, .func (.func 137) #[] #[.pointer (some ⟨z, 0, none⟩)]] W (IdxInP s n l W) := by
  have HI := Lib.hid h
  have HN := Lib.hid hn
  have HZ0 := Lib.hid z0
  have HZ1 := Lib.hid z1
  have hcall := call137
  clear h hn z0 z1
  go_enter Try.func139, Try.ntmps139
  go_wp2_with fail
  go_loopw [5, 8] (fun _ v wr => ∃ k : Nat, k ≤ n ∧ v = .int .i64 k ∧ (∀ j, j < k → hasB s (rwA l j).key = false) ∧ Ok W wr) (fun _ v _ => n - (intOf v).toNat)
  case atStart => exact ⟨0, Nat.zero_le _, rfl, fun j hj => absurd hj (Nat.not_lt_zero _), Ok.refl _⟩
  case round =>
    obtain ⟨k, hk, rfl, hb, okr⟩ := hrel
    have HB := Lib.hid hb
    have HOK := Lib.hid okr
    clear hb okr
    by_cases hlt : k < n
    · have d1 : decide ((k : Int) < (n : Int)) = true := decide_eq_true (by omega)
      obtain ⟨b, off, rfl, c0, c1⟩ := HI.out.ok HOK.out k (by rw [HN.out]; exact hlt)
      have hf := in1_f s z (rwA l k).key (rwA l k).val wr (HOK.out.cell HZ0.out) (HOK.out.cell HZ1.out)
      have HNX : Hid (hasB s (rwA l k).key = false → ∀ j, j < k + 1 → hasB s (rwA l j).key = false) := Lib.hid fun q j hj => by
        by_cases hjk : j < k
        · exact HB.out j hjk
        · obtain rfl : j = k := by omega
          exact q
      have HFA : Hid (hasB s (rwA l k).key = true → ∃ k' : Nat, k' < n ∧ (k : Int) = (k' : Int) ∧ hasB s (rwA l k').key = true ∧ ∀ j, j < k' → hasB s (rwA l j).key = false) := Lib.hid fun q => ⟨k, hlt, rfl, q, HB.out⟩
      have hi0 : (0 : Int) ≤ (k : Int) := Int.natCast_nonneg _
      have hi1 : (k : Int) < (n : Int) := by omega
      generalize hasB s (rwA l k).key = rb at *
      generalize (rwA l k).key = km at *
      generalize (rwA l k).val = vm at *
      go_wp2_with fail
      refine hf.mono ?_
      clear hf c0 c1
      rintro _ w1 ⟨rfl, o1⟩
      have HO1 := Lib.hid (HOK.out.trans o1)
      clear o1
      cases rb with
      | false =>
        go_wp2_with fail
        refine ⟨⟨k + 1, hlt, rfl, HNX.out (by simp), HO1.out⟩, ?_⟩
        show n - ((k : Int) + 1).toNat < n - (k : Int).toNat
        omega
      | true =>
        go_wp2_with fail
        go_ret
        exact ⟨_, rfl, HO1.out, .inr (HFA.out (by simp))⟩
    · have d1 : decide ((k : Int) < (n : Int)) = false := decide_eq_false (by omega)
      obtain rfl : k = n := by omega
      go_wp2_with fail
      go_ret
      exact ⟨_, rfl, HOK.out, .inl ⟨rfl, HB.out⟩⟩
theorem run_clear_rows (w : World) (ty : TypeId) (g o n c : Nat) (cur : List Value) (t : TypeId) (hn : 0 < n) (hg : w.heap[g]? = some (.cells cur.toArray t (0, 0))) (hfit : o + n * 2 ≤ cur.length) :
    (Builtin.clear_ #[66] ty #[.slice (some ⟨g, o, none⟩) n c]).run Try.prog w = .ok (.tuple #[]) (w.setRow g (splice cur o (Builtin.zeroCells (Value.agg #[.string ⟨#[]⟩, .string ⟨#[]⟩]).cells n).toList).toArray) := by
  have hl : (Builtin.zeroCells (Value.agg #[.string ⟨#[]⟩, .string ⟨#[]⟩]).cells n).toList.length = n * 2 := by rw [Array.length_toList]; exact zeros_len n
  have h1 : ∀ v ∈ (Builtin.zeroCells (Value.agg #[.string ⟨#[]⟩, .string ⟨#[]⟩]).cells n).toList, v.oneCell' = true := by
    intro v hv
    rw [Array.mem_toList_iff] at hv
    obtain ⟨i, hi, rfl⟩ := Array.mem_iff_getElem.1 hv
    simp only [Builtin.zeroCells, Value.cells]
    have : i % 2 = 0 ∨ i % 2 = 1 := Nat.mod_two_eq_zero_or_one i
    rcases this with q | q <;> simp [q, Value.oneCell']
  have hst := run_storeCells_at Try.prog g o t (Builtin.zeroCells (Value.agg #[.string ⟨#[]⟩, .string ⟨#[]⟩]).cells n).toList 0 cur.toArray w hg (by rw [hl]; simpa using hfit) h1
  obtain ⟨i0, hi, hz0, hz1, hz2⟩ := info_parts info105
  obtain ⟨m, rfl⟩ : ∃ m, n = m + 1 := ⟨n - 1, by omega⟩
  have hz : ∀ w, (zeroValue 105).run Try.prog w = .ok (.agg #[.string ⟨#[]⟩, .string ⟨#[]⟩]) w := fun w => by simp [zeroValue, typeInfo, hi, hz0]
  simp [Builtin.clear_, run_underlying Try.underlying66, hz, hst, splice]
end Go.Proofs.Ytebhcadolnjplaa
