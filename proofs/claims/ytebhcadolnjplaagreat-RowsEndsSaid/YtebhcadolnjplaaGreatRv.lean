/- Rows: are all right; are they the same; how many parts. -/
import Derived.Test.YtebhcadolnjplaaGreatRu
import Derived.Test.YtebhcadolnjplaaGreatD
namespace Go.Proofs.YtebhcadolnjplaaGreat
open Go.RowKit

theorem call90 (args : Array Value) (w : World) : (callFunc 45 args).run Tryz.prog w = .ok (.enter 45 args) w := by
  have hn : ¬ Tryz.f45.name = "runtime.NumGoroutine" := by decide
  have hb : ¬ Tryz.f45.body = none := fun h => by
    have h2 : Tryz.f45.body.isNone = false := by kernel_rfl
    rw [h] at h2; cases h2
  simp [callFunc, go_sem, hn, hb]
def IdxP (n : Nat) (l : List Rw) (W : World) (e : Ending) (w' : World) : Prop := ∃ x : Int, e = .returned (.int .i64 x) ∧ Ok W w' ∧ ((0 ≤ x ∧ ∃ k, k < n ∧ rowB (rwA l k) = false) ∨ (x = -1 ∧ ∀ j, j < n → rowB (rwA l j) = true))
set_option maxRecDepth 100000 in
set_option maxHeartbeats 4000000 in
theorem index_f (A : Option Addr) (n c : Nat) (l : List Rw) (W : World) (hn : l.length = n) (hn6 : n ≤ 1000000) (h : RowsIn W A l) :
    Calls Tryz.prog 90 #[.slice A n c, .func (.func 45) #[] #[]] W (IdxP n l W) := by
  have HI := Lib.hid h
  have HN := Lib.hid hn
  have hcall := call90
  clear h hn
  go_enter Tryz.func90, Tryz.ntmps90
  go_wp2_with fail
  go_loopw [5, 8] (fun _ v wr => ∃ k : Nat, k ≤ n ∧ v = .int .i64 k ∧ (∀ j, j < k → rowB (rwA l j) = true) ∧ Ok W wr) (fun _ v _ => n - (intOf v).toNat)
  case atStart => exact ⟨0, Nat.zero_le _, rfl, fun j hj => absurd hj (Nat.not_lt_zero _), Ok.refl _⟩
  case round =>
    obtain ⟨k, hk, rfl, hb, okr⟩ := hrel
    have HB := Lib.hid hb
    have HOK := Lib.hid okr
    clear hb okr
    by_cases hlt : k < n
    · have d1 : decide ((k : Int) < (n : Int)) = true := decide_eq_true (by omega)
      obtain ⟨b, off, rfl, c0, c1⟩ := HI.out.ok HOK.out k (by rw [HN.out]; exact hlt)
      have hf := notRight_f (rwA l k).key (rwA l k).val wr
      have HNX : Hid (rowB ⟨(rwA l k).key, (rwA l k).val⟩ = true → ∀ j, j < k + 1 → rowB (rwA l j) = true) := Lib.hid fun q j hj => by
        by_cases hjk : j < k
        · exact HB.out j hjk
        · obtain rfl : j = k := by omega
          exact q
      have HFA : Hid (rowB ⟨(rwA l k).key, (rwA l k).val⟩ = false → ∃ k, k < n ∧ rowB (rwA l k) = false) := Lib.hid fun q => ⟨k, hlt, q⟩
      have hi0 : (0 : Int) ≤ (k : Int) := Int.natCast_nonneg _
      have hi1 : (k : Int) < (n : Int) := by omega
      generalize rowB ⟨(rwA l k).key, (rwA l k).val⟩ = rb at *
      generalize (rwA l k).key = km at *
      generalize (rwA l k).val = vm at *
      go_wp2_with fail
      refine hf.mono ?_
      clear hf c0 c1
      rintro _ w1 ⟨rfl, o1⟩
      have HO1 := Lib.hid (HOK.out.trans o1)
      clear o1
      cases rb with
      | true =>
        go_wp2_with fail
        refine ⟨⟨k + 1, hlt, rfl, HNX.out (by simp), HO1.out⟩, ?_⟩
        show n - ((k : Int) + 1).toNat < n - (k : Int).toNat
        omega
      | false =>
        go_wp2_with fail
        go_ret
        exact ⟨_, rfl, HO1.out, .inl ⟨hi0, HFA.out (by simp)⟩⟩
    · have d1 : decide ((k : Int) < (n : Int)) = false := decide_eq_false (by omega)
      obtain rfl : k = n := by omega
      go_wp2_with fail
      go_ret
      exact ⟨_, rfl, HOK.out, .inr ⟨rfl, HB.out⟩⟩
/-- All rows are right. -/
def allR (l : List Rw) : Bool := l.all rowB
theorem allR_iff (l : List Rw) : allR l = true ↔ ∀ j, j < l.length → rowB (rwA l j) = true := by
  unfold allR
  rw [List.all_eq_true]
  constructor
  · intro h j hj
    simp only [rwA, List.getD_eq_getElem?_getD, List.getElem?_eq_getElem hj, Option.getD_some]
    exact h _ (List.getElem_mem hj)
  · intro h r hr
    obtain ⟨j, hj, rfl⟩ := List.mem_iff_getElem.1 hr
    have := h j hj
    simpa only [rwA, List.getD_eq_getElem?_getD, List.getElem?_eq_getElem hj, Option.getD_some] using this
set_option maxRecDepth 100000 in
theorem contains_f (A : Option Addr) (n c : Nat) (l : List Rw) (W : World) (hn : l.length = n) (hn6 : n ≤ 1000000) (h : RowsIn W A l) :
    Calls Tryz.prog 44 #[.slice A n c, .func (.func 45) #[] #[]] W (Ret W (.bool (!allR l))) := by
  have hix := index_f A n c l W hn hn6 h
  have HA := Lib.hid (allR_iff l)
  rw [hn] at HA
  clear h hn
  go_enter Tryz.func44, Tryz.ntmps44
  go_wp2_with fail
  refine hix.mono ?_
  clear hix
  rintro _ w1 ⟨x, rfl, o1, hx⟩
  rcases hx with ⟨hx, k, hk, hr⟩ | ⟨hx, hall⟩
  · have HF : Hid (allR l = false) := Lib.hid (by
      cases ha : allR l with
      | false => rfl
      | true => have := HA.out.1 ha k hk; rw [hr] at this; cases this)
    have d1 : decide (x ≥ 0) = true := decide_eq_true hx
    clear hr hk
    go_wp2_with fail
    go_ret
    exact ⟨by rw [HF.out]; rfl, o1⟩
  · have HF : Hid (allR l = true) := Lib.hid (HA.out.2 hall)
    have d1 : decide (x ≥ 0) = false := decide_eq_false (by omega)
    clear hall hx
    go_wp2_with fail
    go_ret
    exact ⟨by rw [HF.out]; rfl, o1⟩
theorem eq105 (a b : Str) (w : World) : (Op.equalIn 10000 48 (.agg #[.string a, .string b]) (.agg #[.string a, .string b])).run Tryz.prog w = .ok true w := by
  have u9 := Tryz.underlying9
  have a9 := Tryz.isAgg9
  have z9 := Tryz.sizeOf9
  have hS : Tryz.prog.underlying 48 = some (.struct (Tryz.prog.fieldsOf 48)) := by kernel_rfl
  have hp : Tryz.prog.stoodInHeld 48 = false := by kernel_rfl
  rw [show (10000 : Nat) = 9999 + 1 from rfl, run_equalIn_agg w 9999 48 _ _ hS hp]
  simp only [Program.fieldsOf, Tryz.underlying48]
  go_simp
  try simp
set_option maxRecDepth 100000 in
set_option maxHeartbeats 4000000 in
theorem same_f (A B : Option Addr) (n c d : Nat) (l : List Rw) (hn : l.length = n) (hn6 : n ≤ 1000000) (w : World) (hA : RowsIn w A l) (hB : RowsIn w B l) :
    Calls Tryz.prog 24 #[.slice A n c, .slice B n d] w (Ret w (.bool true)) := by
  have HA := Lib.hid hA
  have HB := Lib.hid hB
  have HN := Lib.hid hn
  clear hA hB hn
  have hne : ((n : Int) != n) = false := by simp
  go_enter Tryz.func24, Tryz.ntmps24
  go_wp2_with fail
  go_loopw [5] (fun v wr => ∃ k : Nat, k ≤ n ∧ v = .int .i64 k ∧ Ok w wr) (fun v _ => n - (intOf v).toNat)
  case atStart => exact ⟨0, Nat.zero_le _, rfl, Ok.refl _⟩
  case round =>
    obtain ⟨k, hk, rfl, okr⟩ := hrel
    have HO := Lib.hid okr
    clear okr
    by_cases hlt : k < n
    · have d1 : decide ((k : Int) < (n : Int)) = true := decide_eq_true (by omega)
      obtain ⟨b, off, rfl, C0, C1⟩ := HA.out.ok HO.out k (by rw [HN.out]; exact hlt)
      obtain ⟨b', off', rfl, C0', C1'⟩ := HB.out.ok HO.out k (by rw [HN.out]; exact hlt)
      have heq := fun w => eq105 (rwA l k).key (rwA l k).val w
      generalize (rwA l k).key = km at *
      generalize (rwA l k).val = vm at *
      have hi0 : (0 : Int) ≤ (k : Int) := Int.natCast_nonneg _
      have hi1 : (k : Int) < (n : Int) := by omega
      go_wp2_with fail
      go_quiet (fail)
      go_wp2_with fail
      refine ⟨⟨k + 1, hlt, rfl, HO.out.drewN _⟩, ?_⟩
      show n - ((k : Int) + 1).toNat < n - (k : Int).toNat
      omega
    · have d1 : decide ((k : Int) < (n : Int)) = false := decide_eq_false (by omega)
      go_wp2_with fail
      go_ret
      exact ⟨rfl, HO.out⟩
end Go.Proofs.YtebhcadolnjplaaGreat
