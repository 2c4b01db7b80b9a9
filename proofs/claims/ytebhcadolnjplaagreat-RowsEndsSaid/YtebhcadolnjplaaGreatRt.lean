/- Rows: the small functions. -/
import Derived.Test.YtebhcadolnjplaaGreatRs
import Derived.Test.YtebhcadolnjplaaGreatFa
import Derived.Lib.Bytealg
import Derived.Laws.Externs
import Derived.Maps.AppendAt
import Derived.Deep.MidRow
import Derived.Deep.DeepCutAuto
import Derived.Handy
namespace Go.Proofs.YtebhcadolnjplaaGreat
open Go.RowKit

def cmpI (a b : Str) : Int := Lib.compareBytes a.data.toList b.data.toList
theorem cmp_lt : ∀ (a b : List UInt8), (Lib.compareBytes a b < 0) ↔ Op.bytesLess a b = true
  | [], [] => by simp [Lib.compareBytes, Op.bytesLess]
  | [], b :: bs => by simp [Lib.compareBytes, Op.bytesLess]
  | a :: xs, [] => by simp [Lib.compareBytes, Op.bytesLess]
  | a :: xs, b :: bs => by
    have ih := cmp_lt xs bs
    rw [Lib.compareBytes, Op.bytesLess]
    by_cases h1 : a < b
    · simp [h1]
    · rw [if_neg h1]
      by_cases h2 : b < a
      · rw [if_pos h2]
        have hne : ¬ a = b := fun e => by subst e; rw [u8_lt] at h2; omega
        simp [h1, hne]
      · have e : a = b := UInt8.toNat_inj.1 (by rw [u8_lt] at h1 h2; omega)
        subst e
        simp [h1, ih]
theorem cmp_eq : ∀ (a b : List UInt8), (Lib.compareBytes a b = 0) ↔ a = b
  | [], [] => by simp [Lib.compareBytes]
  | [], b :: bs => by simp [Lib.compareBytes]
  | a :: xs, [] => by simp [Lib.compareBytes]
  | a :: xs, b :: bs => by
    have ih := cmp_eq xs bs
    rw [Lib.compareBytes]
    by_cases h1 : a < b
    · rw [if_pos h1]
      have hne : ¬ a = b := fun e => by subst e; rw [u8_lt] at h1; omega
      simp [hne]
    · rw [if_neg h1]
      by_cases h2 : b < a
      · rw [if_pos h2]
        have hne : ¬ a = b := fun e => by subst e; rw [u8_lt] at h2; omega
        simp [hne]
      · have e : a = b := UInt8.toNat_inj.1 (by rw [u8_lt] at h1 h2; omega)
        subst e
        simp [h1, ih]
theorem cmpI_lt (a b : Str) : decide (cmpI a b < 0) = ltB a b := by
  unfold cmpI ltB
  rw [toList_data, toList_data, Bool.eq_iff_iff, decide_eq_true_eq]
  exact cmp_lt _ _
theorem cmpI_eq (a b : Str) : cmpI a b = 0 ↔ a = b := by
  unfold cmpI
  rw [cmp_eq]
  constructor
  · intro h
    cases a; cases b
    simp only [ByteArray.mk.injEq]
    exact Array.toList_inj.1 h
  · rintro rfl; rfl
theorem run191 (a b : Str) (w : World) : (callFunc 138 #[.string a, .string b]).run Tryz.prog w = .ok (.value (.int .i64 (cmpI a b))) w := by
  rw [run_callFunc_extern Tryz.func138 (by kernel_rfl) (by kernel_rfl) (by kernel_rfl) (e := Extern.BytealgCompare.compare) (by kernel_rfl), Lib.run_compareString]
  rfl
set_option maxRecDepth 100000 in
theorem compare169 (a b : Str) (w : World) : Calls Tryz.prog 100 #[.string a, .string b] w (Ret w (.int .i64 (cmpI a b))) := by
  have h := run191 a b
  go_enter Tryz.func100, Tryz.ntmps100
  go_wp2_with fail
  go_ret
  exact ⟨rfl, Ok.refl _⟩
set_option maxRecDepth 100000 in
theorem compare147 (a b : Str) (w : World) : Calls Tryz.prog 56 #[.string a, .string b] w (Ret w (.int .i64 (cmpI a b))) := by
  have h := compare169 a b w
  go_enter Tryz.func56, Tryz.ntmps56
  go_wp2_with fail
  refine h.mono ?_
  rintro _ w1 ⟨rfl, o1⟩
  go_wp2_with fail
  go_ret
  exact ⟨rfl, o1⟩
structure Rw where
  key : Str
  val : Str
def Rw.v (r : Rw) : Value := .agg #[.string r.key, .string r.val]
theorem two_new (w : World) (v0 v1 : Value) (t : TypeId) : (w.alloc (.cells #[v0, v1] t)).cell? ⟨w.heap.size, 0, none⟩ = some v0 ∧ (w.alloc (.cells #[v0, v1] t)).cell? ⟨w.heap.size, 1, none⟩ = some v1 := by
  constructor <;> go_cell
set_option maxRecDepth 100000 in
theorem cmpFn_f (k v t : Str) (w : World) : Calls Tryz.prog 55 #[.agg #[.string k, .string v], .string t] w (Ret w (.int .i64 (cmpI k t))) := by
  have h := compare147 k t (w.alloc (.cells #[.string k, .string v] 48))
  go_enter Tryz.func55, Tryz.ntmps55
  go_wp2_with fail
  refine h.mono ?_
  rintro _ w1 ⟨rfl, o1⟩
  go_wp2_with fail
  go_ret
  exact ⟨rfl, Ok.call ((Ok.refl w).alloc _) o1⟩
def rowB (r : Rw) : Bool := keyB r.key && decide (r.val.size ≤ 20)
set_option maxRecDepth 100000 in
theorem right79 (k v : Str) (w : World) : Calls Tryz.prog 46 #[.agg #[.string k, .string v]] w (Ret w (.bool (rowB ⟨k, v⟩))) := by
  have h := key_w k (w.alloc (.cells #[.string k, .string v] 48))
  have HN := Lib.hid (two_new w (.string k) (.string v) 48)
  have HO : Hid (Ok w (w.alloc (.cells #[.string k, .string v] 48))) := Lib.hid ((Ok.refl w).alloc _)
  have HR : Hid (rowB ⟨k, v⟩ = (keyB k && decide (v.size ≤ 20))) := Lib.hid rfl
  go_enter Tryz.func46, Tryz.ntmps46
  go_wp2_with fail
  generalize (w.alloc (.cells #[.string k, .string v] 48)) = w0 at *
  refine h.mono ?_
  clear h
  rintro _ w1 ⟨rfl, o1⟩
  have c1 := o1.cell HN.out.2
  cases hk : keyB k with
  | false =>
    rw [hk] at HR
    go_wp2_with fail
    go_ret
    exact ⟨by rw [HR.out]; rfl, Ok.call HO.out o1⟩
  | true =>
    rw [hk, Bool.true_and] at HR
    have d1 : decide ((v.size : Int) ≤ 20) = decide (v.size ≤ 20) := by
      apply decide_eq_decide.2; omega
    obtain ⟨z, hz⟩ : ∃ z, decide (v.size ≤ 20) = z := ⟨_, rfl⟩
    rw [hz] at d1 HR
    go_wp2_with fail
    go_ret
    exact ⟨by rw [HR.out]; first | rfl | simp [hz], Ok.call HO.out o1⟩
set_option maxRecDepth 100000 in
theorem notRight_f (k v : Str) (w : World) : Calls Tryz.prog 45 #[.agg #[.string k, .string v]] w (Ret w (.bool (!rowB ⟨k, v⟩))) := by
  have h := right79 k v (w.alloc (.cells #[.string k, .string v] 48))
  go_enter Tryz.func45, Tryz.ntmps45
  go_wp2_with fail
  refine h.mono ?_
  clear h
  rintro _ w1 ⟨rfl, o1⟩
  go_wp2_with fail
  go_ret
  exact ⟨rfl, Ok.call ((Ok.refl w).alloc _) o1⟩
end Go.Proofs.YtebhcadolnjplaaGreat
