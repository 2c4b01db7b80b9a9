/- The first index that is meant; a list of numbers cut of those that are meant. -/
import Derived.Test.YtebhcadolnjplaaGj
import Derived.Lib.SliceRun
namespace Go.Proofs.Ytebhcadolnjplaa
open Go.RowKit

theorem call103 (args : Array Value) (w : World) : (callFunc 103 args).run Try.prog w = .ok (.enter 103 args) w := by
  have hn : ¬ Try.f103.name = "runtime.NumGoroutine" := by decide
  have hb : ¬ Try.f103.body = none := fun h => by
    have h2 : Try.f103.body.isNone = false := by kernel_rfl
    rw [h] at h2; cases h2
  simp [callFunc, go_sem, hn, hb]
theorem cutFn_f (p : Nat) (x v : Int) (w : World) (c : w.cell? ⟨p, 0, none⟩ = some (.int .i64 v)) : Calls Try.prog 103 #[.int .i64 x, .pointer (some ⟨p, 0, none⟩)] w (Ret w (.bool (decide (v ≤ x)))) := by
  obtain ⟨R, hR⟩ : ∃ R, decide (v ≤ x) = R := ⟨_, rfl⟩
  have d1 : decide (x ≥ v) = R := hR
  rw [hR]
  clear hR
  go_enter Try.func103, Try.ntmps103
  go_wp2_with fail
  go_ret
  exact ⟨rfl, Ok.refl _⟩
/-- The first index of what is meant, or -1. -/
def idxI (q : Int → Bool) (xs : List Int) : Int := match xs.findIdx? q with
  | some i => (i : Int)
  | none => -1
theorem getD_get (xs : List Int) (j : Nat) (h : j < xs.length) : xs.getD j 0 = xs[j] := by simp [h]
theorem idxI_some (q : Int → Bool) (xs : List Int) (k : Nat) (hk : k < xs.length) (h : q (xs.getD k 0) = true) (hb : ∀ j, j < k → q (xs.getD j 0) = false) : idxI q xs = (k : Int) := by
  have e : xs.findIdx? q = some k := by
    rw [List.findIdx?_eq_some_iff_getElem]
    refine ⟨hk, by rw [← getD_get xs k hk]; exact h, fun j hj => ?_⟩
    rw [← getD_get xs j (by omega), hb j hj]; simp
  rw [idxI, e]
theorem idxI_none (q : Int → Bool) (xs : List Int) (hb : ∀ j, j < xs.length → q (xs.getD j 0) = false) : idxI q xs = -1 := by
  have e : xs.findIdx? q = none := by
    rw [List.findIdx?_eq_none_iff]
    intro x hx
    obtain ⟨j, hj, rfl⟩ := List.mem_iff_getElem.1 hx
    rw [← getD_get xs j hj, hb j hj]
  rw [idxI, e]
set_option maxRecDepth 100000 in
set_option maxHeartbeats 4000000 in
theorem idx_f (fn p : Nat) (q : Int → Bool) (A : Option Addr) (n c : Nat) (xs : List Int) (hn : xs.length = n) (hn6 : n ≤ 1000000) (w : World) (hI : InI w (.slice A n c) xs)
    (hc : ∀ args w, (callFunc fn args).run Try.prog w = .ok (.enter fn args) w) (hf : ∀ x w', Ok w w' → Calls Try.prog fn #[.int .i64 x, .pointer (some ⟨p, 0, none⟩)] w' (Ret w' (.bool (q x)))) :
    Calls Try.prog 150 #[.slice A n c, .func (.func fn) #[] #[.pointer (some ⟨p, 0, none⟩)]] w (Ret w (.int .i64 (idxI q xs))) := by
  have HI := Lib.hid hI
  have HN := Lib.hid hn
  have HF := Lib.hid hf
  have HS := Lib.hid (idxI_some q xs)
  have HZ := Lib.hid (idxI_none q xs)
  obtain ⟨R, hR⟩ : ∃ R, idxI q xs = R := ⟨_, rfl⟩
  rw [hR] at HS HZ ⊢
  clear hI hn hf hR
  go_enter Try.func150, Try.ntmps150
  go_wp2_with fail
  go_loopw [5, 8] (fun _ i wr => ∃ k : Nat, k ≤ n ∧ i = .int .i64 k ∧ (∀ j, j < k → q (xs.getD j 0) = false) ∧ Ok w wr) (fun _ i _ => n - (intOf i).toNat)
  case atStart => exact ⟨0, Nat.zero_le _, rfl, fun j hj => absurd hj (Nat.not_lt_zero _), Ok.refl _⟩
  case round =>
    obtain ⟨k, hk, rfl, hb, okr⟩ := hrel
    have HB := Lib.hid hb
    have HOKR := Lib.hid okr
    clear hb okr
    by_cases hlt : k < n
    · have d1 : decide ((k : Int) < (n : Int)) = true := decide_eq_true (by omega)
      obtain ⟨-, b, off, rfl, C0⟩ := (HOKR.out.ints HI.out).at rfl k hlt
      have hf := HF.out (xs.getD k 0) wr HOKR.out
      have HS := Lib.hid (HS.out k (by rw [HN.out]; exact hlt))
      have HNX : Hid (q (xs.getD k 0) = false → ∀ j, j < k + 1 → q (xs.getD j 0) = false) := Lib.hid fun h j hj => by
        by_cases hjk : j < k
        · exact HB.out j hjk
        · obtain rfl : j = k := by omega
          exact h
      generalize xs.getD k 0 = x at *
      have hi0 : (0 : Int) ≤ (k : Int) := Int.natCast_nonneg _
      have hi1 : (k : Int) < (n : Int) := by omega
      go_wp2_with fail
      refine hf.mono ?_
      rintro _ w1 ⟨rfl, o1⟩
      cases h1 : q x with
      | true =>
        have hr := HS.out h1 HB.out
        go_wp2
        go_ret
        exact ⟨by rw [hr]; rfl, HOKR.out.trans o1⟩
      | false =>
        have HNX := Lib.hid (HNX.out h1)
        go_wp2
        refine ⟨⟨k + 1, hlt, rfl, HNX.out, HOKR.out.trans o1⟩, ?_⟩
        show n - ((k : Int) + 1).toNat < n - (k : Int).toNat
        omega
    · have d1 : decide ((k : Int) < (n : Int)) = false := decide_eq_false (by omega)
      have hr := HZ.out fun j hj => HB.out j (by rw [HN.out] at hj; omega)
      go_wp2
      go_ret
      exact ⟨by rw [hr]; rfl, HOKR.out⟩
end Go.Proofs.Ytebhcadolnjplaa
