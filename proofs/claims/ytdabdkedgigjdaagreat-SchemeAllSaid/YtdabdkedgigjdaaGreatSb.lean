/- Shares: the first that is meant; whether one is; their spans; whether they are right. -/
import Derived.Test.YtdabdkedgigjdaaGreatSa
namespace Go.Proofs.YtdabdkedgigjdaaGreat
open Go.RowKit

def idxI (q : Sh → Bool) (xs : List Sh) : Int := match xs.findIdx? q with
  | some i => (i : Int)
  | none => -1
theorem at2_get (xs : List Sh) (j : Nat) (h : j < xs.length) : at2 xs j = xs[j] := by simp [at2, h]
theorem call62 (args : Array Value) (w : World) : (callFunc 67 args).run Tryz.prog w = .ok (.enter 67 args) w := by
  have hn : ¬ Tryz.f67.name = "runtime.NumGoroutine" := by decide
  have hb : ¬ Tryz.f67.body = none := fun h => by
    have h2 : Tryz.f67.body.isNone = false := by kernel_rfl
    rw [h] at h2; cases h2
  simp [callFunc, go_sem, hn, hb]
theorem call65 (args : Array Value) (w : World) : (callFunc 71 args).run Tryz.prog w = .ok (.enter 71 args) w := by
  have hn : ¬ Tryz.f71.name = "runtime.NumGoroutine" := by decide
  have hb : ¬ Tryz.f71.body = none := fun h => by
    have h2 : Tryz.f71.body.isNone = false := by kernel_rfl
    rw [h] at h2; cases h2
  simp [callFunc, go_sem, hn, hb]
theorem call66 (args : Array Value) (w : World) : (callFunc 59 args).run Tryz.prog w = .ok (.enter 59 args) w := by
  have hn : ¬ Tryz.f59.name = "runtime.NumGoroutine" := by decide
  have hb : ¬ Tryz.f59.body = none := fun h => by
    have h2 : Tryz.f59.body.isNone = false := by kernel_rfl
    rw [h] at h2; cases h2
  simp [callFunc, go_sem, hn, hb]
theorem call54 (args : Array Value) (w : World) : (callFunc 52 args).run Tryz.prog w = .ok (.enter 52 args) w := by
  have hn : ¬ Tryz.f52.name = "runtime.NumGoroutine" := by decide
  have hb : ¬ Tryz.f52.body = none := fun h => by
    have h2 : Tryz.f52.body.isNone = false := by kernel_rfl
    rw [h] at h2; cases h2
  simp [callFunc, go_sem, hn, hb]
theorem idxI_some (q : Sh → Bool) (xs : List Sh) (k : Nat) (hk : k < xs.length) (h : q (at2 xs k) = true) (hb : ∀ j, j < k → q (at2 xs j) = false) : idxI q xs = (k : Int) := by
  have e : xs.findIdx? q = some k := by
    rw [List.findIdx?_eq_some_iff_getElem]
    refine ⟨hk, by rw [← at2_get xs k hk]; exact h, fun j hj => ?_⟩
    rw [← at2_get xs j (by omega), hb j hj]; simp
  rw [idxI, e]
theorem idxI_none (q : Sh → Bool) (xs : List Sh) (hb : ∀ j, j < xs.length → q (at2 xs j) = false) : idxI q xs = -1 := by
  have e : xs.findIdx? q = none := by
    rw [List.findIdx?_eq_none_iff]
    intro x hx
    obtain ⟨j, hj, rfl⟩ := List.mem_iff_getElem.1 hx
    rw [← at2_get xs j hj, hb j hj]
  rw [idxI, e]

set_option maxRecDepth 100000 in
set_option maxHeartbeats 4000000 in
theorem idx_w (fn p : Nat) (q : Sh → Bool) (A : Option Addr) (n c : Nat) (xs : List Sh) (hn : xs.length = n) (hn6 : n ≤ 1000000) (w : World) (hI : SharesAt w A xs)
    (hc : ∀ args w, (callFunc fn args).run Tryz.prog w = .ok (.enter fn args) w) (hf : ∀ x w', Ok w w' → Calls Tryz.prog fn #[shV x, .pointer (some ⟨p, 0, none⟩)] w' (Ret w' (.bool (q x)))) :
    Calls Tryz.prog 100 #[.slice A n c, .func (.func fn) #[] #[.pointer (some ⟨p, 0, none⟩)]] w (Ret w (.int .i64 (idxI q xs))) := by
  have HI := Lib.hid hI
  have HN := Lib.hid hn
  have HF := Lib.hid hf
  have HS := Lib.hid (idxI_some q xs)
  have HZ := Lib.hid (idxI_none q xs)
  obtain ⟨R, hR⟩ : ∃ R, idxI q xs = R := ⟨_, rfl⟩
  rw [hR] at HS HZ ⊢
  clear hI hn hf hR
  go_enter Tryz.func100, Tryz.ntmps100
  go_wp2_with fail
  go_loopw [5, 8] (fun _ i wr => ∃ k : Nat, k ≤ n ∧ i = .int .i64 k ∧ (∀ j, j < k → q (at2 xs j) = false) ∧ Ok w wr) (fun _ i _ => n - (intOf i).toNat)
  case atStart => exact ⟨0, Nat.zero_le _, rfl, fun j hj => absurd hj (Nat.not_lt_zero _), Ok.refl _⟩
  case round =>
    obtain ⟨k, hk, rfl, hb, okr⟩ := hrel
    have HB := Lib.hid hb
    have HOKR := Lib.hid okr
    clear hb okr
    by_cases hlt : k < n
    · have d1 : decide ((k : Int) < (n : Int)) = true := decide_eq_true (by omega)
      obtain ⟨b, off, rfl, C0, C1, C2, C3⟩ := HI.out.ok HOKR.out k (by rw [HN.out]; exact hlt)
      have hf := HF.out (at2 xs k) wr HOKR.out
      have HS := Lib.hid (HS.out k (by rw [HN.out]; exact hlt))
      have HNX : Hid (q (at2 xs k) = false → ∀ j, j < k + 1 → q (at2 xs j) = false) := Lib.hid fun h j hj => by
        by_cases hjk : j < k
        · exact HB.out j hjk
        · obtain rfl : j = k := by omega
          exact h
      unfold shV at hf
      generalize at2 xs k = x at *
      obtain ⟨⟨xl, xh⟩, g, e⟩ := x
      simp only at C0 C1 C2 C3 hf
      have hi0 : (0 : Int) ≤ (k : Int) := Int.natCast_nonneg _
      have hi1 : (k : Int) < (n : Int) := by omega
      go_wp2_with fail
      refine hf.mono ?_
      rintro _ w1 ⟨rfl, o1⟩
      cases h1 : q ⟨⟨xl, xh⟩, g, e⟩ with
      | true =>
        have hr := HS.out h1 HB.out
        go_wp2
        go_ret
        exact ⟨by rw [hr]; rfl, Ok.call HOKR.out o1⟩
      | false =>
        have HNX := Lib.hid (HNX.out h1)
        go_wp2
        refine ⟨⟨k + 1, hlt, rfl, HNX.out, Ok.call HOKR.out o1⟩, ?_⟩
        show n - ((k : Int) + 1).toNat < n - (k : Int).toNat
        omega
    · have d1 : decide ((k : Int) < (n : Int)) = false := decide_eq_false (by omega)
      have hr := HZ.out fun j hj => HB.out j (by rw [HN.out] at hj; omega)
      go_wp2
      go_ret
      exact ⟨by rw [hr]; rfl, HOKR.out⟩

set_option maxRecDepth 100000 in
set_option maxHeartbeats 4000000 in
theorem contains_w (fn p : Nat) (q : Sh → Bool) (A : Option Addr) (n c : Nat) (xs : List Sh) (hn : xs.length = n) (hn6 : n ≤ 1000000) (w : World) (hI : SharesAt w A xs)
    (hc : ∀ args w, (callFunc fn args).run Tryz.prog w = .ok (.enter fn args) w) (hf : ∀ x w', Ok w w' → Calls Tryz.prog fn #[shV x, .pointer (some ⟨p, 0, none⟩)] w' (Ret w' (.bool (q x)))) :
    Calls Tryz.prog 66 #[.slice A n c, .func (.func fn) #[] #[.pointer (some ⟨p, 0, none⟩)]] w (Ret w (.bool (decide (0 ≤ idxI q xs)))) := by
  have hi := idx_w fn p q A n c xs hn hn6 w hI hc hf
  go_enter Tryz.func66, Tryz.ntmps66
  go_wp2_with fail
  refine hi.mono ?_
  rintro _ w1 ⟨rfl, o1⟩
  go_wp2
  go_ret
  exact ⟨rfl, o1⟩
end Go.Proofs.YtdabdkedgigjdaaGreat
