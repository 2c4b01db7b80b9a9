/- Acts that are right, told so; the document's example. -/
import Derived.Test.YthbbbjkgfdnkhaaDoorAh
namespace Go.Proofs.YthbbbjkgfdnkhaaDoor
open Go.RowKit
set_option maxHeartbeats 1000000 in
theorem key_k (w : World) : Calls Tryd.prog 50 #[.string ⟨#[107]⟩] w (Ret w (.bool true)) := by
  have HL : Hid (Calls Tryd.prog 58 #[.int .u8 107] w fun e w' => e = .returned (.bool true) ∧ w = w') := Lib.hid (by
    go_enter Tryd.func58, Tryd.ntmps58
    go_wp2
    go_ret
    exact ⟨rfl, rfl⟩)
  go_enter Tryd.func50, Tryd.ntmps50
  go_wp2_with fail
  go_loop [3, 14] (fun _ i => i = .int .i64 0 ∨ i = .int .i64 1) (fun _ i => 1 - (intOf i).toNat)
  case atStart => exact .inl rfl
  case round =>
    rcases hrel with rfl | rfl
    · go_wp2_with fail
      change Calls Tryd.prog 58 #[.int .u8 107] _ _
      (with_reducible refine HL.out.mono ?_)
      rintro _ w1 ⟨rfl, rfl⟩
      go_wp2_with fail
      go_round
      case rel => exact .inr rfl
      case measure => decide
    · go_wp2_with fail
      go_ret
      exact ⟨rfl, Ok.refl _⟩
set_option maxHeartbeats 1000000 in
theorem right_get (w : World) : Calls Tryd.prog 39 #[.agg #[.int .u8 1, .string ⟨#[107]⟩, .string ⟨#[]⟩, .int .i64 0]] w (Ret w (.bool true)) := by
  have HKy := Lib.hid (fun w => key_k w)
  go_enter Tryd.func39, Tryd.ntmps39
  go_wp2_with fail
  (with_reducible refine (HKy.out _).mono ?_)
  rintro _ w1 ⟨rfl, o1⟩
  have K0 := Ok.cell o1 (a := ⟨w.heap.size, 0, none⟩) (v := .int .u8 1) (by rw [World.cell?_alloc_at _ _ _ _ rfl]; rfl)
  have K2 := Ok.cell o1 (a := ⟨w.heap.size, 2, none⟩) (v := .string ⟨#[]⟩) (by rw [World.cell?_alloc_at _ _ _ _ rfl]; rfl)
  have K3 := Ok.cell o1 (a := ⟨w.heap.size, 3, none⟩) (v := .int .i64 0) (by rw [World.cell?_alloc_at _ _ _ _ rfl]; rfl)
  have HO := Lib.hid (Ok.trans ((Ok.refl w).alloc _) o1)
  clear o1
  go_wp2_with fail
  go_ret
  exact ⟨rfl, HO.out⟩
set_option maxHeartbeats 1000000 in
theorem right_add (w : World) : Calls Tryd.prog 39 #[.agg #[.int .u8 3, .string ⟨#[107]⟩, .string ⟨#[]⟩, .int .i64 2]] w (Ret w (.bool true)) := by
  have HKy := Lib.hid (fun w => key_k w)
  go_enter Tryd.func39, Tryd.ntmps39
  go_wp2_with fail
  (with_reducible refine (HKy.out _).mono ?_)
  rintro _ w1 ⟨rfl, o1⟩
  have K0 := Ok.cell o1 (a := ⟨w.heap.size, 0, none⟩) (v := .int .u8 3) (by rw [World.cell?_alloc_at _ _ _ _ rfl]; rfl)
  have K2 := Ok.cell o1 (a := ⟨w.heap.size, 2, none⟩) (v := .string ⟨#[]⟩) (by rw [World.cell?_alloc_at _ _ _ _ rfl]; rfl)
  have K3 := Ok.cell o1 (a := ⟨w.heap.size, 3, none⟩) (v := .int .i64 2) (by rw [World.cell?_alloc_at _ _ _ _ rfl]; rfl)
  have HO := Lib.hid (Ok.trans ((Ok.refl w).alloc _) o1)
  clear o1
  go_wp2_with fail
  go_ret
  exact ⟨rfl, HO.out⟩
theorem acts_new (w : World) (k1 : Int) (s1 t1 : Str) (m1 : Int) (k2 : Int) (s2 t2 : Str) (m2 : Int) (k3 : Int) (s3 t3 : Str) (m3 : Int) : ActsAt (w.alloc (.cells #[.int .u8 k1, .string s1, .string t1, .int .i64 m1, .int .u8 k2, .string s2, .string t2, .int .i64 m2, .int .u8 k3, .string s3, .string t3, .int .i64 m3] 52)) (some ⟨w.heap.size, 0, none⟩) [⟨k1, s1, t1, m1⟩, ⟨k2, s2, t2, m2⟩, ⟨k3, s3, t3, m3⟩] := fun j hj => by
  have h := blk_new (w := w) (o := .cells #[.int .u8 k1, .string s1, .string t1, .int .i64 m1, .int .u8 k2, .string s2, .string t2, .int .i64 m2, .int .u8 k3, .string s3, .string t3, .int .i64 m3] 52) rfl
  have hj2 : j < 3 := hj
  refine ⟨_, 0, rfl, ?_⟩
  obtain rfl | rfl | rfl : j = 0 ∨ j = 1 ∨ j = 2 := by omega
  · refine ⟨?_, ?_, ?_, ?_⟩ <;> (rw [cell_of_heap h]; rfl)
  · refine ⟨?_, ?_, ?_, ?_⟩ <;> (rw [cell_of_heap h]; rfl)
  · refine ⟨?_, ?_, ?_, ?_⟩ <;> (rw [cell_of_heap h]; rfl)
def RightAt (a : Ac) : Prop := ∀ w, Calls Tryd.prog 39 #[acV a] w (Ret w (.bool true))
set_option maxRecDepth 100000 in
set_option maxHeartbeats 1000000 in
theorem notRight_w (a : Ac) (h : RightAt a) (w : World) : Calls Tryd.prog 38 #[acV a] w (Ret w (.bool false)) := by
  have HR := Lib.hid (fun w' => h w')
  obtain ⟨kind, key, value, num⟩ := a
  unfold acV at HR ⊢
  simp only at HR ⊢
  clear h
  go_enter Tryd.func38, Tryd.ntmps38
  go_wp2_with fail
  (with_reducible refine (HR.out _).mono ?_)
  rintro _ w1 ⟨rfl, o1⟩
  have HO := Lib.hid (Ok.trans ((Ok.refl w).alloc _) o1)
  clear o1
  go_wp2_with fail
  go_ret
  exact ⟨rfl, HO.out⟩
set_option maxRecDepth 100000 in
set_option maxHeartbeats 1000000 in
theorem idx_w (A : Option Addr) (n c : Nat) (l : List Ac) (hn : l.length = n) (hn6 : n ≤ 6) (hr : ∀ j, j < n → RightAt (atA l j)) (w : World) (hI : ActsAt w A l) :
    Calls Tryd.prog 49 #[.slice A n c, .func (.func 38) #[] #[]] w (Ret w (.int .i64 (-1))) := by
  have HI := Lib.hid hI
  have HN := Lib.hid hn
  have HR := Lib.hid hr
  clear hI hn hr
  go_enter Tryd.func49, Tryd.ntmps49
  go_wp2_with fail
  go_loopw [5, 8] (fun _ i wr => ∃ k : Nat, k ≤ n ∧ i = .int .i64 k ∧ Ok w wr) (fun _ i _ => n - (intOf i).toNat)
  case atStart => exact ⟨0, Nat.zero_le _, rfl, Ok.refl _⟩
  case round =>
    obtain ⟨k, hk, rfl, okr⟩ := hrel
    have HOKR := Lib.hid okr
    clear okr
    by_cases hlt : k < n
    · have d1 : decide ((k : Int) < (n : Int)) = true := decide_eq_true (by omega)
      obtain ⟨b, off, rfl, C0, C1, C2, C3⟩ := (HI.out.ok HOKR.out) k (by rw [HN.out]; exact hlt)
      have HF := Lib.hid (notRight_w _ (HR.out k hlt) wr)
      generalize atA l k = a at *
      obtain ⟨kind, key, value, num⟩ := a
      unfold acV at HF
      simp only at C0 C1 C2 C3 HF
      have hi0 : (0 : Int) ≤ (k : Int) := Int.natCast_nonneg _
      have hi1 : (k : Int) < (n : Int) := by omega
      go_wp2_with fail
      (with_reducible refine HF.out.mono ?_)
      rintro _ w1 ⟨rfl, o1⟩
      have HO := Lib.hid (Ok.trans HOKR.out o1)
      clear o1
      go_wp2_with fail
      refine ⟨⟨k + 1, hlt, by go_num, HO.out⟩, by simp [intOf]; omega⟩
    · have d1 : decide ((k : Int) < (n : Int)) = false := decide_eq_false (by omega)
      go_wp2_with fail
      go_ret
      exact ⟨rfl, HOKR.out⟩
set_option maxRecDepth 100000 in
set_option maxHeartbeats 1000000 in
theorem right_w (A : Option Addr) (n c : Nat) (l : List Ac) (hn : l.length = n) (hn1 : 1 ≤ n ∧ n ≤ 6) (hr : ∀ j, j < n → RightAt (atA l j)) (w : World) (hI : ActsAt w A l) :
    Calls Tryd.prog 14 #[.slice A n c] w (Ret w (.bool true)) := by
  have HX := Lib.hid (idx_w A n c l hn hn1.2 hr w hI)
  have HC : Hid (Calls Tryd.prog 37 #[.slice A n c, .func (.func 38) #[] #[]] w (Ret w (.bool false))) := Lib.hid (by
    clear hI hr hn
    go_enter Tryd.func37, Tryd.ntmps37
    go_wp2_with fail
    (with_reducible refine HX.out.mono ?_)
    rintro _ w1 ⟨rfl, o1⟩
    have HO := Lib.hid o1
    clear o1
    go_wp2_with fail
    go_ret
    exact ⟨rfl, HO.out⟩)
  obtain ⟨h1, h6⟩ := hn1
  have d1 : decide ((1 : Int) ≤ (n : Int)) = true := decide_eq_true (by omega)
  have d2 : decide ((n : Int) ≤ 6) = true := decide_eq_true (by omega)
  have d3 : decide (1 ≤ n) = true := decide_eq_true h1
  have d4 : decide (n ≤ 6) = true := decide_eq_true h6
  clear hI hr hn HX
  go_enter Tryd.func14, Tryd.ntmps14
  go_wp2_with fail
  (with_reducible refine HC.out.mono ?_)
  rintro _ w1 ⟨rfl, o1⟩
  have HO := Lib.hid o1
  clear o1
  go_wp2_with fail
  go_ret
  exact ⟨rfl, HO.out⟩
end Go.Proofs.YthbbbjkgfdnkhaaDoor
