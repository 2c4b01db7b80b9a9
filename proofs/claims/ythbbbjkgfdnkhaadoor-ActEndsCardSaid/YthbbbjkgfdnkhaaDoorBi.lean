/- Whether an act is right: the program and the document. -/
import Derived.Test.YthbbbjkgfdnkhaaDoorBh
namespace Go.Proofs.YthbbbjkgfdnkhaaDoor
open Go.RowKit
def noV (v : Str) : Bool := v.toList == []
def rightAB (a : Ac) : Bool := keyB a.key && (if a.kind = 1 then noV a.value && decide (a.num = 0) else if a.kind = 2 then valB a.value && decide (a.num = 0) else if a.kind = 3 then noV a.value && (decide (-1073741824 ≤ a.num) && decide (a.num ≤ 1073741824)) else false)
set_option maxRecDepth 100000 in
set_option maxHeartbeats 4000000 in
theorem rightA_w (a : Ac) (hs : a.value.size ≤ 100000) (w : World) : Calls Tryd.prog 39 #[acV a] w (Ret w (.bool (rightAB a))) := by
  obtain ⟨kind, key, value, num⟩ := a
  simp only at hs
  unfold acV rightAB noV
  simp only
  have HK := Lib.hid (fun V => key_w key V)
  have HV := Lib.hid (fun V => valued_w value hs V)
  generalize keyB key = kb at *
  generalize valB value = vb at *
  clear hs
  go_enter Tryd.func39, Tryd.ntmps39
  by_cases k1 : kind = 1
  · subst k1
    rw [if_pos rfl]
    go_wp2_with fail
    (with_reducible refine (HK.out _).mono ?_)
    rintro _ w1 ⟨rfl, o1⟩
    have K0 := Ok.cell o1 (a := ⟨w.heap.size, 0, none⟩) (v := .int .u8 1) (by rw [World.cell?_alloc_at _ _ _ _ rfl]; rfl)
    have K1 := Ok.cell o1 (a := ⟨w.heap.size, 1, none⟩) (v := .string key) (by rw [World.cell?_alloc_at _ _ _ _ rfl]; rfl)
    have K2 := Ok.cell o1 (a := ⟨w.heap.size, 2, none⟩) (v := .string value) (by rw [World.cell?_alloc_at _ _ _ _ rfl]; rfl)
    have K3 := Ok.cell o1 (a := ⟨w.heap.size, 3, none⟩) (v := .int .i64 num) (by rw [World.cell?_alloc_at _ _ _ _ rfl]; rfl)
    have HO := Lib.hid (Ok.trans ((Ok.refl w).alloc _) o1)
    clear o1
    cases kb with
    | false =>
      go_wp2_with fail
      go_ret
      exact ⟨by first | rfl | (simp; done) | (clear HK HV HO; simp_all; done) | (clear HK HV HO; simp_all; intros; omega), HO.out⟩
    | true =>
      cases hnv : (value.toList == []) with
      | false =>
        go_wp2_with fail
        go_ret
        exact ⟨by first | rfl | (simp; done) | (clear HK HV HO; simp_all; done) | (clear HK HV HO; simp_all; intros; omega), HO.out⟩
      | true =>
        by_cases hz : num = 0
        · have dz : (num == 0) = true := by simpa using hz
          rw [decide_eq_true hz]
          clear hz
          go_wp2_with fail
          go_ret
          exact ⟨by first | rfl | (simp; done) | (clear HK HV HO; simp_all; done) | (clear HK HV HO; simp_all; intros; omega), HO.out⟩
        · have dz : (num == 0) = false := by simpa using hz
          rw [decide_eq_false hz]
          clear hz
          go_wp2_with fail
          go_ret
          exact ⟨by first | rfl | (simp; done) | (clear HK HV HO; simp_all; done) | (clear HK HV HO; simp_all; intros; omega), HO.out⟩
  rw [if_neg k1]
  by_cases k2 : kind = 2
  · subst k2
    rw [if_pos rfl]
    clear k1
    go_wp2_with fail
    (with_reducible refine (HK.out _).mono ?_)
    rintro _ w1 ⟨rfl, o1⟩
    have K0 := Ok.cell o1 (a := ⟨w.heap.size, 0, none⟩) (v := .int .u8 2) (by rw [World.cell?_alloc_at _ _ _ _ rfl]; rfl)
    have K1 := Ok.cell o1 (a := ⟨w.heap.size, 1, none⟩) (v := .string key) (by rw [World.cell?_alloc_at _ _ _ _ rfl]; rfl)
    have K2 := Ok.cell o1 (a := ⟨w.heap.size, 2, none⟩) (v := .string value) (by rw [World.cell?_alloc_at _ _ _ _ rfl]; rfl)
    have K3 := Ok.cell o1 (a := ⟨w.heap.size, 3, none⟩) (v := .int .i64 num) (by rw [World.cell?_alloc_at _ _ _ _ rfl]; rfl)
    have HO := Lib.hid (Ok.trans ((Ok.refl w).alloc _) o1)
    clear o1
    cases kb with
    | false =>
      go_wp2_with fail
      go_ret
      exact ⟨by first | rfl | (simp; done) | (clear HK HV HO; simp_all; done) | (clear HK HV HO; simp_all; intros; omega), HO.out⟩
    | true =>
      go_wp2_with fail
      (with_reducible refine (HV.out _).mono ?_)
      rintro _ w2 ⟨rfl, o2⟩
      replace K3 := Ok.cell o2 K3
      replace HO := Lib.hid (Ok.trans HO.out o2)
      clear o2 K0 K1 K2
      cases vb with
      | false =>
        go_wp2_with fail
        go_ret
        exact ⟨by first | rfl | (simp; done) | (clear HK HV HO; simp_all; done) | (clear HK HV HO; simp_all; intros; omega), HO.out⟩
      | true =>
        by_cases hz : num = 0
        · have dz : (num == 0) = true := by simpa using hz
          rw [decide_eq_true hz]
          clear hz
          go_wp2_with fail
          go_ret
          exact ⟨by first | rfl | (simp; done) | (clear HK HV HO; simp_all; done) | (clear HK HV HO; simp_all; intros; omega), HO.out⟩
        · have dz : (num == 0) = false := by simpa using hz
          rw [decide_eq_false hz]
          clear hz
          go_wp2_with fail
          go_ret
          exact ⟨by first | rfl | (simp; done) | (clear HK HV HO; simp_all; done) | (clear HK HV HO; simp_all; intros; omega), HO.out⟩
  rw [if_neg k2]
  by_cases k3 : kind = 3
  · subst k3
    rw [if_pos rfl]
    clear k1 k2
    go_wp2_with fail
    (with_reducible refine (HK.out _).mono ?_)
    rintro _ w1 ⟨rfl, o1⟩
    have K0 := Ok.cell o1 (a := ⟨w.heap.size, 0, none⟩) (v := .int .u8 3) (by rw [World.cell?_alloc_at _ _ _ _ rfl]; rfl)
    have K1 := Ok.cell o1 (a := ⟨w.heap.size, 1, none⟩) (v := .string key) (by rw [World.cell?_alloc_at _ _ _ _ rfl]; rfl)
    have K2 := Ok.cell o1 (a := ⟨w.heap.size, 2, none⟩) (v := .string value) (by rw [World.cell?_alloc_at _ _ _ _ rfl]; rfl)
    have K3 := Ok.cell o1 (a := ⟨w.heap.size, 3, none⟩) (v := .int .i64 num) (by rw [World.cell?_alloc_at _ _ _ _ rfl]; rfl)
    have HO := Lib.hid (Ok.trans ((Ok.refl w).alloc _) o1)
    clear o1
    cases kb with
    | false =>
      go_wp2_with fail
      go_ret
      exact ⟨by first | rfl | (simp; done) | (clear HK HV HO; simp_all; done) | (clear HK HV HO; simp_all; intros; omega), HO.out⟩
    | true =>
      cases hnv : (value.toList == []) with
      | false =>
        go_wp2_with fail
        go_ret
        exact ⟨by first | rfl | (simp; done) | (clear HK HV HO; simp_all; done) | (clear HK HV HO; simp_all; intros; omega), HO.out⟩
      | true =>
        by_cases h1 : -1073741824 ≤ num
        · have r1 : decide (-1073741824 ≤ num) = true := decide_eq_true h1
          rw [r1]
          clear h1
          by_cases h2 : num ≤ 1073741824
          · have r2 : decide (num ≤ 1073741824) = true := decide_eq_true h2
            rw [r2]
            clear h2
            go_wp2_with fail
            go_ret
            exact ⟨by first | rfl | (simp; done) | (clear HK HV HO; simp_all; done) | (clear HK HV HO; simp_all; intros; omega), HO.out⟩
          · have r2 : decide (num ≤ 1073741824) = false := decide_eq_false h2
            rw [r2]
            clear h2
            go_wp2_with fail
            go_ret
            exact ⟨by first | rfl | (simp; done) | (clear HK HV HO; simp_all; done) | (clear HK HV HO; simp_all; intros; omega), HO.out⟩
        · have r1 : decide (-1073741824 ≤ num) = false := decide_eq_false h1
          rw [r1]
          clear h1
          go_wp2_with fail
          go_ret
          exact ⟨by first | rfl | (simp; done) | (clear HK HV HO; simp_all; done) | (clear HK HV HO; simp_all; intros; omega), HO.out⟩
  rw [if_neg k3]
  have e1 : (kind == 1) = false := by simpa using k1
  have e2 : (kind == 2) = false := by simpa using k2
  have e3 : (kind == 3) = false := by simpa using k3
  clear k1 k2 k3
  go_wp2_with fail
  (with_reducible refine (HK.out _).mono ?_)
  rintro _ w1 ⟨rfl, o1⟩
  have K0 := Ok.cell o1 (a := ⟨w.heap.size, 0, none⟩) (v := .int .u8 kind) (by rw [World.cell?_alloc_at _ _ _ _ rfl]; rfl)
  have K1 := Ok.cell o1 (a := ⟨w.heap.size, 1, none⟩) (v := .string key) (by rw [World.cell?_alloc_at _ _ _ _ rfl]; rfl)
  have K2 := Ok.cell o1 (a := ⟨w.heap.size, 2, none⟩) (v := .string value) (by rw [World.cell?_alloc_at _ _ _ _ rfl]; rfl)
  have K3 := Ok.cell o1 (a := ⟨w.heap.size, 3, none⟩) (v := .int .i64 num) (by rw [World.cell?_alloc_at _ _ _ _ rfl]; rfl)
  have HO := Lib.hid (Ok.trans ((Ok.refl w).alloc _) o1)
  clear o1
  cases kb with
  | false =>
    go_wp2_with fail
    go_ret
    exact ⟨by first | rfl | (simp; done) | (clear HK HV HO; simp_all; done) | (clear HK HV HO; simp_all; intros; omega), HO.out⟩
  | true =>
    go_wp2_with fail
    go_ret
    exact ⟨by first | rfl | (simp; done) | (clear HK HV HO; simp_all; done) | (clear HK HV HO; simp_all; intros; omega), HO.out⟩
set_option maxRecDepth 100000 in
set_option maxHeartbeats 4000000 in
theorem one_w (a : Ac) (hs : a.value.size ≤ 100000) (w : World) : Calls Tryd.prog 40 #[acV a] w (Ret w (.bool (rightAB a))) := by
  obtain ⟨kind, key, value, num⟩ := a
  simp only at hs
  unfold acV rightAB noV
  simp only
  have HK := Lib.hid (fun V => rkey_w key V)
  have HV := Lib.hid (fun V => rvalued_w value hs V)
  generalize keyB key = kb at *
  generalize valB value = vb at *
  clear hs
  go_enter Tryd.func40, Tryd.ntmps40
  by_cases k1 : kind = 1
  · subst k1
    rw [if_pos rfl]
    go_wp2_with fail
    (with_reducible refine (HK.out _).mono ?_)
    rintro _ w1 ⟨rfl, o1⟩
    have K0 := Ok.cell o1 (a := ⟨w.heap.size, 0, none⟩) (v := .int .u8 1) (by rw [World.cell?_alloc_at _ _ _ _ rfl]; rfl)
    have K1 := Ok.cell o1 (a := ⟨w.heap.size, 1, none⟩) (v := .string key) (by rw [World.cell?_alloc_at _ _ _ _ rfl]; rfl)
    have K2 := Ok.cell o1 (a := ⟨w.heap.size, 2, none⟩) (v := .string value) (by rw [World.cell?_alloc_at _ _ _ _ rfl]; rfl)
    have K3 := Ok.cell o1 (a := ⟨w.heap.size, 3, none⟩) (v := .int .i64 num) (by rw [World.cell?_alloc_at _ _ _ _ rfl]; rfl)
    have HO := Lib.hid (Ok.trans ((Ok.refl w).alloc _) o1)
    clear o1
    cases kb with
    | false =>
      go_wp2_with fail
      go_ret
      exact ⟨by first | rfl | (simp; done) | (clear HK HV HO; simp_all; done) | (clear HK HV HO; simp_all; intros; omega), HO.out⟩
    | true =>
      cases hnv : (value.toList == []) with
      | false =>
        go_wp2_with fail
        go_ret
        exact ⟨by first | rfl | (simp; done) | (clear HK HV HO; simp_all; done) | (clear HK HV HO; simp_all; intros; omega), HO.out⟩
      | true =>
        by_cases hz : num = 0
        · have dz : (num == 0) = true := by simpa using hz
          rw [decide_eq_true hz]
          clear hz
          go_wp2_with fail
          go_ret
          exact ⟨by first | rfl | (simp; done) | (clear HK HV HO; simp_all; done) | (clear HK HV HO; simp_all; intros; omega), HO.out⟩
        · have dz : (num == 0) = false := by simpa using hz
          rw [decide_eq_false hz]
          clear hz
          go_wp2_with fail
          go_ret
          exact ⟨by first | rfl | (simp; done) | (clear HK HV HO; simp_all; done) | (clear HK HV HO; simp_all; intros; omega), HO.out⟩
  rw [if_neg k1]
  by_cases k2 : kind = 2
  · subst k2
    rw [if_pos rfl]
    clear k1
    go_wp2_with fail
    (with_reducible refine (HK.out _).mono ?_)
    rintro _ w1 ⟨rfl, o1⟩
    have K0 := Ok.cell o1 (a := ⟨w.heap.size, 0, none⟩) (v := .int .u8 2) (by rw [World.cell?_alloc_at _ _ _ _ rfl]; rfl)
    have K1 := Ok.cell o1 (a := ⟨w.heap.size, 1, none⟩) (v := .string key) (by rw [World.cell?_alloc_at _ _ _ _ rfl]; rfl)
    have K2 := Ok.cell o1 (a := ⟨w.heap.size, 2, none⟩) (v := .string value) (by rw [World.cell?_alloc_at _ _ _ _ rfl]; rfl)
    have K3 := Ok.cell o1 (a := ⟨w.heap.size, 3, none⟩) (v := .int .i64 num) (by rw [World.cell?_alloc_at _ _ _ _ rfl]; rfl)
    have HO := Lib.hid (Ok.trans ((Ok.refl w).alloc _) o1)
    clear o1
    cases kb with
    | false =>
      go_wp2_with fail
      go_ret
      exact ⟨by first | rfl | (simp; done) | (clear HK HV HO; simp_all; done) | (clear HK HV HO; simp_all; intros; omega), HO.out⟩
    | true =>
      go_wp2_with fail
      (with_reducible refine (HV.out _).mono ?_)
      rintro _ w2 ⟨rfl, o2⟩
      replace K3 := Ok.cell o2 K3
      replace HO := Lib.hid (Ok.trans HO.out o2)
      clear o2 K0 K1 K2
      cases vb with
      | false =>
        go_wp2_with fail
        go_ret
        exact ⟨by first | rfl | (simp; done) | (clear HK HV HO; simp_all; done) | (clear HK HV HO; simp_all; intros; omega), HO.out⟩
      | true =>
        by_cases hz : num = 0
        · have dz : (num == 0) = true := by simpa using hz
          rw [decide_eq_true hz]
          clear hz
          go_wp2_with fail
          go_ret
          exact ⟨by first | rfl | (simp; done) | (clear HK HV HO; simp_all; done) | (clear HK HV HO; simp_all; intros; omega), HO.out⟩
        · have dz : (num == 0) = false := by simpa using hz
          rw [decide_eq_false hz]
          clear hz
          go_wp2_with fail
          go_ret
          exact ⟨by first | rfl | (simp; done) | (clear HK HV HO; simp_all; done) | (clear HK HV HO; simp_all; intros; omega), HO.out⟩
  rw [if_neg k2]
  by_cases k3 : kind = 3
  · subst k3
    rw [if_pos rfl]
    clear k1 k2
    go_wp2_with fail
    (with_reducible refine (HK.out _).mono ?_)
    rintro _ w1 ⟨rfl, o1⟩
    have K0 := Ok.cell o1 (a := ⟨w.heap.size, 0, none⟩) (v := .int .u8 3) (by rw [World.cell?_alloc_at _ _ _ _ rfl]; rfl)
    have K1 := Ok.cell o1 (a := ⟨w.heap.size, 1, none⟩) (v := .string key) (by rw [World.cell?_alloc_at _ _ _ _ rfl]; rfl)
    have K2 := Ok.cell o1 (a := ⟨w.heap.size, 2, none⟩) (v := .string value) (by rw [World.cell?_alloc_at _ _ _ _ rfl]; rfl)
    have K3 := Ok.cell o1 (a := ⟨w.heap.size, 3, none⟩) (v := .int .i64 num) (by rw [World.cell?_alloc_at _ _ _ _ rfl]; rfl)
    have HO := Lib.hid (Ok.trans ((Ok.refl w).alloc _) o1)
    clear o1
    cases kb with
    | false =>
      go_wp2_with fail
      go_ret
      exact ⟨by first | rfl | (simp; done) | (clear HK HV HO; simp_all; done) | (clear HK HV HO; simp_all; intros; omega), HO.out⟩
    | true =>
      cases hnv : (value.toList == []) with
      | false =>
        go_wp2_with fail
        go_ret
        exact ⟨by first | rfl | (simp; done) | (clear HK HV HO; simp_all; done) | (clear HK HV HO; simp_all; intros; omega), HO.out⟩
      | true =>
        by_cases h1 : -1073741824 ≤ num
        · have r1 : decide (-1073741824 ≤ num) = true := decide_eq_true h1
          rw [r1]
          clear h1
          by_cases h2 : num ≤ 1073741824
          · have r2 : decide (num ≤ 1073741824) = true := decide_eq_true h2
            rw [r2]
            clear h2
            go_wp2_with fail
            go_ret
            exact ⟨by first | rfl | (simp; done) | (clear HK HV HO; simp_all; done) | (clear HK HV HO; simp_all; intros; omega), HO.out⟩
          · have r2 : decide (num ≤ 1073741824) = false := decide_eq_false h2
            rw [r2]
            clear h2
            go_wp2_with fail
            go_ret
            exact ⟨by first | rfl | (simp; done) | (clear HK HV HO; simp_all; done) | (clear HK HV HO; simp_all; intros; omega), HO.out⟩
        · have r1 : decide (-1073741824 ≤ num) = false := decide_eq_false h1
          rw [r1]
          clear h1
          go_wp2_with fail
          go_ret
          exact ⟨by first | rfl | (simp; done) | (clear HK HV HO; simp_all; done) | (clear HK HV HO; simp_all; intros; omega), HO.out⟩
  rw [if_neg k3]
  have e1 : (kind == 1) = false := by simpa using k1
  have e2 : (kind == 2) = false := by simpa using k2
  have e3 : (kind == 3) = false := by simpa using k3
  have HO := Lib.hid ((Ok.refl w).alloc (.cells #[.int .u8 kind, .string key, .string value, .int .i64 num] 52))
  clear k1 k2 k3
  go_wp2_with fail
  go_ret
  exact ⟨by first | rfl | (simp; done) | (clear HK HV HO; simp_all; done) | (clear HK HV HO; simp_all; intros; omega), HO.out⟩
end Go.Proofs.YthbbbjkgfdnkhaaDoor
