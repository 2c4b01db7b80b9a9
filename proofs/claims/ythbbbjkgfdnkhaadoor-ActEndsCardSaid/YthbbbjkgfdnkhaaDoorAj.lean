/- The document's example of acts: awake. -/
import Derived.Test.YthbbbjkgfdnkhaaDoorAi
namespace Go.Proofs.YthbbbjkgfdnkhaaDoor
open Go.RowKit
def exL : List Ac := [⟨1, ⟨#[107]⟩, ⟨#[]⟩, 0⟩, ⟨3, ⟨#[107]⟩, ⟨#[]⟩, 2⟩, ⟨1, ⟨#[107]⟩, ⟨#[]⟩, 0⟩]
def exR : List Rd := [⟨⟨#[107]⟩, true, ⟨#[53]⟩⟩, ⟨⟨#[107]⟩, true, ⟨#[53]⟩⟩, ⟨⟨#[107]⟩, true, ⟨#[55]⟩⟩]
theorem sum57 : sumV ⟨#[53]⟩ 2 = ⟨#[55]⟩ := by
  unfold sumV valueT
  rw [show boundM (numV (⟨#[53]⟩ : Str).data.toList + boundM 2 2147483648) 1073741824 = ((7 : Nat) : Int) by decide, itoa_pos, Lib.decDigits, dif_pos (by decide)]
  rfl
theorem ex_run : runA (st0 true ⟨#[53]⟩) exL = ⟨exR, true, ⟨#[55]⟩, true⟩ := by
  show stepA (stepA (stepA ⟨[], true, ⟨#[53]⟩, false⟩ ⟨1, ⟨#[107]⟩, ⟨#[]⟩, 0⟩) ⟨3, ⟨#[107]⟩, ⟨#[]⟩, 2⟩) ⟨1, ⟨#[107]⟩, ⟨#[]⟩, 0⟩ = _
  have e1 : stepA ⟨[], true, ⟨#[53]⟩, false⟩ ⟨1, ⟨#[107]⟩, ⟨#[]⟩, 0⟩ = ⟨[⟨⟨#[107]⟩, true, ⟨#[53]⟩⟩], true, ⟨#[53]⟩, false⟩ := by unfold stepA; rw [if_pos rfl]; rfl
  have e2 : stepA ⟨[⟨⟨#[107]⟩, true, ⟨#[53]⟩⟩], true, ⟨#[53]⟩, false⟩ ⟨3, ⟨#[107]⟩, ⟨#[]⟩, 2⟩ = ⟨[⟨⟨#[107]⟩, true, ⟨#[53]⟩⟩, ⟨⟨#[107]⟩, true, ⟨#[53]⟩⟩], true, ⟨#[55]⟩, true⟩ := by
    unfold stepA
    rw [if_neg (by show ¬ (3 : Int) = 1; decide), if_neg (by show ¬ (3 : Int) = 2; decide), if_pos rfl]
    rw [sum57]; rfl
  rw [e1, e2]
  unfold stepA
  rw [if_pos rfl]
  rfl
theorem ex_right : ∀ j, j < 3 → RightAt (atA exL j) := fun j hj w => by
  obtain rfl | rfl | rfl : j = 0 ∨ j = 1 ∨ j = 2 := by omega
  · exact right_get w
  · exact right_add w
  · exact right_get w
set_option maxRecDepth 100000 in
set_option maxHeartbeats 2000000 in
theorem awake_w (w : World) (ht : Tb w) : Calls Tryd.prog 8 #[] w (Ret w (.bool true)) := by
  have oa := (Ok.refl w).alloc (.cells #[.int .u8 1, .string ⟨#[107]⟩, .string ⟨#[]⟩, .int .i64 0, .int .u8 3, .string ⟨#[107]⟩, .string ⟨#[]⟩, .int .i64 2, .int .u8 1, .string ⟨#[107]⟩, .string ⟨#[]⟩, .int .i64 0] 52)
  have HA := Lib.hid oa
  have hacts : ActsAt (w.alloc (.cells #[.int .u8 1, .string ⟨#[107]⟩, .string ⟨#[]⟩, .int .i64 0, .int .u8 3, .string ⟨#[107]⟩, .string ⟨#[]⟩, .int .i64 2, .int .u8 1, .string ⟨#[107]⟩, .string ⟨#[]⟩, .int .i64 0] 52)) (some ⟨w.heap.size, 0, none⟩) exL := acts_new w 1 _ _ 0 3 _ _ 2 1 _ _ 0
  have HD := Lib.hid (do_w true ⟨#[53]⟩ (some ⟨w.heap.size, 0, none⟩) 3 3 exL rfl (by decide) (by decide) (by intro a ha; simp only [exL, List.mem_cons, List.not_mem_nil, or_false] at ha; rcases ha with rfl | rfl | rfl <;> decide) _ (ht.ok oa) hacts)
  rw [ex_run] at HD
  have HR := Lib.hid (fun V (k : Ok (w.alloc (.cells #[.int .u8 1, .string ⟨#[107]⟩, .string ⟨#[]⟩, .int .i64 0, .int .u8 3, .string ⟨#[107]⟩, .string ⟨#[]⟩, .int .i64 2, .int .u8 1, .string ⟨#[107]⟩, .string ⟨#[]⟩, .int .i64 0] 52)) V) => right_w (some ⟨w.heap.size, 0, none⟩) 3 3 exL rfl (by decide) ex_right V (hacts.ok k))
  clear oa hacts ht
  go_enter Tryd.func8, Tryd.ntmps8
  go_wp2_with fail
  generalize w.heap.size = q at *
  generalize w.alloc (.cells #[.int .u8 1, .string ⟨#[107]⟩, .string ⟨#[]⟩, .int .i64 0, .int .u8 3, .string ⟨#[107]⟩, .string ⟨#[]⟩, .int .i64 2, .int .u8 1, .string ⟨#[107]⟩, .string ⟨#[]⟩, .int .i64 0] 52) = V at *
  (with_reducible refine HD.out.mono ?_)
  rintro _ w1 ⟨A, n, c, rfl, hown, o1⟩
  obtain ⟨h1, hn⟩ := hown
  have hn3 : n = 3 := hn
  subst hn3
  rcases h1.2 with ⟨_, h5⟩ | ⟨g, cap, cur, e, r⟩
  · exact absurd h5 (by decide)
  simp only [Value.slice.injEq] at e
  obtain ⟨rfl, -, rfl⟩ := e
  have C2 : w1.cell? ⟨g, 2, none⟩ = some (.string ⟨#[53]⟩) := by rw [World.ownsRow.cellAt h1 2 (by decide)]; rfl
  have C5 : w1.cell? ⟨g, 5, none⟩ = some (.string ⟨#[53]⟩) := by rw [World.ownsRow.cellAt h1 5 (by decide)]; rfl
  have C8 : w1.cell? ⟨g, 8, none⟩ = some (.string ⟨#[55]⟩) := by rw [World.ownsRow.cellAt h1 8 (by decide)]; rfl
  have HO1 := Lib.hid o1
  have HRW := Lib.hid (HR.out w1 o1)
  clear h1 hn r HR HD o1
  simp only [if_true]
  go_wp2_with fail
  (with_reducible refine HRW.out.mono ?_)
  rintro _ w2 ⟨rfl, o2⟩
  have HO2 := Lib.hid (Ok.trans (Ok.trans HA.out HO1.out) o2)
  clear o2
  go_wp2_with fail
  go_ret
  exact ⟨rfl, HO2.out⟩
set_option maxRecDepth 100000 in
set_option maxHeartbeats 1000000 in
theorem values_w (n : Int) (s : Str) (hn : -9223372036854775808 ≤ n ∧ n ≤ 9223372036854775807) (hs : s.size ≤ 140737488355328) (w : World) (ht : Tb w) :
    Calls Tryd.prog 4 #[.int .i64 n, .string s] w (Ret w (.bool true)) := by
  have HAW := Lib.hid (awake_w w ht)
  have HV := Lib.hid (fun V (k : Ok w V) => value_w n V (ht.ok k))
  have HRV := Lib.hid (fun V => rvalue_w n hn.1 hn.2 V)
  have HNU := Lib.hid (fun V (h : s.size ≤ 1000000) => number_w s V h)
  have HRN := Lib.hid (fun V (h : s.size ≤ 1000000) => rnumber_w s V h)
  clear ht hn
  generalize valueT n = v at *
  generalize numV s.data.toList = x at *
  go_enter Tryd.func4, Tryd.ntmps4
  go_wp2_with fail
  (with_reducible refine HAW.out.mono ?_)
  rintro _ w1 ⟨rfl, o1⟩
  have HO1 := Lib.hid o1
  clear o1
  by_cases h60 : 60 < s.size
  · have d1 : decide ((60 : Int) < (s.size : Int)) = true := decide_eq_true (by omega)
    have d2 : decide (60 < s.size) = true := decide_eq_true h60
    go_wp2_with fail
    go_ret
    exact ⟨rfl, HO1.out⟩
  · have d1 : decide ((60 : Int) < (s.size : Int)) = false := decide_eq_false (by omega)
    have d2 : decide (60 < s.size) = false := decide_eq_false h60
    have HS : Hid (s.size ≤ 1000000) := Lib.hid (by omega)
    clear h60
    go_wp2_with fail
    (with_reducible refine (HV.out _ HO1.out).mono ?_)
    rintro _ w2 ⟨rfl, o2⟩
    have HO2 := Lib.hid (Ok.trans HO1.out o2)
    clear o2
    go_wp2_with fail
    (with_reducible refine (HRV.out _).mono ?_)
    rintro _ w3 ⟨rfl, o3⟩
    have HO3 := Lib.hid (Ok.trans HO2.out o3)
    clear o3
    go_wp2_with fail
    (with_reducible refine (HNU.out _ HS.out).mono ?_)
    rintro _ w4 ⟨rfl, rfl⟩
    go_wp2_with fail
    (with_reducible refine (HRN.out _ HS.out).mono ?_)
    rintro _ w5 ⟨rfl, rfl⟩
    go_wp2_with fail
    go_ret
    exact ⟨rfl, HO3.out⟩
end Go.Proofs.YthbbbjkgfdnkhaaDoor
