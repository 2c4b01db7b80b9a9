/- The law ActTells, walked. -/
import Derived.Test.YthbbbjkgfdnkhaaDoorAu
import Derived.Test.YthbbbjkgfdnkhaaDoorBb
import Derived.Test.YthbbbjkgfdnkhaaDoorBe
import Derived.Test.YthbbbjkgfdnkhaaDoorBf
import Derived.Test.YthbbbjkgfdnkhaaDoorBj
import Derived.Test.YthbbbjkgfdnkhaaDoorBl
import Derived.Test.YthbbbjkgfdnkhaaDoorBm
namespace Go.Proofs.YthbbbjkgfdnkhaaDoor
open Go.RowKit
theorem ActsAt.front {w : World} {A : Option Addr} {l m : List Ac} (h : ActsAt w A (l ++ m)) : ActsAt w A l := fun j hj => by
  obtain ⟨b, off, e, h0⟩ := h j (by rw [List.length_append]; omega)
  have e2 : atA (l ++ m) j = atA l j := by simp [atA, List.getD, List.getElem?_append_left hj]
  rw [e2] at h0
  exact ⟨b, off, e, h0⟩
theorem lim_at {l : List Ac} (h : Lim l l.length) (n : Nat) (e : l.length = n) : ∀ j, j < n → (atA l j).value.size ≤ 100000 := fun j hj => by
  have := h j (by omega)
  omega
set_option maxRecDepth 100000 in
set_option maxHeartbeats 4000000 in
theorem tells_w (A : Option Addr) (m c : Nat) (l : List Ac) (hm : l.length = m) (hA0 : A = none → c = 0) (hz : Sz l) (is : Bool) (val key : Str) (ac an bc bn : Int) (w : World) (ht : Tb w) (hI : ActsAt w A l) :
    Calls Tryd.prog 3 #[.slice A m c, .bool is, .string val, .string key, .agg #[.int .i64 ac, .int .i64 an], .agg #[.int .i64 bc, .int .i64 bn]] w (Ret w (.bool true)) := by
  have oa : Ok w ((w.alloc (.cells #[.int .i64 ac, .int .i64 an] 24)).alloc (.cells #[.int .i64 bc, .int .i64 bn] 24)) := ((Ok.refl w).alloc _).alloc _
  have B1 : ((w.alloc (.cells #[.int .i64 ac, .int .i64 an] 24)).alloc (.cells #[.int .i64 bc, .int .i64 bn] 24)).cell? ⟨w.heap.size, 0, none⟩ = some (.int .i64 ac) := by go_cell
  have B2 : ((w.alloc (.cells #[.int .i64 ac, .int .i64 an] 24)).alloc (.cells #[.int .i64 bc, .int .i64 bn] 24)).cell? ⟨w.heap.size, 1, none⟩ = some (.int .i64 an) := by go_cell
  have B3 : ((w.alloc (.cells #[.int .i64 ac, .int .i64 an] 24)).alloc (.cells #[.int .i64 bc, .int .i64 bn] 24)).cell? ⟨w.heap.size + 1, 0, none⟩ = some (.int .i64 bc) := by go_cell
  have B4 : ((w.alloc (.cells #[.int .i64 ac, .int .i64 an] 24)).alloc (.cells #[.int .i64 bc, .int .i64 bn] 24)).cell? ⟨w.heap.size + 1, 1, none⟩ = some (.int .i64 bn) := by go_cell
  have HAW := Lib.hid (awake_w _ (ht.ok oa))
  have HOA := Lib.hid oa
  have HI := Lib.hid hI
  have HM := Lib.hid hm
  have HT := Lib.hid ht
  have HA0 := Lib.hid hA0
  have HG := Lib.hid (fun B V (k : Ok w V) (h : StrsAt V B [val, key]) => great_w A m c l hm hz B 2 2 [val, key] rfl (by decide) V (hI.ok k) h)
  have HBX := Lib.hid (And.intro B1 (And.intro B2 (And.intro B3 B4)))
  clear hI hm hz ht oa B1 B2 B3 B4 hA0
  go_enter Tryd.func3, Tryd.ntmps3
  go_wp2_with fail
  generalize (w.alloc (.cells #[.int .i64 ac, .int .i64 an] 24)).alloc (.cells #[.int .i64 bc, .int .i64 bn] 24) = w0 at *
  generalize w.heap.size = p at *
  (with_reducible refine HAW.out.mono ?_)
  rintro _ w1 ⟨rfl, o1⟩
  have HO1 := Lib.hid (Ok.trans HOA.out o1)
  have HO01 := Lib.hid o1
  clear o1 HAW
  go_wp2_with fail
  (with_reducible refine (HG.out _ _ (HO1.out.alloc _) (strs_two w1 val key)).mono ?_)
  rintro _ w2 ⟨⟨r, rfl, hr⟩, o2⟩
  have HO2 := Lib.hid (Ok.trans (HO1.out.alloc _) o2)
  have HO02 := Lib.hid (Ok.trans (HO01.out.alloc _) o2)
  clear o2 HG
  cases r with
  | true =>
    go_wp2_with fail
    go_ret
    exact ⟨rfl, HO2.out⟩
  | false =>
    obtain ⟨h40, hlim, hls⟩ := hr rfl
    obtain ⟨hv60, hk60⟩ := lims_two hls
    have HLA := Lib.hid (lim_val hlim)
    have HLJ := Lib.hid (lim_at hlim m HM.out)
    rw [HM.out] at h40
    clear hr hls hlim HO1 HO01
    have HLE := Lib.hid (fun V (k : Ok w V) => lent_w A m c l HM.out (by omega) V (HI.out.ok k) HA0.out)
    go_wp2_with fail
    (with_reducible refine (HLE.out _ HO2.out).mono ?_)
    rintro _ w3 ⟨g, cap, rfl, hcap, hg1, hg2, o3, hL⟩
    rw [HM.out] at hcap
    have hlen : l.length = m := HM.out
    rw [hlen]
    clear hlen
    have HO3 := Lib.hid (Ok.trans HO2.out o3)
    have HO03 := Lib.hid (Ok.trans HO02.out o3)
    have HL := Lib.hid hL
    have HCAP := Lib.hid hcap
    clear o3 hL hcap HLE HO2 HO02 hg1 hg2
    have HD := Lib.hid (do_r is val (some ⟨g, 0, none⟩) m cap l HM.out (by omega) (by omega) HLA.out w3 (HT.out.ok HO3.out) HL.out.front)
    have HRD := Lib.hid (fun V (k : Ok w3 V) => rdo_w is val A m c l HM.out (by omega) (by omega) HLA.out V (HI.out.ok (Ok.trans HO3.out k)))
    have hst : (st0 is val).val.size ≤ 1000000 := by
      cases is
      · exact Nat.zero_le _
      · show val.size ≤ 1000000
        omega
    have hsm := (runA_small (st0 is val) 1000000 (by decide) l hst HLA.out).2
    have hrl : (runA (st0 is val) l).rs.length ≤ 100000 := by have e : (st0 is val).rs.length = 0 := rfl; have := HM.out; omega
    have HRL := Lib.hid hrl
    clear hst hsm hrl
    generalize aft (runA (st0 is val) l) = fin at *
    generalize (runA (st0 is val) l).put = put at *
    generalize (runA (st0 is val) l).rs = rs at *
    have HR14 := Lib.hid (fun V (k : Ok w3 V) => rightL_w (some ⟨g, 0, none⟩) m cap l HM.out (by omega) HLJ.out V (HL.out.front.ok k))
    have HR15 := Lib.hid (fun V (k : Ok w3 V) => rrightL_w A m c l HM.out (by omega) HLJ.out V (HI.out.ok (Ok.trans HO3.out k)))
    have HN16 := Lib.hid (fun V => name16_w ⟨ac, an⟩ V)
    have HN17 := Lib.hid (fun V => name17_w ⟨ac, an⟩ V)
    have HO18 := Lib.hid (fun V => older_w ⟨ac, an⟩ ⟨bc, bn⟩ V)
    have HO19 := Lib.hid (fun V => rolder_w ⟨ac, an⟩ ⟨bc, bn⟩ V)
    generalize nameB ⟨ac, an⟩ = nb at *
    generalize oldB ⟨ac, an⟩ ⟨bc, bn⟩ = ob at *
    generalize rightLB l = rb at *
    have HKY := Lib.hid (fun V (k : Ok w3 V) => keys_w (some ⟨g, 0, none⟩) m cap l HM.out (by omega) V (HL.out.front.ok k))
    have HRK := Lib.hid (fun V (k : Ok w3 V) => rkeys_w A m c l HM.out (by omega) V (HI.out.ok (Ok.trans HO3.out k)))
    have HOF := Lib.hid (fun V (k : Ok w3 V) => of_w key (some ⟨g, 0, none⟩) m cap l HM.out (by omega) V (HL.out.front.ok k))
    have HRO := Lib.hid (fun V (k : Ok w3 V) => rof_w key A m c l HM.out (by omega) V (HI.out.ok (Ok.trans HO3.out k)))
    have HOL : Hid ((ofL key.data.toList l).length ≤ 40) := Lib.hid (by have := ofL_le key.data.toList l; have := HM.out; omega)
    have HKL : Hid ((keysT l).length ≤ 40) := Lib.hid (by have := keysT_len l; have := HM.out; omega)
    generalize ofL key.data.toList l = ol at *
    generalize keysT l = kl at *
    have HNU := Lib.hid (fun V => number_w val V (by omega))
    have HRN := Lib.hid (fun V => rnumber_w val V (by omega))
    generalize numV val.data.toList = nv at *
    have HKE := Lib.hid (fun V (k : Ok w3 V) => kept_w g cap A m c l HM.out (by omega) V HCAP.out (HL.out.ok k) (HI.out.ok (Ok.trans HO3.out k)))
    clear HLA HLJ
    go_wp2_with fail
    (with_reducible refine HD.out.mono ?_)
    rintro _ w4 ⟨A1, n1, c1, rfl, own1, o4⟩
    have HW1 := Lib.hid own1
    have HO4 := Lib.hid o4
    clear own1 o4 HD
    go_wp2_with fail
    (with_reducible refine (HRD.out _ HO4.out).mono ?_)
    rintro _ w5 ⟨A2, n2, c2, rfl, own2, o5⟩
    have HO5 := Lib.hid (Ok.trans HO4.out o5)
    have HW2 := Lib.hid own2
    have HW1b := Lib.hid (HW1.out.ok o5)
    clear own2 o5 HRD HW1 HO4
    have q13 : ∀ d os, Calls Tryd.prog 13 #[.slice A1 n1 c1, .slice A2 n2 c2] (Go.Sort.grow (redrawn w5 d) os) fun e w'' => e = .returned (.bool true) ∧ ∃ q : Regrown, w'' = Go.Sort.grow (redrawn w5 q.d) q.os := fun d os => Calls.regrown_of (same_r A1 n1 c1 _ rs HRL.out w5 HW1b.out A2 n2 c2 _ rs _ (below_regrown w5 d os) (HW2.out.ok (below_regrown w5 d os)) rfl)
    have q14 : ∀ d os, Calls Tryd.prog 14 #[.slice (some ⟨g, 0, none⟩) m cap] (Go.Sort.grow (redrawn w5 d) os) fun e w'' => e = .returned (.bool rb) ∧ ∃ q : Regrown, w'' = Go.Sort.grow (redrawn w5 q.d) q.os := fun d os => Calls.regrown_of (HR14.out _ (Ok.trans HO5.out (below_regrown w5 d os)))
    have q15 : ∀ d os, Calls Tryd.prog 15 #[.slice A m c] (Go.Sort.grow (redrawn w5 d) os) fun e w'' => e = .returned (.bool rb) ∧ ∃ q : Regrown, w'' = Go.Sort.grow (redrawn w5 q.d) q.os := fun d os => Calls.regrown_of (HR15.out _ (Ok.trans HO5.out (below_regrown w5 d os)))
    have q16 : ∀ d os, Calls Tryd.prog 16 #[.agg #[.int .i64 ac, .int .i64 an]] (Go.Sort.grow (redrawn w5 d) os) fun e w'' => e = .returned (.bool nb) ∧ ∃ q : Regrown, w'' = Go.Sort.grow (redrawn w5 q.d) q.os := fun d os => Calls.regrown_of (HN16.out _)
    have q17 : ∀ d os, Calls Tryd.prog 17 #[.agg #[.int .i64 ac, .int .i64 an]] (Go.Sort.grow (redrawn w5 d) os) fun e w'' => e = .returned (.bool nb) ∧ ∃ q : Regrown, w'' = Go.Sort.grow (redrawn w5 q.d) q.os := fun d os => Calls.regrown_of (HN17.out _)
    have q18 : ∀ d os, Calls Tryd.prog 18 #[.agg #[.int .i64 ac, .int .i64 an], .agg #[.int .i64 bc, .int .i64 bn]] (Go.Sort.grow (redrawn w5 d) os) fun e w'' => e = .returned (.bool ob) ∧ ∃ q : Regrown, w'' = Go.Sort.grow (redrawn w5 q.d) q.os := fun d os => Calls.regrown_of (HO18.out _)
    have q19 : ∀ d os, Calls Tryd.prog 19 #[.agg #[.int .i64 ac, .int .i64 an], .agg #[.int .i64 bc, .int .i64 bn]] (Go.Sort.grow (redrawn w5 d) os) fun e w'' => e = .returned (.bool ob) ∧ ∃ q : Regrown, w'' = Go.Sort.grow (redrawn w5 q.d) q.os := fun d os => Calls.regrown_of (HO19.out _)
    clear HR14 HR15 HN16 HN17 HO18 HO19 HRL
    obtain ⟨E0, E1, E2, E3⟩ := HBX.out
    have kE0 := cell_regrown (Ok.cell (Ok.trans HO03.out HO5.out) E0)
    have kE1 := cell_regrown (Ok.cell (Ok.trans HO03.out HO5.out) E1)
    have kE2 := cell_regrown (Ok.cell (Ok.trans HO03.out HO5.out) E2)
    have kE3 := cell_regrown (Ok.cell (Ok.trans HO03.out HO5.out) E3)
    clear E0 E1 E2 E3
    go_wp2_with fail
    refine wp_region_quiet_below (by kernel_rfl) (by kernel_rfl) ?_
    refine HeldU.out ?_
    repeat (
      refine hqU_step (fun K hK => ?_)
      go_simp
      first
        | (refine hK _ ?_; clear hK K)
        | (apply Exists.intro
           refine ⟨fun _ => ?_, hK _ ?_⟩
           (with_reducible first
             | exact q13 _ _
             | exact q14 _ _
             | exact q15 _ _
             | exact q16 _ _
             | exact q17 _ _
             | exact q18 _ _
             | exact q19 _ _)
           clear hK K))
    refine HeldU.mk (wpQuiet_nil ?_)
    intro _ hw'
    obtain ⟨⟨dq, osq⟩, hw''⟩ := hw'
    subst hw''
    have HO6 := Lib.hid (Ok.trans HO5.out (below_regrown w5 dq osq))
    clear q13 q14 q15 q16 q17 q18 q19 kE0 kE1 kE2 kE3 HW1b HW2 HO5 HO03
    generalize Go.Sort.grow (redrawn w5 dq) osq = w6 at *
    go_wp2_with fail
    (with_reducible refine (HOF.out _ HO6.out).mono ?_)
    rintro _ w7 ⟨A7, n7, c7, rfl, own7, o7⟩
    have HO7 := Lib.hid (Ok.trans HO6.out o7)
    have HO67 := Lib.hid o7
    have HW7 := Lib.hid own7
    have HN7 : Hid (n7 ≤ 40) := Lib.hid (by have := HOL.out; have := own7.2; omega)
    clear own7 o7 HOF
    go_wp2_with fail
    (with_reducible refine (HKY.out _ HO7.out).mono ?_)
    rintro _ w8 ⟨A8, n8, c8, rfl, hn8, htx8, o8⟩
    have HO8 := Lib.hid (Ok.trans HO7.out o8)
    have HO78 := Lib.hid o8
    have HN8 := Lib.hid hn8
    have HX8 := Lib.hid htx8
    clear hn8 htx8 o8 HKY
    go_wp2_with fail
    (with_reducible refine (HRK.out _ HO8.out).mono ?_)
    rintro _ w9 ⟨A9, n9, c9, rfl, hn9, htx9, o9⟩
    have HO9 := Lib.hid (Ok.trans HO8.out o9)
    have HO79 := Lib.hid (Ok.trans HO78.out o9)
    have HX8b := Lib.hid (HX8.out.ok o9)
    have HX9 := Lib.hid htx9
    obtain rfl : n9 = n8 := hn9.trans HN8.out.symm
    have HST := Lib.hid (sameTx_w A8 A9 n9 c8 c9 kl HN8.out.symm (by have := HKL.out; have := HN8.out; omega) w9 HX8b.out HX9.out)
    clear hn9 htx9 o9 HRK HX8 HX8b HX9 HN8 HKL
    go_wp2_with fail
    (with_reducible refine HST.out.mono ?_)
    rintro _ w10 ⟨rfl, o10⟩
    have HO10 := Lib.hid (Ok.trans HO9.out o10)
    have HO710 := Lib.hid (Ok.trans HO79.out o10)
    clear o10 HST HO9 HO79 HO8 HO78
    go_wp2_with fail
    (with_reducible refine (HRO.out _ HO10.out).mono ?_)
    rintro _ w11 ⟨A11, n11, c11, rfl, own11, o11⟩
    have HO11 := Lib.hid (Ok.trans HO10.out o11)
    have HO711 := Lib.hid (Ok.trans HO710.out o11)
    obtain rfl : n11 = n7 := own11.2.trans HW7.out.2.symm
    have HSA := Lib.hid (sameAc_w A7 A11 n11 c7 c11 ol own11.2.symm (by have := HN7.out; omega) w11 (HW7.out.at.ok HO711.out) own11.at)
    clear own11 o11 HRO HO10 HO710
    go_wp2_with fail
    (with_reducible refine HSA.out.mono ?_)
    rintro _ w12 ⟨rfl, o12⟩
    have HO12 := Lib.hid (Ok.trans HO11.out o12)
    have HO712 := Lib.hid (Ok.trans HO711.out o12)
    have HROW := Lib.hid ((HW7.out.ok HO712.out).row (by have := HN7.out; omega))
    have HO612 := Lib.hid (Ok.trans HO67.out HO712.out)
    clear o12 HSA HO11 HO711 HW7 HO67 HO7
    go_wp2_with fail
    (with_reducible refine (over_w A7 n11 c7 w6.heap.size w12 HROW.out).mono ?_)
    rintro _ w13 ⟨rfl, b13⟩
    have HO613 : Hid (Ok w6 w13) := Lib.hid (Below.trans HO612.out b13)
    have HO13 := Lib.hid (Ok.trans HO6.out HO613.out)
    clear b13 HROW HO612 HO712 HO12 HO613
    go_wp2_with fail
    (with_reducible refine (HNU.out _).mono ?_)
    rintro _ w13 ⟨rfl, rfl⟩
    go_wp2_with fail
    (with_reducible refine (HRN.out _).mono ?_)
    rintro _ w13 ⟨rfl, rfl⟩
    go_wp2_with fail
    (with_reducible refine (HKE.out _ HO13.out).mono ?_)
    rintro _ w14 ⟨rfl, o14⟩
    have HO14 := Lib.hid (Ok.trans HO3.out (Ok.trans HO13.out o14))
    clear o14
    go_wp2_with fail
    go_ret
    exact ⟨rfl, HO14.out⟩
end Go.Proofs.YthbbbjkgfdnkhaaDoor
