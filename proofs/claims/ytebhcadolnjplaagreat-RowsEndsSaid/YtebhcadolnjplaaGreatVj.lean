/- The law RowsRuns. -/
import Derived.Test.YtebhcadolnjplaaGreatVi
import Derived.Test.YtebhcadolnjplaaGreatYh
namespace Go.Proofs.YtebhcadolnjplaaGreat
open Go.RowKit

set_option maxRecDepth 100000 in
set_option maxHeartbeats 4000000 in
theorem runs_law (A : Option Addr) (n c : Nat) (l : List Dd) (hn : l.length = n) (hn6 : n ≤ 17592186044416) (fork : Int) (A2 : Option Addr) (n2 c2 : Nat) (l2 : List Dd) (hn2 : l2.length = n2) (hn26 : n2 ≤ 17592186044416) (AT : Option Addr) (nk ck : Nat) (zs : List Str) (hz : zs.length = nk) (W : World)
    (hA : DeedsIn W A l) (hA2 : DeedsIn W A2 l2) (hZ : DeedsNil l) (hZ2 : DeedsNil l2) (hT : KeysIn W AT zs) :
    Calls Tryz.prog 3 #[.slice A n c, .int .i64 fork, .slice A2 n2 c2, .slice AT nk ck] W (Ret W (.bool true)) := by
  have HA := Lib.hid hA
  have HA2 := Lib.hid hA2
  have HZ := Lib.hid hZ
  have HZ2 := Lib.hid hZ2
  have HN := Lib.hid hn
  have HN2 := Lib.hid hn2
  have HN6 := Lib.hid hn6
  have HN26 := Lib.hid hn26
  have HT := Lib.hid hT
  have HK := Lib.hid hz
  have HLI := Lib.hid (light_f A n c l hn hn6 W hA)
  clear hA hA2 hZ hZ2 hn hn2 hn6 hn26 hT hz
  go_enter Tryz.func3, Tryz.ntmps3
  go_wp2_with fail
  (with_reducible refine HLI.out.mono ?_)
  clear HLI
  rintro _ w1 ⟨b1, rfl, hl1, o1⟩
  have HO1 := Lib.hid o1
  clear o1
  cases b1 with
  | false =>
    have haw := Lib.hid (awake_r w1)
    clear hl1
    go_wp2_with fail
    (with_reducible refine haw.out.mono ?_)
    rintro _ w2 ⟨rfl, o2⟩
    have HO2 := Lib.hid (HO1.out.trans o2)
    clear o2
    go_wp2_with fail
    go_ret
    exact ⟨rfl, HO2.out⟩
  | true =>
  have HL1 := Lib.hid (hl1 rfl)
  clear hl1
  have HLI := Lib.hid (light_f A2 n2 c2 l2 HN2.out HN26.out w1 (HA2.out.ok HO1.out))
  go_wp2_with fail
  (with_reducible refine HLI.out.mono ?_)
  clear HLI
  rintro _ w2 ⟨b2, rfl, hl2, o2⟩
  have HO2 := Lib.hid (HO1.out.trans o2)
  clear o2
  cases b2 with
  | false =>
    have haw := Lib.hid (awake_r w2)
    clear hl2
    go_wp2_with fail
    (with_reducible refine haw.out.mono ?_)
    rintro _ w3 ⟨rfl, o3⟩
    have HO3 := Lib.hid (HO2.out.trans o3)
    clear o3
    go_wp2_with fail
    go_ret
    exact ⟨rfl, HO3.out⟩
  | true =>
  have HL2 := Lib.hid (hl2 rfl)
  clear hl2
  by_cases h200 : 200 < nk
  · have d1 : decide ((nk : Int) > 200) = true := decide_eq_true (by omega)
    have haw := Lib.hid (awake_r w2)
    go_wp2_with fail
    (with_reducible refine haw.out.mono ?_)
    rintro _ w3 ⟨rfl, o3⟩
    have HO3 := Lib.hid (HO2.out.trans o3)
    clear o3
    go_wp2_with fail
    go_ret
    exact ⟨rfl, HO3.out⟩
  have d1 : decide ((nk : Int) > 200) = false := decide_eq_false (by omega)
  have HK2 : Hid (nk ≤ 200) := Lib.hid (by omega)
  clear h200
  have hnew := Lib.hid (new44 w2)
  go_wp2_with fail
  (with_reducible refine hnew.out.mono ?_)
  clear hnew d1
  rintro _ w3 ⟨p, rfl, hp, hT3, o3⟩
  have HP : Hid (W.heap.size ≤ p) := Lib.hid (Nat.le_trans HO2.out.size hp)
  have HT3 := Lib.hid hT3
  have HO3 := Lib.hid (HO2.out.trans o3)
  clear hp hT3 o3
  have e1 : IntKind.i64.wrap ((n : Int) + 1) = (n : Int) + 1 := IntWalk.i64_in _ (by have := HN6.out; omega)
  have hpk := pick_f fork (n + 1) (by omega) (by have := HL1.out.1; omega) (w3.alloc (.cells #[.slice none 0 0] 31))
  have hkk := pickI_lt fork (n + 1) (by omega)
  obtain ⟨k, hk⟩ : ∃ k : Nat, pickI fork (n + 1) = (k : Int) := ⟨(pickI fork (n + 1)).toNat, by omega⟩
  rw [hk] at hpk hkk
  rw [show (((n + 1 : Nat) : Int)) = (n : Int) + 1 from by simp] at hpk
  have HKN : Hid (k ≤ n) := Lib.hid (by omega)
  clear hk hkk
  have HPK := Lib.hid hpk
  clear hpk
  go_wp2_with fail
  (with_reducible refine HPK.out.mono ?_)
  clear HPK
  rintro _ w5 ⟨rfl, o5⟩
  have HON := Lib.hid (On.new HT3.out HP.out HO3.out o5)
  clear o5 HT3 HP HO1 HO2 HO3 e1
  obtain ⟨m, hm⟩ : ∃ m, w3.heap.size = m := ⟨_, rfl⟩
  obtain ⟨q, hq⟩ : ∃ q, w5.heap.size = q := ⟨_, rfl⟩
  rw [hm, hq] at HON
  go_upto_region 7 with fail
  clear hm hq
  generalize w5.alloc (.cells #[.slice none 0 0] 31) = w6 at *
  go_wp2_with fail
  go_loopw [12, 14] (fun v12 v14 wr => ∃ (i : Nat) (F : Nat → Prop) (l1 : List Rw), i ≤ n + 1 ∧ v14 = .int .i64 i ∧ Mid W p m q F l1 v12 (decide (k < i)) wr) (fun _ v14 _ => n + 1 - (intOf v14).toNat)
  case atStart => exact ⟨0, _, [], Nat.zero_le _, rfl, .inl ⟨by simp, rfl, HON.out⟩⟩
  case round =>
    obtain ⟨i, F, l1, hi, rfl, hmid⟩ := hrel
    have HM0 := Lib.hid hmid
    clear hmid HON
    by_cases hle : i ≤ n
    · have d1 : decide ((i : Int) ≤ (n : Int)) = true := decide_eq_true (by omega)
      have ei : IntKind.i64.wrap ((i : Int) + 1) = (i : Int) + 1 := IntWalk.i64_in _ (by have := HN6.out; omega)
      have HLT : Hid (n + 1 - ((i : Int) + 1).toNat < n + 1 - (i : Int).toNat) := Lib.hid (by omega)
      by_cases hik : i = k
      · have e2 : ((i : Int) == (k : Int)) = true := by rw [hik]; simp
        have HKD : Hid (decide (k < i + 1) = true) := Lib.hid (decide_eq_true (by omega))
        have hno : decide (k < i) = false := decide_eq_false (by omega)
        clear hik
        obtain ⟨rfl, hon⟩ : u12 = .pointer none ∧ On W p m q F l1 wr := by
          rcases HM0.out with ⟨_, h1, h2⟩ | ⟨h1, _⟩
          · exact ⟨h1, h2⟩
          · rw [hno] at h1; cases h1
        have HON := Lib.hid hon
        obtain ⟨Ap, cp, Am, nm, cm, h1, h2, -⟩ := hon.sd.ex
        have HLEN : Hid (l1.length ≤ 400) := Lib.hid hon.sd.len
        have HC := Lib.hid (copy9_f p Ap l1.length cp l1 wr h1 (by have := HLEN.out; omega))
        have HRM := Lib.hid h2
        clear hon h1 h2 hno HM0
        go_wp2_with fail
        (with_reducible refine HC.out.mono ?_)
        clear HC
        rintro _ w1 ⟨p2, A2', c2', rfl, ht2, hp2, ha2, o1⟩
        have HX := Lib.hid (HRM.out.ok o1)
        have c0 := HX.out.c0
        have HCL := Lib.hid (copyL_f Am nm cm l1 w1 HX.out.len (by have := HLEN.out; have := HX.out.len; omega) HX.out.rows HX.out.nil)
        have HT2 := Lib.hid ht2
        have HP2 := Lib.hid hp2
        have HA22 := Lib.hid ha2
        have HOO := Lib.hid o1
        clear ht2 hp2 ha2 o1
        go_wp2_with fail
        (with_reducible refine HCL.out.mono ?_)
        clear HCL c0
        rintro _ w2 ⟨A3, c3, rfl, ho3, o2⟩
        have HTW := Lib.hid (HON.out.copy HT2.out HP2.out HA22.out HOO.out ho3 o2)
        have y0 := (HON.out.rq.ok (HOO.out.trans o2)).c0
        have y1 := (HON.out.rq.ok (HOO.out.trans o2)).f
        clear ho3 o2 HT2 HP2 HA22 HOO HX HRM HON
        go_upto_region 13 with fail
        clear y0 y1
        generalize w2.setCell ⟨q, 0, none⟩ (.slice A3 nm c3) = w4 at *
        have HM : Hid (Mid W p m q F l1 (.pointer (some ⟨p2, 0, none⟩)) true w4) := Lib.hid (by
          obtain ⟨F2, htw⟩ := HTW.out
          exact .inr ⟨rfl, p2, F2, l1, rfl, htw⟩)
        clear HTW
        by_cases hlt : i < n
        · have d2 : decide ((i : Int) < (n : Int)) = true := decide_eq_true (by omega)
          obtain ⟨b, off, rfl, hd⟩ := HA.out i (by rw [HN.out]; exact hlt)
          have hd4 := hd.ok HM.out.wok
          have x0 := hd4.c0
          have x1 := hd4.c1
          have x2 := hd4.c2
          have x3 := hd4.c3
          have HDV := Lib.hid (deedV_of hd HM.out.wok HM.out.hi (HL1.out.2 i hlt) (HZ.out i (by rw [HN.out]; exact hlt)))
          have HACT := Lib.hid (act11_f F p m l1 (ddA l i) w4 HM.out.sd HDV.out)
          unfold ddV at HACT
          clear hd hd4 HDV
          generalize (ddA l i).kind = kd at *
          generalize (ddA l i).A = dA at *
          generalize (ddA l i).n = dn at *
          generalize (ddA l i).c = dc at *
          generalize (ddA l i).sp.lo = lo at *
          generalize (ddA l i).sp.hi = hi' at *
          have i0 : (0 : Int) ≤ (i : Int) := Int.natCast_nonneg _
          have i1 : (i : Int) < (n : Int) := by omega
          go_wp2_with fail
          (with_reducible refine HACT.out.mono ?_)
          clear HACT x0 x1 x2 x3
          rintro _ w5 ⟨rfl, F', l', sd', sub, chg⟩
          have HM5 := Lib.hid (HM.out.act sd' sub chg)
          have HSAME := Lib.hid (same12_f F' p m l' w5 sd')
          clear sd' sub chg HM
          go_wp2_with fail
          (with_reducible refine HSAME.out.mono ?_)
          clear HSAME
          rintro _ w6 ⟨rfl, o6⟩
          have HM6 := Lib.hid (HM5.out.ok' o6)
          clear o6 HM5
          go_wp2_with fail
          exact ⟨⟨i + 1, F', l', by omega, rfl, by rw [HKD.out]; exact HM6.out⟩, HLT.out⟩
        · have d2 : decide ((i : Int) < (n : Int)) = false := decide_eq_false (by omega)
          go_wp2_with fail
          exact ⟨⟨i + 1, F, l1, by omega, rfl, by rw [HKD.out]; exact HM.out⟩, HLT.out⟩
      · have e2 : ((i : Int) == (k : Int)) = false := by simp; omega
        have HKD : Hid (decide (k < i + 1) = decide (k < i)) := Lib.hid (by rw [decide_eq_decide]; omega)
        obtain ⟨w4, hw4⟩ : ∃ v, v = wr := ⟨_, rfl⟩
        subst hw4
        have HM := HM0
        clear HM0
        go_upto_region 13 with fail
        by_cases hlt : i < n
        · have d2 : decide ((i : Int) < (n : Int)) = true := decide_eq_true (by omega)
          obtain ⟨b, off, rfl, hd⟩ := HA.out i (by rw [HN.out]; exact hlt)
          have hd4 := hd.ok HM.out.wok
          have x0 := hd4.c0
          have x1 := hd4.c1
          have x2 := hd4.c2
          have x3 := hd4.c3
          have HDV := Lib.hid (deedV_of hd HM.out.wok HM.out.hi (HL1.out.2 i hlt) (HZ.out i (by rw [HN.out]; exact hlt)))
          have HACT := Lib.hid (act11_f F p m l1 (ddA l i) w4 HM.out.sd HDV.out)
          unfold ddV at HACT
          clear hd hd4 HDV
          generalize (ddA l i).kind = kd at *
          generalize (ddA l i).A = dA at *
          generalize (ddA l i).n = dn at *
          generalize (ddA l i).c = dc at *
          generalize (ddA l i).sp.lo = lo at *
          generalize (ddA l i).sp.hi = hi' at *
          have i0 : (0 : Int) ≤ (i : Int) := Int.natCast_nonneg _
          have i1 : (i : Int) < (n : Int) := by omega
          go_wp2_with fail
          (with_reducible refine HACT.out.mono ?_)
          clear HACT x0 x1 x2 x3
          rintro _ w5 ⟨rfl, F', l', sd', sub, chg⟩
          have HM5 := Lib.hid (HM.out.act sd' sub chg)
          have HSAME := Lib.hid (same12_f F' p m l' w5 sd')
          clear sd' sub chg HM
          go_wp2_with fail
          (with_reducible refine HSAME.out.mono ?_)
          clear HSAME
          rintro _ w6 ⟨rfl, o6⟩
          have HM6 := Lib.hid (HM5.out.ok' o6)
          clear o6 HM5
          go_wp2_with fail
          exact ⟨⟨i + 1, F', l', by omega, rfl, by rw [HKD.out]; exact HM6.out⟩, HLT.out⟩
        · have d2 : decide ((i : Int) < (n : Int)) = false := decide_eq_false (by omega)
          go_wp2_with fail
          exact ⟨⟨i + 1, F, l1, by omega, rfl, by rw [HKD.out]; exact HM.out⟩, HLT.out⟩
    · have d1 : decide ((i : Int) ≤ (n : Int)) = false := decide_eq_false (by omega)
      have d1n : decide (i ≤ n) = false := decide_eq_false (by omega)
      have hyes : decide (k < i) = true := decide_eq_true (by have := HKN.out; omega)
      obtain ⟨p2, F2, l3, rfl, htw⟩ : ∃ p2 F2 l3, u12 = .pointer (some ⟨p2, 0, none⟩) ∧ Tw W p m p2 q F l1 F2 l3 wr := by
        rcases HM0.out with ⟨h1, _⟩ | ⟨_, p2, F2, l3, h2, h3⟩
        · rw [hyes] at h1; cases h1
        · exact ⟨p2, F2, l3, h2, h3⟩
      have HTW := Lib.hid htw
      clear htw hyes HM0 hle hi HL1 HKN HZ HN HN6 HA
      go_wp2_with fail
      clear d1 d1n
      go_loopw [15] (fun v15 wr => ∃ (j : Nat) (F2 : Nat → Prop) (l3 : List Rw), j ≤ n2 ∧ v15 = .int .i64 j ∧ Tw W p m p2 q F l1 F2 l3 wr) (fun v15 _ => n2 - (intOf v15).toNat)
      case atStart => exact ⟨0, F2, l3, Nat.zero_le _, rfl, HTW.out⟩
      case round =>
        obtain ⟨j, F3, l4, hj, rfl, htw⟩ := hrel
        have HT4 := Lib.hid htw
        clear htw HTW
        by_cases hlt : j < n2
        · have d2 : decide ((j : Int) < (n2 : Int)) = true := decide_eq_true (by omega)
          obtain ⟨w4, hw4⟩ : ∃ v, v = wr := ⟨_, rfl⟩
          subst hw4
          obtain ⟨b, off, rfl, hd⟩ := HA2.out j (by rw [HN2.out]; exact hlt)
          have hd4 := hd.ok HT4.out.ok
          have x0 := hd4.c0
          have x1 := hd4.c1
          have x2 := hd4.c2
          have x3 := hd4.c3
          have HDV := Lib.hid (deedV_of hd HT4.out.ok HT4.out.hi2 (HL2.out.2 j hlt) (HZ2.out j (by rw [HN2.out]; exact hlt)))
          have HACT := Lib.hid (act11_f F3 p2 q l4 (ddA l2 j) w4 HT4.out.sd2 HDV.out)
          unfold ddV at HACT
          clear hd hd4 HDV
          generalize (ddA l2 j).kind = kd at *
          generalize (ddA l2 j).A = dA at *
          generalize (ddA l2 j).n = dn at *
          generalize (ddA l2 j).c = dc at *
          generalize (ddA l2 j).sp.lo = lo at *
          generalize (ddA l2 j).sp.hi = hi' at *
          have i0 : (0 : Int) ≤ (j : Int) := Int.natCast_nonneg _
          have i1 : (j : Int) < (n2 : Int) := by omega
          have ei : IntKind.i64.wrap ((j : Int) + 1) = (j : Int) + 1 := IntWalk.i64_in _ (by have := HN26.out; omega)
          have HLT : Hid (n2 - ((j : Int) + 1).toNat < n2 - (j : Int).toNat) := Lib.hid (by omega)
          go_wp2_with fail
          (with_reducible refine HACT.out.mono ?_)
          clear HACT x0 x1 x2 x3
          rintro _ w5 ⟨rfl, F', l', sd', sub, chg⟩
          have HM5 := Lib.hid (HT4.out.act2 sd' sub chg)
          have HSAME := Lib.hid (same12_f F' p2 q l' w5 sd')
          clear sd' sub chg HT4
          go_wp2_with fail
          (with_reducible refine HSAME.out.mono ?_)
          clear HSAME
          rintro _ w6 ⟨rfl, o6⟩
          have HM6 := Lib.hid (HM5.out.ok' o6)
          clear o6 HM5
          go_wp2_with fail
          exact ⟨⟨j + 1, F', l', hlt, rfl, HM6.out⟩, HLT.out⟩
        · have d2 : decide ((j : Int) < (n2 : Int)) = false := decide_eq_false (by omega)
          obtain rfl : j = n2 := by omega
          clear hlt hj
          obtain ⟨w7, hw7⟩ : ∃ v, v = wr := ⟨_, rfl⟩
          subst hw7
          go_wp2_with fail
          clear d2
          obtain ⟨Ap, cp, Am, nm, cm, ht1, hr1, -⟩ := HT4.out.sd.ex
          have HTA := Lib.hid ht1
          have HRA := Lib.hid hr1
          have HRI := Lib.hid HT4.out.sd.ri
          have HLEN := Lib.hid HT4.out.sd.len
          clear ht1 hr1
          go_loopw [16, 17, 18, 19, 20] (fun v16 _ _ _ _ wr => ∃ g : Nat, g ≤ nk ∧ v16 = .int .i64 g ∧ Ok w7 wr) (fun v16 _ _ _ _ _ => nk - (intOf v16).toNat)
          case atStart => exact ⟨0, Nat.zero_le _, rfl, Ok.refl _⟩
          case round =>
            obtain ⟨g, hg, rfl, okr⟩ := hrel
            have HO := Lib.hid okr
            clear okr
            by_cases hlt : g < nk
            · have d2 : decide ((g : Int) < (nk : Int)) = true := decide_eq_true (by omega)
              obtain ⟨b, off, rfl, x0⟩ := HT.out.ok (HT4.out.ok.trans HO.out) g (by rw [HK.out]; exact hlt)
              have i0 : (0 : Int) ≤ (g : Int) := Int.natCast_nonneg _
              have i1 : (g : Int) < (nk : Int) := by omega
              have ei : IntKind.i64.wrap ((g : Int) + 1) = (g : Int) + 1 := IntWalk.i64_in _ (by have := HK2.out; omega)
              have HLT : Hid (nk - ((g : Int) + 1).toNat < nk - (g : Int).toNat) := Lib.hid (by omega)
              generalize zs.getD g ⟨#[]⟩ = t at *
              have H13 := Lib.hid (get13 p Ap l1.length cp l1 t wr (HTA.out.ok HO.out) (by have := HLEN.out; omega) HRI.out)
              have H14 := Lib.hid (fun V (o : Ok wr V) => get14 m Am nm cm l1 t V (HRA.out.ok (HO.out.trans o)) (by have := HLEN.out; have := HRA.out.len; omega))
              go_wp2_with fail
              (with_reducible refine H13.out.mono ?_)
              clear H13
              rintro _ w8 ⟨gv, gb, rfl, hgt, o8⟩
              have HGT := Lib.hid hgt
              have x1 := Ok.cell o8 x0
              have HO8 := Lib.hid o8
              clear hgt o8 x0
              go_wp2_with fail
              (with_reducible refine (H14.out _ HO8.out).mono ?_)
              clear H14
              rintro _ w9 ⟨gv', gb', rfl, hgt, o9⟩
              obtain ⟨rfl, rfl⟩ := HGT.out.uniq HRI.out hgt
              have HO9 := Lib.hid (HO.out.trans (HO8.out.trans o9))
              clear hgt o9 x1 HO8 HGT
              have e5 : (gb' != gb') = false := by simp
              have e6 : (gv'.toList != gv'.toList) = false := by simp
              go_wp2_with fail
              exact ⟨⟨g + 1, hlt, rfl, HO9.out⟩, HLT.out⟩
            · have d2 : decide ((g : Int) < (nk : Int)) = false := decide_eq_false (by omega)
              obtain rfl : g = nk := by omega
              clear hlt hg
              have HTQ := Lib.hid (HT4.out.ok' HO.out)
              clear HT4 HTA HRA HO
              have HSAME := Lib.hid (same12_f F p m l1 wr HTQ.out.sd)
              go_wp2_with fail
              (with_reducible refine HSAME.out.mono ?_)
              clear HSAME d2
              rintro _ wa ⟨rfl, oa⟩
              have HTA := Lib.hid (HTQ.out.ok' oa)
              clear oa HTQ
              have HSAME := Lib.hid (same12_f F3 p2 q l4 wa HTA.out.sd2)
              go_wp2_with fail
              (with_reducible refine HSAME.out.mono ?_)
              clear HSAME
              rintro _ wb ⟨rfl, ob⟩
              have HTB := Lib.hid (HTA.out.ok' ob)
              clear ob HTA
              have H16 : Hid (∀ V, Ok wb V → Calls Tryz.prog 16 #[.pointer (some ⟨p, 0, none⟩), .agg #[.string ⟨#[]⟩, .string ⟨#[]⟩]] V (ListP l1 V)) := Lib.hid fun V k => by
                obtain ⟨Ap, cp, Am, nm, cm, h1, -⟩ := HTB.out.sd.ex
                have := inR_f p Ap l1.length cp l1 allS V (h1.ok k) (by have := HLEN.out; omega)
                rw [meant_all HTB.out.sd.rt] at this
                exact this
              go_wp2_with fail
              (with_reducible refine (H16.out _ (Ok.refl _)).mono ?_)
              rintro _ wc ⟨B1, m1, d1, rfl, hw1, oc⟩
              have HW1 := Lib.hid hw1
              have HOC := Lib.hid oc
              clear hw1 oc
              go_wp2_with fail
              (with_reducible refine (H16.out _ HOC.out).mono ?_)
              clear H16
              rintro _ wd ⟨B2, m2, d2, rfl, hw2, od⟩
              obtain rfl : m1 = l1.length := HW1.out.1.symm
              obtain rfl : m2 = l1.length := hw2.1.symm
              have HOD := Lib.hid (HOC.out.trans od)
              have HW12 : Hid (OwnR wd wb.heap.size B1 l1.length d1 l1 ∧ OwnR wd wc.heap.size B2 l1.length d2 l1) := Lib.hid ⟨HW1.out.ok od, hw2⟩
              have HSEP : Hid (∀ a a', B1 = some a → B2 = some a' → a.block ≠ a'.block) := Lib.hid fun a a' e e' => by
                have h1 := (HW1.out.2.lt a.block (by rw [e]; rfl)).2
                have h2 := (hw2.2.lt a'.block (by rw [e']; rfl)).1
                omega
              have HSZ : Hid (wb.heap.size ≤ wc.heap.size) := Lib.hid HOC.out.size
              clear hw2 od HW1 HOC
              have HAP := Lib.hid (apart2_w B1 d1 B2 d2 l1 wd wb.heap.size HW12.out.1 (HW12.out.2.mono HSZ.out) HSEP.out (by have := HLEN.out; omega) HOD.out.size)
              go_wp2_with fail
              (with_reducible refine HAP.out.mono ?_)
              clear HAP
              rintro _ we ⟨rfl, hkv⟩
              have HOE : Hid (Ok wb we) := Lib.hid (HOD.out.trans2 hkv)
              clear hkv
              have HTE := Lib.hid (HTB.out.ok' HOE.out)
              clear HTB HOD HW12 HSEP HSZ HOE
              have HSAME := Lib.hid (same12_f F p m l1 we HTE.out.sd)
              go_wp2_with fail
              (with_reducible refine HSAME.out.mono ?_)
              clear HSAME
              rintro _ wf ⟨rfl, of⟩
              have HTF := Lib.hid (HTE.out.ok' of)
              clear of HTE
              have haw := Lib.hid (awake_r wf)
              go_wp2_with fail
              (with_reducible refine haw.out.mono ?_)
              rintro _ wg ⟨rfl, og⟩
              have HTG := Lib.hid (HTF.out.ok' og)
              clear og HTF haw
              go_wp2_with fail
              go_ret
              exact ⟨rfl, HTG.out.ok⟩
end Go.Proofs.YtebhcadolnjplaaGreat
