/- The law PastGrows, where all names are right, walked. -/
import Derived.Test.YtnjaiiifafbbjaaPp
namespace Go.Proofs.Ytnjaiiifafbbjaa
open Go.RowKit

set_option maxRecDepth 100000 in
set_option maxHeartbeats 8000000 in
theorem pg_good (A B : Option Addr) (na nb ca cb : Nat) (xs ys : List Nm) (x : Int) (w : World) (hna : xs.length = na) (hnb : ys.length = nb) (hca : na ≤ ca) (hA0 : A = none → ca = 0) (hB0 : B = none → cb = 0) (hIA : NamesAt w A xs) (hIB : NamesAt w B ys) (hAb : ∀ b off, A = some ⟨b, off, none⟩ → b < w.heap.size) (hBb : ∀ b off, B = some ⟨b, off, none⟩ → b < w.heap.size) (hle : na + nb ≤ 1000) (hax : allB xs = true) (hay : allB ys = true) :
    Calls Try.prog 9 #[.slice A na ca, .slice B nb cb, .int .i64 x] w (Ret w (.bool true)) := by
  have d1 : decide ((1000 : Int) < (na : Int) + (nb : Int)) = false := decide_eq_false (by omega)
  have HNA := Lib.hid hna
  have HNB := Lib.hid hnb
  have HA0 := Lib.hid hA0
  have HB0 := Lib.hid hB0
  have HIA := Lib.hid hIA
  have HIB := Lib.hid hIB
  have HRA : Hid (∀ w', Ok w w' → Calls Try.prog 46 #[.slice A na ca] w' (Ret w' (.bool true))) := Lib.hid fun w' o => by
    have := Right_w A na ca xs hna (by omega) w' (hIA.ok o); rwa [hax] at this
  have HRB : Hid (∀ w', Ok w w' → Calls Try.prog 46 #[.slice B nb cb] w' (Ret w' (.bool true))) := Lib.hid fun w' o => by
    have := Right_w B nb cb ys hnb (by omega) w' (hIB.ok o); rwa [hay] at this
  have HAX := Lib.hid hax
  have HAY := Lib.hid hay
  clear hna hnb hA0 hB0 hIA hIB hax hay
  go_enter Try.func9, Try.ntmps9
  go_wp2_with fail
  refine (awake_w _).mono ?_
  rintro _ w1 ⟨rfl, o1⟩
  go_wp2_with fail
  refine (HRA.out _ o1).mono ?_
  rintro _ w2 ⟨rfl, o2⟩
  have OA := Lib.hid (Ok.trans o1 o2)
  clear o1 o2
  go_wp2_with fail
  refine (HRB.out _ OA.out).mono ?_
  rintro _ w2 ⟨rfl, o2⟩
  have O2 := Lib.hid (Ok.trans OA.out o2)
  clear OA o2 HRA HRB
  go_wp2_with fail
  refine (new_p _).mono ?_
  rintro _ w3 ⟨rfl, hp3, o3, hs3⟩
  obtain ⟨p, hp⟩ : ∃ p, w2.heap.size = p := ⟨_, rfl⟩
  have hwp : w.heap.size ≤ p := by have := O2.out.size; omega
  rw [hp] at hp3 ⊢
  have HP3 := Lib.hid hp3
  have O3 := Lib.hid (Ok.trans O2.out o3)
  clear hp3 o3 O2
  go_wp2_with fail
  refine (new_p _).mono ?_
  rintro _ w4 ⟨rfl, hq4, o4, hs4⟩
  obtain ⟨q, hq⟩ : ∃ p, w3.heap.size = p := ⟨_, rfl⟩
  have hpq : p < q := by omega
  rw [hq] at hq4 ⊢
  have HP4 := Lib.hid (HP3.out.ok o4)
  have HQ4 := Lib.hid hq4
  have O4 := Lib.hid (Ok.trans O3.out o4)
  clear hq4 o4 O3 HP3
  go_wp2_with fail
  refine (new_p _).mono ?_
  rintro _ w5 ⟨rfl, hr5, o5, hs5⟩
  obtain ⟨r, hr⟩ : ∃ p, w4.heap.size = p := ⟨_, rfl⟩
  have hqr : q < r := by omega
  have HR5S : Hid (w5.heap.size = r + 1) := Lib.hid (by omega)
  rw [hr] at hr5 ⊢
  have HP5 := Lib.hid (HP4.out.ok o5)
  have HQ5 := Lib.hid (HQ4.out.ok o5)
  have HR5 := Lib.hid hr5
  have O5 := Lib.hid (Ok.trans O4.out o5)
  clear hr5 o5 O4 HP4 HQ4 hp hq hr hs3 hs4 hs5
  have hpk := Lib.hid (pick_w x (na + 1) (by omega) (by omega) w5)
  rw [Int.natCast_add, Int.natCast_one] at hpk
  go_wp2_with fail
  refine hpk.out.mono ?_
  rintro _ w6 ⟨⟨k, hk, rfl⟩, rfl⟩
  clear hpk
  have hk0 : (0 : Int) ≤ (k : Int) := Int.natCast_nonneg _
  have hk1 : (k : Int) ≤ (na : Int) := by omega
  have hk2 : (k : Int) ≤ (ca : Int) := by omega
  have hk3 : (na : Int) ≤ (ca : Int) := by omega
  have HM := Lib.hid (OwnNm.made w5.drew)
  have HS := Lib.hid fun w' (h : Ok w5 w') => show OkO w5 w' from h
  have OM : Hid (Ok w5 (w5.drew.alloc (.cells #[] 115))) := Lib.hid (Ok.alloc (Ok.drew (Ok.refl _)) _)
  go_wp2_with fail
  go_region_held3 (fun w' => OkO w5 w')
    ((refine HS.out _ ?_; (repeat (first | (with_reducible exact Ok.refl _) | (with_reducible assumption) | (with_reducible refine Ok.drew ?_) | (with_reducible refine Ok.alloc ?_ _)))))
    (first
      | (refine step_appN (by rfl) _ _ (by rfl) w5.drew.heap.size _ _ _ [] (by rfl) HM.out B nb cb ys (by rfl) HNB.out HB0.out (HIB.out.ok (Ok.trans O5.out OM.out)) (by simp; omega) (by simp) ?_; intro A7 n7 c7 w7 hown7 hbel7; have o57 : Ok w5 w7 := Below.trans OM.out hbel7; have h57 := Below.size o57; have HOWN7 := Lib.hid hown7; clear hown7)
      | (refine step_appN (by rfl) (.tmp 60) (.tmp 63) (by rfl) w5.drew.heap.size _ _ _ ys (by rfl) HOWN7.out _ _ _ (xs.drop k) (by rfl) (by rw [List.length_drop, HNA.out]) (fun e => rest_nil HA0.out k e) (((HIA.out.ok (Ok.trans O5.out o57)).rest k ca (by rw [HNA.out]; exact hca))) (by rw [HNB.out]; omega) h57 ?_; intro A8 n8 c8 w8 hown8 hbel8; have o58 : Ok w5 w8 := Below.trans o57 hbel8; have h58 := Below.size o58; have HOWN8 := Lib.hid hown8; clear hown8)
      | (refine step_appN (by rfl) (.tmp 64) (.tmp 67) (by rfl) w5.drew.heap.size _ _ _ _ (by rfl) HOWN8.out _ _ _ (xs.take k) (by rfl) (by rw [List.length_take, HNA.out]; omega) HA0.out ((HIA.out.ok (Ok.trans O5.out o58)).take k) (by rw [List.length_append, List.length_drop, HNB.out, HNA.out]; omega) h58 ?_; intro A9 n9 c9 w9 hown9 hbel9; have o59 : Ok w5 w9 := Below.trans o58 hbel9; have h59 := Below.size o59))
  have HT : Hid (rzs fz (ys ++ xs.drop k ++ xs.take k) = mg (rzs fz ys) (rzs fz xs)) := Lib.hid (turned_eq xs ys k)
  have HTA : Hid (allB (ys ++ xs.drop k ++ xs.take k) = true) := Lib.hid (allB_turned xs ys k HAX.out HAY.out)
  have hn9 : (ys ++ xs.drop k ++ xs.take k).length = na + nb := by
    rw [List.length_append, List.length_append, List.length_drop, List.length_take, HNA.out, HNB.out]; omega
  obtain ⟨ht9, hb9⟩ := hown9.at
  have he9 : n9 = na + nb := by rw [hown9.2, hn9]
  generalize ys ++ xs.drop k ++ xs.take k = ts at *
  have HPG : Hid (Pg w p q r A B A9 xs ys ts fz fz fz w9) := Lib.hid ⟨Ok.trans O5.out o59, hwp, hpq, hqr, HP5.out.ok o59, HQ5.out.ok o59, HR5.out.ok o59, HIA.out.ok (Ok.trans O5.out o59), HIB.out.ok (Ok.trans O5.out o59), ht9, hAb, hBb, fun b off e => by
    have h1 : w5.drew.heap.size ≤ b := hb9 b off e
    have h2 : w5.drew.heap.size = w5.heap.size := rfl
    have := HR5S.out
    omega⟩
  have HN9 := Lib.hid he9
  have HTL := Lib.hid hn9
  clear hown9 hbel9 o57 o58 o59 h57 h58 h59 ht9 hb9 he9 hn9 HOWN7 HOWN8 hbel7 hbel8 HM OM HS HP5 HQ5 HR5 HIA HIB O5 HR5S hAb hBb
  generalize (if ca = k then A else Option.map (fun x => x.add (k * 2)) A) = A3
  obtain rfl := HN9.out
  clear HN9
  go_wp2_with fail
  refine (Raise_w p fz A na ca xs HNA.out (by omega) _ HPG.out.pp HPG.out.na (fun b off e => by have := HPG.out.ba b off e; have := HPG.out.lo; omega)).mono ?_
  rintro _ w10 ⟨hm, hc⟩
  rcases hc with ⟨h, _⟩ | ⟨_, rfl, hp10⟩
  · rw [HAX.out] at h; cases h
  have HPG := Lib.hid (HPG.out.atp hm hp10)
  clear hm hp10
  generalize hfa : rzs fz xs = fa at *
  go_wp2_with fail
  refine (copy_p p fa _ HPG.out.pp).mono ?_
  rintro _ w11 ⟨rfl, hs11, o11, -⟩
  have hrs : r < w10.heap.size := World.block_lt_of_cell? _ _ HPG.out.pr.made
  obtain ⟨s, hs⟩ : ∃ s, w10.heap.size = s := ⟨_, rfl⟩
  rw [hs] at hs11 hrs ⊢
  have HPG := Lib.hid (HPG.out.ok o11)
  have HS := Lib.hid hs11
  clear hs11 o11 hs
  go_wp2_with fail
  refine (Raise_w q fz B nb cb ys HNB.out (by omega) _ HPG.out.pq' HPG.out.nb (fun b off e => by have := HPG.out.bb b off e; have := HPG.out.lo; omega)).mono ?_
  rintro _ w12 ⟨hm, hc⟩
  rcases hc with ⟨h, _⟩ | ⟨_, rfl, hp12⟩
  · rw [HAY.out] at h; cases h
  have HS := Lib.hid (hm.past (by omega) HS.out)
  have HPG := Lib.hid (HPG.out.atq hm hp12)
  clear hm hp12
  generalize hfb : rzs fz ys = fb at *
  go_wp2_with fail
  refine (Raise_w r fz A9 (na + nb) c9 ts HTL.out (by omega) _ HPG.out.pr HPG.out.nt (fun b off e => by have := HPG.out.bt b off e; omega)).mono ?_
  rintro _ w13 ⟨hm, hc⟩
  rcases hc with ⟨h, _⟩ | ⟨_, rfl, hp13⟩
  · rw [HTA.out] at h; cases h
  have HS := Lib.hid (hm.past (by omega) HS.out)
  have HPG := Lib.hid (HPG.out.atr hm hp13)
  clear hm hp13
  generalize hft : rzs fz ts = ft at *
  go_wp2_with fail
  have HPA := Lib.hid (two_pasts w13 q fb HPG.out.pq')
  have oa : Ok w13 (w13.alloc (.cells #[.pointer (some ⟨q, 0, none⟩), .pointer (some ⟨q, 0, none⟩)] 92)) := Ok.alloc (Ok.refl _) _
  have hp13 : p < w13.heap.size := World.block_lt_of_cell? _ _ HPG.out.pp.made
  have HPG := Lib.hid (HPG.out.ok oa)
  have HS := Lib.hid (HS.out.ok oa)
  clear oa
  generalize w13.alloc (.cells #[.pointer (some ⟨q, 0, none⟩), .pointer (some ⟨q, 0, none⟩)] 92) = w13a at *
  refine (Merge_w p fa _ 2 2 _ rfl (by omega) w13a HPG.out.pp HPA.out (fun b off e => by simp only [Option.some.injEq, Addr.mk.injEq] at e; omega) (fun j hj => by
    match j, hj with
    | 0, _ => exact Nat.ne_of_gt hpq
    | 1, _ => exact Nat.ne_of_gt hpq)).mono ?_
  rintro _ w14 ⟨rfl, hp14, hm⟩
  rw [merged_p] at hp14
  have HS := Lib.hid (hm.past (by omega) HS.out)
  have HPG := Lib.hid (HPG.out.atp hm hp14)
  clear hm hp14 HPA hp13
  go_wp2_with fail
  have HPA := Lib.hid (one_past w14 s fa HS.out)
  have oa : Ok w14 (w14.alloc (.cells #[.pointer (some ⟨s, 0, none⟩)] 92)) := Ok.alloc (Ok.refl _) _
  have hp14 : q < w14.heap.size := World.block_lt_of_cell? _ _ HPG.out.pq'.made
  have HPG := Lib.hid (HPG.out.ok oa)
  have HS := Lib.hid (HS.out.ok oa)
  clear oa
  generalize w14.alloc (.cells #[.pointer (some ⟨s, 0, none⟩)] 92) = w14a at *
  refine (Merge_w q fb _ 1 1 _ rfl (by omega) w14a HPG.out.pq' HPA.out (fun b off e => by simp only [Option.some.injEq, Addr.mk.injEq] at e; omega) (fun j hj => by
    match j, hj with
    | 0, _ => show s ≠ q; omega)).mono ?_
  rintro _ w15 ⟨rfl, hp15, hm⟩
  rw [merged_q] at hp15
  have HS := Lib.hid (hm.past (by omega) HS.out)
  have HPG := Lib.hid (HPG.out.atq hm hp15)
  clear hm hp15 HPA hp14
  rw [HT.out] at HPG
  have HF1 : Hid (Fits (mg fb fa)) := Lib.hid (mg_fits _ _ (by rw [← hfb]; exact rzs_fits _ _ fz_fits HAY.out) (by rw [← hfa]; exact rzs_fits _ _ fz_fits HAX.out))
  have HF2 := Lib.hid (mg_right fb fa)
  have HF3 : Hid (∀ x, x ∈ ts → isB (mg fb fa) x = true) := Lib.hid fun x hx => by rw [← HT.out, ← hft]; exact isB_in ts x hx HTA.out
  have HF4 : Hid (rzs (mg fb fa) xs = mg fb fa) := Lib.hid (by rw [← hfa]; exact absorbed fb xs)
  clear HT HTA HAY hft hfb
  generalize mg fb fa = f at *
  go_wp2_with fail
  refine (equal_w p r f _ HPG.out.pp HPG.out.pr).mono ?_
  rintro _ w16 ⟨rfl, rfl⟩
  go_wp2_with fail
  refine (equal_w q r f _ HPG.out.pq' HPG.out.pr).mono ?_
  rintro _ w16 ⟨rfl, rfl⟩
  go_wp2_with fail
  go_loopw [14] (fun st wr => ∃ i : Nat, i ≤ 8 ∧ st = .int .i64 ((i : Int) + 1) ∧ Pg w p q r A B A9 xs ys ts f f f wr ∧ PastAt wr s fa) (fun st _ => 9 - (intOf st).toNat)
  case atStart => exact ⟨0, by omega, rfl, HPG.out, HS.out⟩
  case round =>
    obtain ⟨i, hi, rfl, hpg, hs⟩ := hrel
    have HPG := Lib.hid hpg
    have HS := Lib.hid hs
    clear hpg hs
    by_cases hlt : i < 8
    · have d1 : decide ((i : Int) + 1 ≤ 8) = true := decide_eq_true (by omega)
      have h2 := HF2.out i
      obtain ⟨h3, h4⟩ := HF1.out i hlt
      have HO := Lib.hid fun w' h => Of_p p f i hlt ((i : Int) + 1) (by omega) w' h
      have HO2 := Lib.hid fun w' h => Of_p s fa i hlt ((i : Int) + 1) (by omega) w' h
      have HI1 := Lib.hid fun w' h => Is_w p f ⟨(i : Int) + 1, f i + 1⟩ w' h
      rw [isB_over] at HI1
      have HI2 := Lib.hid fun w' h => Is_w p f ⟨(i : Int) + 1, f i⟩ w' h
      have HTOP : Hid (0 < f i → isB f ⟨(i : Int) + 1, f i⟩ = true) := Lib.hid fun h => isB_top f HF1.out i hlt h
      generalize isB f ⟨(i : Int) + 1, f i⟩ = bt at HI2 HTOP
      generalize f i = v at h2 h3 h4 HO HI1 HI2 HTOP
      generalize fa i = u at h2 HO2
      unfold nmV at HI1 HI2
      simp only at HI1 HI2
      have d2 : decide (v < u) = false := decide_eq_false (by omega)
      have hi0 : (0 : Int) ≤ (i : Int) := Int.natCast_nonneg _
      have hi1 : (i : Int) < 8 := by omega
      go_wp2_with fail
      refine (HO.out _ HPG.out.pp).mono ?_
      rintro _ w17 ⟨rfl, rfl⟩
      go_wp2_with fail
      refine (HO2.out _ HS.out).mono ?_
      rintro _ w17 ⟨rfl, rfl⟩
      go_wp2_with fail
      refine (HO.out _ HPG.out.pp).mono ?_
      rintro _ w17 ⟨rfl, rfl⟩
      go_wp2_with fail
      refine (HI1.out _ HPG.out.pp).mono ?_
      rintro _ w17 ⟨rfl, o17⟩
      have HPG := Lib.hid (HPG.out.ok o17)
      have HS := Lib.hid (HS.out.ok o17)
      clear o17
      go_wp2_with fail
      refine (HO.out _ HPG.out.pp).mono ?_
      rintro _ w18 ⟨rfl, rfl⟩
      by_cases hpos : 0 < v
      · have d3 : decide (0 < v) = true := decide_eq_true hpos
        have hbt := HTOP.out hpos
        subst hbt
        go_wp2_with fail
        refine (HO.out _ HPG.out.pp).mono ?_
        rintro _ w18 ⟨rfl, rfl⟩
        go_wp2_with fail
        refine (HI2.out _ HPG.out.pp).mono ?_
        rintro _ w18 ⟨rfl, o18⟩
        have HPG := Lib.hid (HPG.out.ok o18)
        have HS := Lib.hid (HS.out.ok o18)
        clear o18
        go_wp2
        refine ⟨⟨i + 1, by omega, by go_num, HPG.out, HS.out⟩, ?_⟩
        show 9 - ((i : Int) + 1 + 1).toNat < 9 - ((i : Int) + 1).toNat
        omega
      · have d3 : decide (0 < v) = false := decide_eq_false hpos
        go_wp2
        refine ⟨⟨i + 1, by omega, by go_num, HPG.out, HS.out⟩, ?_⟩
        show 9 - ((i : Int) + 1 + 1).toNat < 9 - ((i : Int) + 1).toNat
        omega
    · have d1 : decide ((i : Int) + 1 ≤ 8) = false := decide_eq_false (by omega)
      clear HS HF2
      go_wp2_with fail
      go_loopw [15] (fun st wr => ∃ j : Nat, j ≤ na + nb ∧ st = .int .i64 (j : Int) ∧ Pg w p q r A B A9 xs ys ts f f f wr) (fun st _ => (na + nb) - (intOf st).toNat)
      case atStart => exact ⟨0, by omega, rfl, HPG.out⟩
      case round =>
        obtain ⟨j, hj, rfl, hpg⟩ := hrel
        have HPG := Lib.hid hpg
        clear hpg
        by_cases hjl : j < na + nb
        · have d4 : decide ((j : Int) < ((na + nb : Nat) : Int)) = true := decide_eq_true (by omega)
          have d5 : decide ((j : Int) < (na : Int) + (nb : Int)) = true := decide_eq_true (by omega)
          obtain ⟨b, off, rfl, C0, C1⟩ := HPG.out.nt j (by rw [HTL.out]; exact hjl)
          have hib := HF3.out (atN ts j) (by rw [atN_get ts j (by rw [HTL.out]; exact hjl)]; exact List.getElem_mem _)
          have HI3 := Lib.hid fun w' h => Is_w p f (atN ts j) w' h
          rw [hib] at HI3
          unfold nmV at HI3
          clear hib
          generalize atN ts j = y at C0 C1 HI3
          obtain ⟨yc, yn⟩ := y
          simp only at C0 C1 HI3
          have hj0 : (0 : Int) ≤ (j : Int) := Int.natCast_nonneg _
          have hj1 : (j : Int) < (na : Int) + (nb : Int) := by omega
          go_wp2_with fail
          refine (HI3.out _ HPG.out.pp).mono ?_
          rintro _ w19 ⟨rfl, o19⟩
          have HPG := Lib.hid (HPG.out.ok o19)
          clear o19
          go_wp2
          refine ⟨⟨j + 1, hjl, by go_num, HPG.out⟩, ?_⟩
          show (na + nb) - ((j : Int) + 1).toNat < (na + nb) - (j : Int).toNat
          omega
        · have d4 : decide ((j : Int) < ((na + nb : Nat) : Int)) = false := decide_eq_false (by omega)
          have d5 : decide ((j : Int) < (na : Int) + (nb : Int)) = false := decide_eq_false (by omega)
          go_wp2_with fail
          refine (newWriter_w _).mono ?_
          rintro _ w20 ⟨rfl, ⟨A20, c20, hw20⟩, o20, hs20⟩
          have hpw : p < wr.heap.size := World.block_lt_of_cell? _ _ HPG.out.pp.made
          have hlw : w.heap.size ≤ wr.heap.size := HPG.out.below.size
          obtain ⟨g, hg⟩ : ∃ g, wr.heap.size = g := ⟨_, rfl⟩
          rw [hg] at hw20 o20 ⊢
          have O20 : Hid (Ok wr w20) := Lib.hid (by rw [← hg] at o20; exact o20)
          have HPG20 := Lib.hid (HPG.out.ok O20.out)
          have HW20 := Lib.hid hw20
          have hpg : p < g := by omega
          have hlg : w.heap.size ≤ g := by omega
          clear hw20
          go_wp2_with fail
          refine (write_p p f HF1.out g hpg _ [] (by simp) w20 HPG20.out.pp HW20.out).mono ?_
          rintro _ w21 ⟨rfl, ⟨A21, c21, hw21⟩, hb21⟩
          rw [List.nil_append] at hw21
          have O21 : Hid (Ok wr w21) := Lib.hid (by rw [← hg] at hb21; exact Below.trans O20.out hb21)
          have HW21 := Lib.hid hw21
          have hlen : (encs (numsL f)).length ≤ 140737488350000 := by
            have := encs_len (numsL f)
            have h8 : (numsL f).length = 8 := rfl
            omega
          have HRA := Lib.hid (read_again f HF1.out)
          clear hw21 hb21 o20 hs20 HW20 HPG20 O20
          generalize encs (numsL f) = es at *
          go_wp2_with fail
          refine (done_w g _ es w21 HW21.out hlen).mono ?_
          rintro _ w22 ⟨⟨A22, c22, rfl, hby⟩, o22, -⟩
          have O22 := Lib.hid (Ok.trans O21.out o22)
          have HBY := Lib.hid hby
          clear hby o22 HW21 O21
          go_wp2_with fail
          refine (newReader_r w22 _ es HBY.out hlen).mono ?_
          rintro _ w23 ⟨W0, g2, rfl, hr, hok0, hg2⟩
          have hWg : W0.heap.size ≤ g2 := hr.1
          have hwW : wr.heap.size ≤ W0.heap.size := Nat.le_trans O22.out.size hok0.size
          have O23 : Hid (Ok wr w23) := Lib.hid (Ok.trans (Ok.trans O22.out hok0) hr.2.1)
          have HRD := Lib.hid hr
          clear hr hok0
          go_wp2_with fail
          refine (read_p W0 g2 w23 es HRD.out).mono ?_
          rintro _ w24 ⟨-, hm24, hc24⟩
          have O24 : Hid (Ok wr w24) := Lib.hid (Below.trans O23.out (hm24.below (by omega) (by omega)))
          rcases hc24 with ⟨hf, _⟩ | ⟨_, rfl, hpt⟩
          · rw [HRA.out.1] at hf; cases hf
          obtain ⟨t, ht⟩ : ∃ t, w23.heap.size = t := ⟨_, rfl⟩
          have hpt' : p < t := by omega
          have hlt' : w.heap.size ≤ t := by omega
          rw [ht] at hpt ⊢
          have HPT : Hid (PastAt w24 t f) := Lib.hid (hpt.congr HRA.out.2)
          have HPG24 := Lib.hid (HPG.out.ok O24.out)
          have hts : t < w24.heap.size := World.block_lt_of_cell? _ _ hpt.made
          clear hpt hm24 hg2 ht HRD O23 O22 HBY HPG
          have HRT := Lib.hid (Raise_w t f A na ca xs HNA.out (by omega) w24 HPT.out HPG24.out.na (fun b off e => by have := HPG24.out.ba b off e; omega))
          go_wp2_with fail
          refine (equal_w t p f _ HPT.out HPG24.out.pp).mono ?_
          rintro _ w25 ⟨rfl, rfl⟩
          go_wp2_with fail
          refine HRT.out.mono ?_
          rintro _ w26 ⟨hm26, hc26⟩
          rcases hc26 with ⟨h, _⟩ | ⟨_, rfl, hpt⟩
          · rw [HAX.out] at h; cases h
          rw [HF4.out] at hpt
          have HP26 := Lib.hid (hm26.past (by omega) HPG24.out.pp)
          have O26 : Hid (Ok w w26) := Lib.hid (Below.trans HPG24.out.below (hm26.below hlt' (by omega)))
          have HPT := Lib.hid hpt
          clear hpt hm26
          go_wp2_with fail
          refine (equal_w t p f _ HPT.out HP26.out).mono ?_
          rintro _ w27 ⟨rfl, rfl⟩
          go_wp2
          go_ret
          exact ⟨rfl, O26.out⟩
end Go.Proofs.Ytnjaiiifafbbjaa
