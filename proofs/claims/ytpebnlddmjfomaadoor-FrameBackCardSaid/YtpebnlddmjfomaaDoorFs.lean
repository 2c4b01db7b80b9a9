/- The law FrameBack, walked. -/
import Derived.Test.YtpebnlddmjfomaaDoorFr
import Derived.Deep.CutRange
namespace Go.Proofs.YtpebnlddmjfomaaDoor
open Go.RowKit
theorem put_pos {l : List Fr} {i : Nat} (h : i < (putL l).length) : l ≠ [] := fun e => by rw [e] at h; exact absurd h (Nat.not_lt_zero _)
set_option maxRecDepth 100000 in
set_option maxHeartbeats 8000000 in
theorem back_w (w : World) (ht : Tab w) (A : Option Addr) (n c : Nat) (l : List Fr) (hn : l.length = n) (hcap : n ≤ c) (cut bit : Int) (hI : FramesAt w A l) :
    Calls Tryd.prog 5 #[.slice A n c, .int .i64 cut, .int .i64 bit] w (Ret w (.bool true)) := by
  have HAW := Lib.hid (awake_w w ht)
  have HI := Lib.hid hI
  have HN := Lib.hid hn
  have HT := Lib.hid ht
  have HG := Lib.hid (fun V (k : Ok w V) => great_w A n c l hn V (hI.ok k))
  clear hI hn ht
  go_enter Tryd.func5, Tryd.ntmps5
  go_wp2_with fail
  (with_reducible refine HAW.out.mono ?_)
  rintro _ w1 ⟨rfl, o1⟩
  have HO1 := Lib.hid o1
  clear o1 HAW
  go_wp2_with fail
  (with_reducible refine (HG.out _ HO1.out).mono ?_)
  rintro _ w2 ⟨⟨r, rfl, hr⟩, o2⟩
  have HO2 := Lib.hid (Ok.trans HO1.out o2)
  clear o2 HG HO1
  cases r with
  | true =>
    go_wp2_with fail
    go_ret
    exact ⟨rfl, HO2.out⟩
  | false =>
    obtain ⟨h8, h80⟩ := hr rfl
    rw [HN.out] at h8
    clear hr
    have HPL := Lib.hid (put_w A n c l HN.out (by omega) (by omega) w2 (HT.out.ok HO2.out) (HI.out.ok HO2.out))
    go_wp2_with fail
    (with_reducible refine HPL.out.mono ?_)
    rintro _ w3 ⟨Ab, cb, rfl, hOb, o3⟩
    have HO3 := Lib.hid (Ok.trans HO2.out o3)
    by_cases he : putErr l = 0
    · have hpm : putM l = putL l := by unfold putM; rw [if_pos he]
      have HALL := Lib.hid ((putErr_all l).1 he)
      rw [hpm] at hOb ⊢
      rw [he]
      have HOB := Lib.hid hOb
      have HB3 := Lib.hid (hOb.bytes (by omega))
      clear hOb o3 he hpm HPL
      have hUP := fun j => upto_le l j
      have HUP := Lib.hid hUP
      have HUS := Lib.hid (upto_succ l)
      have HUA := Lib.hid (upto_all l)
      have HGP := Lib.hid (got_put HALL.out)
      have HGC := Lib.hid (fun k wh => got_cut HALL.out k wh)
      have HGT := Lib.hid (fun i wh => got_turned HALL.out i wh)
      clear hUP
      have HLX : Hid ((putL l).length ≤ 1000000000) := Lib.hid (by omega)
      have HGET := Lib.hid (get_w Ab (putL l).length cb (putL l) rfl HLX.out w3 (HT.out.ok HO3.out) HB3.out)
      generalize hL : (putL l).length = L at *
      have HL := Lib.hid hL
      clear hL
      go_wp2_with fail
      (with_reducible refine HGET.out.mono ?_)
      rintro _ w4 ⟨Ax, nx, cx, xs, r, rfl, hG, hF, o4⟩
      have exs := (got_uniq HGP.out hG).1.symm
      subst exs
      have HO4 := Lib.hid (Ok.trans HO3.out o4)
      have HB4 := Lib.hid (o4.bytes HB3.out)
      have enx : n = nx := (hF.1.trans HN.out).symm
      subst enx
      have HEQ := Lib.hid (equal_w Ax A n cx c l HN.out (by omega) w4 hF.at (HI.out.ok HO4.out))
      clear hG hF o4 HGET HGP HB3 HOB HO3
      rw [HL.out]
      have hLL : ((L : Int) != (L : Int)) = false := by simp
      go_wp2_with fail
      (with_reducible refine HEQ.out.mono ?_)
      rintro _ w5 ⟨rfl, o5⟩
      have HO5 := Lib.hid (Ok.trans HO4.out o5)
      have HB5 := Lib.hid (o5.bytes HB4.out)
      have HPK := Lib.hid (fun V => pick_w cut (L + 1) (Nat.succ_pos L) (by omega) V)
      rw [show ((L + 1 : Nat) : Int) = (L : Int) + 1 from Int.natCast_succ L] at HPK
      have hL0 : (0 : Int) ≤ (L : Int) := Int.natCast_nonneg _
      have hL1 : (L : Int) ≤ 80000 := by omega
      clear o5 HEQ HB4 HO4
      go_wp2_with fail
      (with_reducible refine (HPK.out _).mono ?_)
      rintro _ w6 ⟨⟨k, hk, rfl⟩, rfl⟩
      clear HPK hLL
      go_wp2_with fail
      go_loopw [12, 13] (fun a b wr => ∃ wh : Nat, wh ≤ n ∧ a = .int .i64 wh ∧ b = .int .i64 (upto l wh : Nat) ∧ upto l wh ≤ k ∧ Ok w wr ∧ Ok w5 wr) (fun a _ _ => n - (intOf a).toNat)
      case atStart => exact ⟨0, Nat.zero_le _, rfl, rfl, Nat.zero_le _, HO5.out, Ok.refl _⟩
      case round =>
        obtain ⟨wh, hwh, rfl, rfl, hup, okr, okr5⟩ := hrel
        have HOK := Lib.hid okr
        have HB6 := Lib.hid (okr5.bytes HB5.out)
        have HOK5 := Lib.hid okr5
        clear okr okr5
        by_cases hlt : wh < n ∧ upto l wh + 9 + (atF l wh).data.length ≤ k
        · obtain ⟨hlt, hnx⟩ := hlt
          have d1 : decide ((wh : Int) < (n : Int)) = true := decide_eq_true (by omega)
          have HS := Lib.hid (HUS.out wh (by rw [HN.out]; exact hlt))
          obtain ⟨b, off, rfl, -, v, C1, hv⟩ := HI.out.ok HOK.out wh (by rw [HN.out]; exact hlt)
          obtain ⟨A1, c1, rfl, -⟩ := hv.form
          generalize (atF l wh).data.length = m at *
          generalize hua : upto l wh = ua at *
          have HU := Lib.hid hua
          clear hua hv
          have d2 : decide ((ua : Int) + 9 + (m : Int) ≤ (k : Int)) = true := decide_eq_true (by omega)
          have hi0 : (0 : Int) ≤ (wh : Int) := Int.natCast_nonneg _
          have hi1 : (wh : Int) < (n : Int) := by omega
          have hu0 : (0 : Int) ≤ (ua : Int) := Int.natCast_nonneg _
          have hu1 : (ua : Int) ≤ 80000 := by omega
          have hm0 : (0 : Int) ≤ (m : Int) := Int.natCast_nonneg _
          have hm1 : (m : Int) ≤ 80000 := by omega
          go_wp2_with fail
          refine ⟨⟨wh + 1, hlt, by go_num, ?_, by rw [HS.out]; omega, HOK.out, HOK5.out⟩, by simp [intOf]; omega⟩
          rw [HS.out]
          go_num
        · have HCUT := Lib.hid (HGC.out k wh (by rw [HN.out]; exact hwh) hup (fun h => by rw [HN.out] at h; exact Nat.lt_of_not_le fun h2 => hlt ⟨h, h2⟩))
          have hcb := HB6.out.cap.2
          have s1 := low23 Ab L cb k (by omega)
          have HGE2 := Lib.hid (get_w Ab k cb ((putL l).take k) (by rw [List.length_take, HL.out]; omega) (by omega) wr (HT.out.ok HOK.out) (bytes_take HB6.out (by rw [HL.out]; omega)))
          by_cases hlt2 : wh < n
          · have d1 : decide ((wh : Int) < (n : Int)) = true := decide_eq_true (by omega)
            have hnx : ¬ (upto l wh + 9 + (atF l wh).data.length ≤ k) := fun h => hlt ⟨hlt2, h⟩
            obtain ⟨b, off, rfl, -, v, C1, hv⟩ := HI.out.ok HOK.out wh (by rw [HN.out]; exact hlt2)
            obtain ⟨A1, c1, rfl, hvl⟩ := hv.form
            have hi0 : (0 : Int) ≤ (wh : Int) := Int.natCast_nonneg _
            have hi1 : (wh : Int) < (n : Int) := by omega
            obtain ⟨m, hm⟩ : ∃ m, m = (atF l wh).data.length := ⟨_, rfl⟩
            rw [← hm] at C1 hnx hvl
            have d2 : decide ((upto l wh : Int) + 9 + (m : Int) ≤ (k : Int)) = false := decide_eq_false (by omega)
            have hm0 : (0 : Int) ≤ (m : Int) := Int.natCast_nonneg _
            have hm1 : (m : Int) ≤ 140737488351232 := by omega
            have hu0 : (0 : Int) ≤ (upto l wh : Int) := Int.natCast_nonneg _
            have hu1 : (upto l wh : Int) ≤ 80000 := by omega
            clear hv hm hlt hnx
            go_wp2_with fail
            (with_reducible refine HGE2.out.mono ?_)
            rintro _ w7 ⟨Ay, ny, cy, ys, r7, rfl, hG7, hF7, o7⟩
            obtain ⟨r8, hg8⟩ := HCUT.out
            have eys := (got_uniq hg8 hG7).1.symm
            subst eys
            have HO7 := Lib.hid (Ok.trans HOK.out o7)
            have HO57 := Lib.hid (Ok.trans HOK5.out o7)
            have eny : wh = ny := (hF7.1.trans (by rw [List.length_take, HN.out]; omega)).symm
            subst eny
            have HEQ2 := Lib.hid (equal_w Ay _ wh cy c (l.take wh) (by rw [List.length_take, HN.out]; omega) (by omega) w7 hF7.at ((HI.out.ok HO7.out).take wh))
            have s2 := low22 (some ⟨b, off, none⟩) n c wh (by omega)
            have hul : (putL (l.take wh)).length = upto l wh := rfl
            rw [hul]
            clear hul hG7 hF7 o7 hg8 HCUT HGE2 s1 HOK HOK5 HB6
            generalize upto l wh = ua at *
            have hne : ((ua : Int) != (ua : Int)) = false := by simp
            go_wp2_with fail
            (with_reducible refine HEQ2.out.mono ?_)
            rintro _ w8 ⟨rfl, o8⟩
            have HO8 := Lib.hid (Ok.trans HO7.out o8)
            have HO58 := Lib.hid (Ok.trans HO57.out o8)
            clear o8 HEQ2 HO7 HO57 s2 hne hup
            by_cases hz : L = 0
            · have dz : ((L : Int) == 0) = true := by simp [hz]
              go_wp2_with fail
              go_ret
              exact ⟨rfl, HO8.out⟩
            · have dz : ((L : Int) == 0) = false := by simp [hz]
              have HPK2 := Lib.hid (fun V => pick_w bit (8 * L) (by omega) (by omega) V)
              rw [show ((8 * L : Nat) : Int) = 8 * (L : Int) from by simp] at HPK2
              go_wp2_with fail
              (with_reducible refine (HPK2.out _).mono ?_)
              rintro _ w9 ⟨⟨i, hi, rfl⟩, rfl⟩
              clear HPK2 dz
              have hi80 : i / 8 < L := by omega
              have hi0 : (0 : Int) ≤ (i : Int) := Int.natCast_nonneg _
              have hi1 : (i : Int) < 640000 := by omega
              have hiq : (i : Int) / 8 = ((i / 8 : Nat) : Int) := by omega
              have HIQ := Lib.hid hiq
              clear hiq
              go_wp2_with fail
              go_loopw [12, 13] (fun a b wr => ∃ v : Nat, v ≤ n ∧ a = .int .i64 v ∧ b = .int .i64 (upto l v : Nat) ∧ upto l v ≤ i / 8 ∧ Ok w wr ∧ Ok w5 wr) (fun a _ _ => n - (intOf a).toNat)
              case atStart => exact ⟨0, Nat.zero_le _, rfl, rfl, Nat.zero_le _, HO8.out, HO58.out⟩
              case round =>
                obtain ⟨v, hv, rfl, rfl, hup, okr, okr5⟩ := hrel
                have HOK := Lib.hid okr
                have HB6 := Lib.hid (okr5.bytes HB5.out)
                have HOK5 := Lib.hid okr5
                clear okr okr5
                have hvn : v < n := by
                  rcases Nat.lt_or_ge v n with h | h
                  · exact h
                  · obtain rfl : v = n := by omega
                    have h1 := HUA.out
                    rw [HN.out] at h1
                    omega
                obtain ⟨b', off', ea, -, x, C1, hx⟩ := HI.out.ok HOK.out v (by rw [HN.out]; exact hvn)
                have HS := Lib.hid (HUS.out v (by rw [HN.out]; exact hvn))
                obtain ⟨A1, c1, rfl, hxl⟩ := hx.form
                obtain ⟨m, hm⟩ : ∃ m, m = (atF l v).data.length := ⟨_, rfl⟩
                have HMM := Lib.hid hm
                have HEA := Lib.hid ea
                rw [← hm] at C1 hxl
                clear hm hx ea
                have vi0 : (0 : Int) ≤ (v : Int) := Int.natCast_nonneg _
                have vi1 : (v : Int) < (n : Int) := by omega
                obtain ⟨ub', hub'⟩ : ∃ q, q = upto l v := ⟨_, rfl⟩
                have HUB := Lib.hid hub'
                rw [← hub'] at hup ⊢
                rw [← hub', ← HMM.out] at HS
                clear hub'
                have hm0 : (0 : Int) ≤ (m : Int) := Int.natCast_nonneg _
                have hm1 : (m : Int) ≤ 140737488351232 := by omega
                have hu0 : (0 : Int) ≤ (ub' : Int) := Int.natCast_nonneg _
                have hu1 : (ub' : Int) ≤ 80000 := by omega
                (have hea := HEA.out; simp only [Option.some.injEq, Addr.mk.injEq, and_true] at hea; obtain ⟨rfl, rfl⟩ := hea)
                by_cases hnx : ub' + 9 + m ≤ i / 8
                · have d2 : decide ((ub' : Int) + 9 + (m : Int) ≤ (i : Int) / 8) = true := decide_eq_true (by rw [HIQ.out]; omega)
                  go_wp2_with fail
                  refine ⟨⟨v + 1, hvn, by go_num, ?_, by rw [HS.out]; exact hnx, HOK.out, HOK5.out⟩, by simp [intOf]; omega⟩
                  rw [HS.out]
                  go_num
                · have d2 : decide ((ub' : Int) + 9 + (m : Int) ≤ (i : Int) / 8) = false := decide_eq_false (by rw [HIQ.out]; omega)
                  have HTN := Lib.hid (fun zs r (h : Got (flip (putL l) i) zs r) => HGT.out i v (by rw [HN.out]; exact hvn) (by rw [← HUB.out]; exact hup) (by rw [← HUB.out, ← HMM.out]; omega) h)
                  have HUV : Hid ((putL (l.take v)).length = ub') := Lib.hid HUB.out.symm
                  have HEM := Lib.hid (own_empty wr)
                  have HBE := Lib.hid (((Ok.refl wr).alloc (.cells #[] 5)).bytes HB6.out)
                  have HBD : Hid (([] : List B8).length + (putL l).length ≤ 140737488351232) := Lib.hid (by rw [HL.out]; simp; omega)
                  have HFV := Lib.hid (flip_v ((putL l).getD (i / 8) 0#8) i)
                  have HFL : Hid (flip (putL l) i = (putL l).set (i / 8) ((putL l).getD (i / 8) 0#8 ^^^ 1#8 <<< (i % 8))) := Lib.hid rfl
                  have HPO : Hid (0 < (putL l).length) := Lib.hid (by rw [HL.out]; omega)
                  have HIL : Hid (i / 8 < (putL l).length) := Lib.hid (by rw [HL.out]; exact hi80)
                  clear HMM HS HB6 hnx
                  go_wp2_with (at_builtin; go_must (refine wpList_appG rfl (.tmp 131) (.tmp 132) rfl wr.heap.size _ [] (putL l) _ rfl rfl HEM.out HBE.out HBD.out (by simp) ?_; intro A10 N10 c10 w10 ho10 hb10 hg10; rw [List.nil_append] at ho10; have hN10 := ho10.len; rw [HL.out] at hN10; subst hN10; obtain ⟨g10, rfl⟩ := ho10.form2 HPO.out; obtain ⟨hk1, hk2⟩ := ho10.cell (i / 8) HIL.out; have hfv := HFV.out; generalize (putL l).getD (i / 8) 0#8 = y at *; have HO10 : Hid (Ok wr w10) := Lib.hid (Below.trans ((Ok.refl wr).alloc _) hb10); have HST := Lib.hid (ho10.store (i / 8) (y ^^^ 1#8 <<< (i % 8))); rw [← HFL.out] at HST; generalize y ^^^ 1#8 <<< (i % 8) = z at *; clear ho10 hb10 hg10))
                  have HBW : Hid (Ok wr (w10.setCell ⟨g10, i / 8, none⟩ (.int .u8 (ub z)))) := Lib.hid (Below.trans HO10.out (HST.out.2))
                  clear hk1 hk2 hfv HO10 HFL HFV HEM HBE HBD
                  generalize w10.setCell ⟨g10, i / 8, none⟩ (.int .u8 (ub z)) = w11 at *
                  have HO11 := Lib.hid (Ok.trans HOK.out HBW.out)
                  have HG11 := Lib.hid (get_w (some ⟨g10, 0, none⟩) N10 c10 (flip (putL l) i) (by rw [flip_length]; exact HL.out) (by omega) w11 (HT.out.ok HO11.out) (HST.out.1.bytes (by rw [flip_length, HL.out]; omega)))
                  clear HST HBW HOK HOK5
                  (with_reducible refine HG11.out.mono ?_)
                  rintro _ w12 ⟨Az, nz, cz, zs, rz, rfl, hG12, hF12, o12⟩
                  obtain ⟨⟨z2, ez⟩, hz4⟩ := HTN.out zs rz hG12
                  have HO12 := Lib.hid (Ok.trans HO11.out o12)
                  have hnz := hF12.1
                  have hzl : v ≤ nz := by rw [hnz, ez, List.length_append, List.length_take, HN.out]; omega
                  have htk : zs.take v = l.take v := by rw [ez, List.take_left' (by rw [List.length_take, HN.out]; omega)]
                  have HZ4 : Hid (4 ≤ i / 8 - ub' → zs = l.take v) := Lib.hid (by rw [HUB.out]; exact hz4)
                  have HNZ := Lib.hid hnz
                  have hcz : nz ≤ cz := hF12.cap
                  have HFZ := hF12.at.take v
                  rw [htk] at HFZ
                  have q20 : ∀ d os, Calls Tryd.prog 20 #[.slice Az v cz, .slice (some ⟨b, off, none⟩) v c] (Go.Sort.grow (redrawn w12 d) os) fun e w'' => e = .returned (.bool true) ∧ ∃ q : Regrown, w'' = Go.Sort.grow (redrawn w12 q.d) q.os := fun d os => Calls.regrown_of (equal_w Az _ v cz c (l.take v) (by rw [List.length_take, HN.out]; omega) (by omega) _ (FramesAt.ok HFZ (below_regrown w12 d os)) (((HI.out.ok HO12.out).take v).ok (below_regrown w12 d os)))
                  have s3 := low22 Az nz cz v (by omega)
                  have s4 := low22 (some ⟨b, off, none⟩) n c v (by omega)
                  have d5 : decide (nz < v) = false := decide_eq_false (by omega)
                  have d5i : decide ((nz : Int) < (v : Int)) = false := decide_eq_false (by omega)
                  generalize hq : (putL zs).length = q at *
                  have HQ := Lib.hid hq
                  clear hq hG12 hF12 o12 hz4 hnz htk HFZ HTN HG11 ez
                  go_wp2_with fail
                  refine wp_region_quiet_below (by kernel_rfl) (by kernel_rfl) ?_
                  refine HeldU.out ?_
                  repeat (
                    refine hqU_step (fun K hK => ?_)
                    go_simp
                    first
                      | (refine hK _ ?_; clear hK K)
                      | (apply Exists.intro
                         refine ⟨fun _ => ?_, hK _ ?_⟩
                         (with_reducible first
                           | exact q20 _ _)
                         clear hK K))
                  refine HeldU.mk (wpQuiet_nil ?_)
                  intro _ hw'
                  obtain ⟨⟨dq, osq⟩, hw''⟩ := hw'
                  subst hw''
                  have HO13 := Lib.hid (Ok.trans HO12.out (below_regrown w12 dq osq))
                  clear q20 s3 s4 d5 d5i
                  generalize Go.Sort.grow (redrawn w12 dq) osq = w13 at *
                  by_cases h4 : i / 8 - ub' < 4
                  · have d6 : decide ((i : Int) / 8 - (ub' : Int) < 4) = true := decide_eq_true (by rw [HIQ.out]; omega)
                    go_wp2_with fail
                    go_ret
                    exact ⟨rfl, HO13.out⟩
                  · have d6 : decide ((i : Int) / 8 - (ub' : Int) < 4) = false := decide_eq_false (by rw [HIQ.out]; omega)
                    have hzv := HZ4.out (by omega)
                    have d7 : ((nz : Int) == (v : Int)) = true := by have h1 := HNZ.out; rw [hzv, List.length_take, HN.out] at h1; simp; omega
                    have d8 : ((q : Int) == (ub' : Int)) = true := by have h1 := HQ.out; rw [hzv, HUV.out] at h1; simp; omega
                    clear hzv
                    go_wp2_with fail
                    go_ret
                    exact ⟨rfl, HO13.out⟩
          · have d1 : decide ((wh : Int) < (n : Int)) = false := decide_eq_false (by omega)
            clear hlt
            go_wp2_with fail
            (with_reducible refine HGE2.out.mono ?_)
            rintro _ w7 ⟨Ay, ny, cy, ys, r7, rfl, hG7, hF7, o7⟩
            obtain ⟨r8, hg8⟩ := HCUT.out
            have eys := (got_uniq hg8 hG7).1.symm
            subst eys
            have HO7 := Lib.hid (Ok.trans HOK.out o7)
            have HO57 := Lib.hid (Ok.trans HOK5.out o7)
            have eny : wh = ny := (hF7.1.trans (by rw [List.length_take, HN.out]; omega)).symm
            subst eny
            have HEQ2 := Lib.hid (equal_w Ay _ wh cy c (l.take wh) (by rw [List.length_take, HN.out]; omega) (by omega) w7 hF7.at ((HI.out.ok HO7.out).take wh))
            have s2 := low22 A n c wh (by omega)
            have hul : (putL (l.take wh)).length = upto l wh := rfl
            rw [hul]
            clear hul hG7 hF7 o7 hg8 HCUT HGE2 s1 HOK HOK5 HB6
            generalize upto l wh = ua at *
            have hne : ((ua : Int) != (ua : Int)) = false := by simp
            go_wp2_with fail
            (with_reducible refine HEQ2.out.mono ?_)
            rintro _ w8 ⟨rfl, o8⟩
            have HO8 := Lib.hid (Ok.trans HO7.out o8)
            have HO58 := Lib.hid (Ok.trans HO57.out o8)
            clear o8 HEQ2 HO7 HO57 s2 hne hup
            by_cases hz : L = 0
            · have dz : ((L : Int) == 0) = true := by simp [hz]
              go_wp2_with fail
              go_ret
              exact ⟨rfl, HO8.out⟩
            · have dz : ((L : Int) == 0) = false := by simp [hz]
              have HPK2 := Lib.hid (fun V => pick_w bit (8 * L) (by omega) (by omega) V)
              rw [show ((8 * L : Nat) : Int) = 8 * (L : Int) from by simp] at HPK2
              go_wp2_with fail
              (with_reducible refine (HPK2.out _).mono ?_)
              rintro _ w9 ⟨⟨i, hi, rfl⟩, rfl⟩
              clear HPK2 dz
              have hi80 : i / 8 < L := by omega
              have hi0 : (0 : Int) ≤ (i : Int) := Int.natCast_nonneg _
              have hi1 : (i : Int) < 640000 := by omega
              have hiq : (i : Int) / 8 = ((i / 8 : Nat) : Int) := by omega
              have HIQ := Lib.hid hiq
              clear hiq
              go_wp2_with fail
              go_loopw [12, 13] (fun a b wr => ∃ v : Nat, v ≤ n ∧ a = .int .i64 v ∧ b = .int .i64 (upto l v : Nat) ∧ upto l v ≤ i / 8 ∧ Ok w wr ∧ Ok w5 wr) (fun a _ _ => n - (intOf a).toNat)
              case atStart => exact ⟨0, Nat.zero_le _, rfl, rfl, Nat.zero_le _, HO8.out, HO58.out⟩
              case round =>
                obtain ⟨v, hv, rfl, rfl, hup, okr, okr5⟩ := hrel
                have HOK := Lib.hid okr
                have HB6 := Lib.hid (okr5.bytes HB5.out)
                have HOK5 := Lib.hid okr5
                clear okr okr5
                have hvn : v < n := by
                  rcases Nat.lt_or_ge v n with h | h
                  · exact h
                  · obtain rfl : v = n := by omega
                    have h1 := HUA.out
                    rw [HN.out] at h1
                    omega
                obtain ⟨b', off', ea, -, x, C1, hx⟩ := HI.out.ok HOK.out v (by rw [HN.out]; exact hvn)
                have HS := Lib.hid (HUS.out v (by rw [HN.out]; exact hvn))
                obtain ⟨A1, c1, rfl, hxl⟩ := hx.form
                obtain ⟨m, hm⟩ : ∃ m, m = (atF l v).data.length := ⟨_, rfl⟩
                have HMM := Lib.hid hm
                have HEA := Lib.hid ea
                rw [← hm] at C1 hxl
                clear hm hx ea
                have vi0 : (0 : Int) ≤ (v : Int) := Int.natCast_nonneg _
                have vi1 : (v : Int) < (n : Int) := by omega
                obtain ⟨ub', hub'⟩ : ∃ q, q = upto l v := ⟨_, rfl⟩
                have HUB := Lib.hid hub'
                rw [← hub'] at hup ⊢
                rw [← hub', ← HMM.out] at HS
                clear hub'
                have hm0 : (0 : Int) ≤ (m : Int) := Int.natCast_nonneg _
                have hm1 : (m : Int) ≤ 140737488351232 := by omega
                have hu0 : (0 : Int) ≤ (ub' : Int) := Int.natCast_nonneg _
                have hu1 : (ub' : Int) ≤ 80000 := by omega
                (have hea := HEA.out; subst hea)
                by_cases hnx : ub' + 9 + m ≤ i / 8
                · have d2 : decide ((ub' : Int) + 9 + (m : Int) ≤ (i : Int) / 8) = true := decide_eq_true (by rw [HIQ.out]; omega)
                  go_wp2_with fail
                  refine ⟨⟨v + 1, hvn, by go_num, ?_, by rw [HS.out]; exact hnx, HOK.out, HOK5.out⟩, by simp [intOf]; omega⟩
                  rw [HS.out]
                  go_num
                · have d2 : decide ((ub' : Int) + 9 + (m : Int) ≤ (i : Int) / 8) = false := decide_eq_false (by rw [HIQ.out]; omega)
                  have HTN := Lib.hid (fun zs r (h : Got (flip (putL l) i) zs r) => HGT.out i v (by rw [HN.out]; exact hvn) (by rw [← HUB.out]; exact hup) (by rw [← HUB.out, ← HMM.out]; omega) h)
                  have HUV : Hid ((putL (l.take v)).length = ub') := Lib.hid HUB.out.symm
                  have HEM := Lib.hid (own_empty wr)
                  have HBE := Lib.hid (((Ok.refl wr).alloc (.cells #[] 5)).bytes HB6.out)
                  have HBD : Hid (([] : List B8).length + (putL l).length ≤ 140737488351232) := Lib.hid (by rw [HL.out]; simp; omega)
                  have HFV := Lib.hid (flip_v ((putL l).getD (i / 8) 0#8) i)
                  have HFL : Hid (flip (putL l) i = (putL l).set (i / 8) ((putL l).getD (i / 8) 0#8 ^^^ 1#8 <<< (i % 8))) := Lib.hid rfl
                  have HPO : Hid (0 < (putL l).length) := Lib.hid (by rw [HL.out]; omega)
                  have HIL : Hid (i / 8 < (putL l).length) := Lib.hid (by rw [HL.out]; exact hi80)
                  clear HMM HS HB6 hnx
                  go_wp2_with (at_builtin; go_must (refine wpList_appG rfl (.tmp 131) (.tmp 132) rfl wr.heap.size _ [] (putL l) _ rfl rfl HEM.out HBE.out HBD.out (by simp) ?_; intro A10 N10 c10 w10 ho10 hb10 hg10; rw [List.nil_append] at ho10; have hN10 := ho10.len; rw [HL.out] at hN10; subst hN10; obtain ⟨g10, rfl⟩ := ho10.form2 HPO.out; obtain ⟨hk1, hk2⟩ := ho10.cell (i / 8) HIL.out; have hfv := HFV.out; generalize (putL l).getD (i / 8) 0#8 = y at *; have HO10 : Hid (Ok wr w10) := Lib.hid (Below.trans ((Ok.refl wr).alloc _) hb10); have HST := Lib.hid (ho10.store (i / 8) (y ^^^ 1#8 <<< (i % 8))); rw [← HFL.out] at HST; generalize y ^^^ 1#8 <<< (i % 8) = z at *; clear ho10 hb10 hg10))
                  have HBW : Hid (Ok wr (w10.setCell ⟨g10, i / 8, none⟩ (.int .u8 (ub z)))) := Lib.hid (Below.trans HO10.out (HST.out.2))
                  clear hk1 hk2 hfv HO10 HFL HFV HEM HBE HBD
                  generalize w10.setCell ⟨g10, i / 8, none⟩ (.int .u8 (ub z)) = w11 at *
                  have HO11 := Lib.hid (Ok.trans HOK.out HBW.out)
                  have HG11 := Lib.hid (get_w (some ⟨g10, 0, none⟩) N10 c10 (flip (putL l) i) (by rw [flip_length]; exact HL.out) (by omega) w11 (HT.out.ok HO11.out) (HST.out.1.bytes (by rw [flip_length, HL.out]; omega)))
                  clear HST HBW HOK HOK5
                  (with_reducible refine HG11.out.mono ?_)
                  rintro _ w12 ⟨Az, nz, cz, zs, rz, rfl, hG12, hF12, o12⟩
                  obtain ⟨⟨z2, ez⟩, hz4⟩ := HTN.out zs rz hG12
                  have HO12 := Lib.hid (Ok.trans HO11.out o12)
                  have hnz := hF12.1
                  have hzl : v ≤ nz := by rw [hnz, ez, List.length_append, List.length_take, HN.out]; omega
                  have htk : zs.take v = l.take v := by rw [ez, List.take_left' (by rw [List.length_take, HN.out]; omega)]
                  have HZ4 : Hid (4 ≤ i / 8 - ub' → zs = l.take v) := Lib.hid (by rw [HUB.out]; exact hz4)
                  have HNZ := Lib.hid hnz
                  have hcz : nz ≤ cz := hF12.cap
                  have HFZ := hF12.at.take v
                  rw [htk] at HFZ
                  have q20 : ∀ d os, Calls Tryd.prog 20 #[.slice Az v cz, .slice (some ⟨b', off', none⟩) v c] (Go.Sort.grow (redrawn w12 d) os) fun e w'' => e = .returned (.bool true) ∧ ∃ q : Regrown, w'' = Go.Sort.grow (redrawn w12 q.d) q.os := fun d os => Calls.regrown_of (equal_w Az _ v cz c (l.take v) (by rw [List.length_take, HN.out]; omega) (by omega) _ (FramesAt.ok HFZ (below_regrown w12 d os)) (((HI.out.ok HO12.out).take v).ok (below_regrown w12 d os)))
                  have s3 := low22 Az nz cz v (by omega)
                  have s4 := low22 (some ⟨b', off', none⟩) n c v (by omega)
                  have d5 : decide (nz < v) = false := decide_eq_false (by omega)
                  have d5i : decide ((nz : Int) < (v : Int)) = false := decide_eq_false (by omega)
                  generalize hq : (putL zs).length = q at *
                  have HQ := Lib.hid hq
                  clear hq hG12 hF12 o12 hz4 hnz htk HFZ HTN HG11 ez
                  go_wp2_with fail
                  refine wp_region_quiet_below (by kernel_rfl) (by kernel_rfl) ?_
                  refine HeldU.out ?_
                  repeat (
                    refine hqU_step (fun K hK => ?_)
                    go_simp
                    first
                      | (refine hK _ ?_; clear hK K)
                      | (apply Exists.intro
                         refine ⟨fun _ => ?_, hK _ ?_⟩
                         (with_reducible first
                           | exact q20 _ _)
                         clear hK K))
                  refine HeldU.mk (wpQuiet_nil ?_)
                  intro _ hw'
                  obtain ⟨⟨dq, osq⟩, hw''⟩ := hw'
                  subst hw''
                  have HO13 := Lib.hid (Ok.trans HO12.out (below_regrown w12 dq osq))
                  clear q20 s3 s4 d5 d5i
                  generalize Go.Sort.grow (redrawn w12 dq) osq = w13 at *
                  by_cases h4 : i / 8 - ub' < 4
                  · have d6 : decide ((i : Int) / 8 - (ub' : Int) < 4) = true := decide_eq_true (by rw [HIQ.out]; omega)
                    go_wp2_with fail
                    go_ret
                    exact ⟨rfl, HO13.out⟩
                  · have d6 : decide ((i : Int) / 8 - (ub' : Int) < 4) = false := decide_eq_false (by rw [HIQ.out]; omega)
                    have hzv := HZ4.out (by omega)
                    have d7 : ((nz : Int) == (v : Int)) = true := by have h1 := HNZ.out; rw [hzv, List.length_take, HN.out] at h1; simp; omega
                    have d8 : ((q : Int) == (ub' : Int)) = true := by have h1 := HQ.out; rw [hzv, HUV.out] at h1; simp; omega
                    clear hzv
                    go_wp2_with fail
                    go_ret
                    exact ⟨rfl, HO13.out⟩
    · have hpm : putM l = [] := by unfold putM; rw [if_neg he]
      have d5 : (putErr l != 0) = true := by simp [he]
      rw [hpm] at hOb ⊢
      clear hOb o3 hpm he
      generalize putErr l = ec at *
      go_wp2_with fail
      go_ret
      exact ⟨rfl, HO3.out⟩
end Go.Proofs.YtpebnlddmjfomaaDoor
