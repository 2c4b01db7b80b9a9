/- The law RowsParts. -/
import Derived.Test.YtebhcadolnjplaaTg
namespace Go.Proofs.Ytebhcadolnjplaa
open Go.RowKit

set_option maxRecDepth 100000 in
set_option maxHeartbeats 8000000 in
theorem parts_law (A : Option Addr) (n c : Nat) (l : List Dd) (hn : l.length = n) (hn6 : n ≤ 17592186044416) (AT : Option Addr) (ct : Nat) (zs : List Str) (s : Sp) (W : World) (hA : DeedsIn W A l) (hT : StrsN W.heap.size W (.slice AT zs.length ct) zs) :
    Calls Try.prog 8 #[.slice A n c, .slice AT zs.length ct, spV s] W (Ret W (.bool true)) := by
  have HA := Lib.hid hA
  have HN := Lib.hid hn
  have HT := Lib.hid hT.strs
  have HN6 := Lib.hid hn6
  have HBX : Hid ((W.alloc (.cells #[.string s.lo, .string s.hi] 91)).cell? ⟨W.heap.size, 0, none⟩ = some (.string s.lo) ∧ (W.alloc (.cells #[.string s.lo, .string s.hi] 91)).cell? ⟨W.heap.size, 1, none⟩ = some (.string s.hi)) := Lib.hid (two_new W _ _ _)
  have HO0 : Hid (Ok W (W.alloc (.cells #[.string s.lo, .string s.hi] 91))) := Lib.hid ((Ok.refl W).alloc _)
  have HSZ0 : Hid ((W.alloc (.cells #[.string s.lo, .string s.hi] 91)).heap.size = W.heap.size + 1) := Lib.hid (World.size_alloc _ _)
  clear hA hn hT hn6
  unfold spV
  go_enter Try.func8, Try.ntmps8
  go_wp2_with fail
  obtain ⟨bx, hbx⟩ : ∃ b, W.heap.size = b := ⟨_, rfl⟩
  rw [hbx] at HBX HSZ0 ⊢
  have HBW := Lib.hid hbx
  clear hbx
  generalize W.alloc (.cells #[.string s.lo, .string s.hi] 91) = w0 at *
  have haw := awake_r w0
  refine haw.mono ?_
  clear haw
  rintro _ w1 ⟨rfl, o1⟩
  have HO1 := Lib.hid o1
  clear o1
  have hli := light_f A n c l HN.out HN6.out w1 (HA.out.ok (HO0.out.trans HO1.out))
  go_wp2_with fail
  refine hli.mono ?_
  clear hli
  rintro _ w2 ⟨b, rfl, hlt, o2⟩
  have HO2 : Hid (Ok w0 w2) := Lib.hid (HO1.out.trans o2)
  clear o2 HO1
  cases b with
  | false =>
    go_wp2_with fail
    go_ret
    exact ⟨rfl, HO0.out.trans HO2.out⟩
  | true =>
  have HLT := Lib.hid (hlt rfl)
  clear hlt
  by_cases h100 : 100 < zs.length
  · have d1 : decide ((zs.length : Int) > 100) = true := decide_eq_true (by omega)
    go_wp2_with fail
    go_ret
    exact ⟨rfl, HO0.out.trans HO2.out⟩
  have d1 : decide ((zs.length : Int) > 100) = false := decide_eq_false (by omega)
  have HZ1 : Hid (zs.length ≤ 100) := Lib.hid (by omega)
  clear h100
  have hnew := new_t w2
  go_wp2_with fail
  refine hnew.mono ?_
  clear hnew d1
  rintro _ w3 ⟨p, rfl, hp, hT3, o3⟩
  have HO3 : Hid (Ok w0 w3) := Lib.hid (HO2.out.trans o3)
  obtain ⟨B, hB⟩ : ∃ B, w2.heap.size = B := ⟨_, rfl⟩
  rw [hB] at hp hT3
  have HT3 := Lib.hid hT3
  have HP := Lib.hid hp
  have HB : Hid (w0.heap.size ≤ B ∧ B ≤ w3.heap.size) := Lib.hid ⟨by rw [← hB]; exact HO2.out.size, by rw [← hB]; exact o3.size⟩
  clear hB hp hT3 o3 HO2
  go_wp2_with fail
  go_loopw [8] (fun v wr => ∃ (k : Nat) (L : List Rw), k ≤ n ∧ v = .int .i64 k ∧ Tbl p B L wr ∧ Ok w0 wr ∧ B ≤ wr.heap.size) (fun v _ => n - (intOf v).toNat)
  case atStart => exact ⟨0, [], Nat.zero_le _, rfl, HT3.out, HO3.out, HB.out.2⟩
  case round =>
    obtain ⟨k, L, hk, rfl, htb, okr, hbs⟩ := hrel
    have HTB := Lib.hid htb
    have HOK := Lib.hid okr
    have HBS := Lib.hid hbs
    clear htb okr hbs HT3 HO3
    by_cases hlt : k < n
    · have d1 : decide ((k : Int) < (n : Int)) = true := decide_eq_true (by omega)
      obtain ⟨b, off, rfl, hd⟩ := HA.out.ok (HO0.out.trans HOK.out) k (by rw [HN.out]; exact hlt)
      have HN12 : Hid ((ddA l k).n ≤ 1200) := Lib.hid (HLT.out.2 k hlt)
      have HD := Lib.hid hd
      clear hd
      have c0 := HD.out.c0
      obtain ⟨pk, hpk⟩ : ∃ pk, pickI (ddA l k).kind 5 = pk := ⟨_, rfl⟩
      have hpick := pick5 (ddA l k).kind wr
      rw [hpk] at hpick
      clear hpk
      have hi0 : (0 : Int) ≤ (k : Int) := Int.natCast_nonneg _
      have hi1 : (k : Int) < (n : Int) := by omega
      have e1 : IntKind.i64.wrap ((k : Int) + 1) = (k : Int) + 1 := IntWalk.i64_in _ (by have := HN6.out; omega)
      have HLTM : Hid (n - ((k : Int) + 1).toNat < n - (k : Int).toNat) := Lib.hid (by omega)
      go_wp2_with fail
      refine hpick.mono ?_
      clear hpick c0
      rintro _ w4 ⟨rfl, o4⟩
      have HD4 := Lib.hid (HD.out.ok o4)
      have HT4 := Lib.hid (HTB.out.ok o4)
      have HO4 := Lib.hid (HOK.out.trans o4)
      have HB4 : Hid (B ≤ w4.heap.size) := Lib.hid (Nat.le_trans HBS.out o4.size)
      clear o4 HD HTB HOK HBS
      by_cases h4 : pk = 4
      · have d2 : (pk == 4) = true := by simp [h4]
        have c2 := HD4.out.c2
        have c3 := HD4.out.c3
        have htk := take_t p B L w4 HT4.out HP.out HB4.out (ddA l k).sp
        unfold spV at htk
        generalize (ddA l k).sp.lo = lo at *
        generalize (ddA l k).sp.hi = hi at *
        go_wp2_with fail
        refine htk.mono ?_
        clear htk c2 c3
        rintro _ w5 ⟨r, L', rfl, hT5, hb5⟩
        have HT5 := Lib.hid hT5
        have HO5 : Hid (Ok w0 w5) := Lib.hid (Below.trans HO4.out (Below.mono hb5 HB.out.1))
        have HB5 : Hid (B ≤ w5.heap.size) := Lib.hid (Nat.le_trans HB4.out hb5.size)
        clear hT5 hb5
        go_wp2_with fail
        exact ⟨⟨k + 1, L', hlt, rfl, HT5.out, HO5.out, HB5.out⟩, HLTM.out⟩
      have d2 : (pk == 4) = false := by simp [h4]
      by_cases h3 : pk = 3
      · have d3 : (pk == 3) = true := by simp [h3]
        go_wp2_with fail
        exact ⟨⟨k + 1, L, hlt, rfl, HT4.out, HO4.out, HB4.out⟩, HLTM.out⟩
      have d3 : (pk == 3) = false := by simp [h3]
      have c1 := HD4.out.c1
      have hpt := put_t p B L w4 HT4.out HP.out HB4.out (ddA l k).A (ddA l k).n (ddA l k).c (ddA l k).rows HD4.out.len (Nat.le_trans HN12.out (by decide)) HD4.out.rows
      clear h4 h3
      generalize (ddA l k).A = A1 at *
      generalize (ddA l k).n = n1 at *
      generalize (ddA l k).c = cc1 at *
      go_wp2_with fail
      refine hpt.mono ?_
      clear hpt c1
      rintro _ w5 ⟨r, L', rfl, hT5, hb5⟩
      have HT5 := Lib.hid hT5
      have HO5 : Hid (Ok w0 w5) := Lib.hid (Below.trans HO4.out (Below.mono hb5 HB.out.1))
      have HB5 : Hid (B ≤ w5.heap.size) := Lib.hid (Nat.le_trans HB4.out hb5.size)
      clear hT5 hb5
      go_wp2_with fail
      exact ⟨⟨k + 1, L', hlt, rfl, HT5.out, HO5.out, HB5.out⟩, HLTM.out⟩
    · have d1 : decide ((k : Int) < (n : Int)) = false := decide_eq_false (by omega)
      obtain rfl : k = n := by omega
      clear hlt hk
      have hal := all_w wr
      go_wp2_with fail
      refine hal.mono ?_
      clear hal d1
      rintro _ w6 ⟨rfl, o6⟩
      have HT6 := Lib.hid (HTB.out.ok o6)
      have HO6 := Lib.hid (HOK.out.trans o6)
      have HB6 : Hid (B ≤ w6.heap.size) := Lib.hid (Nat.le_trans HBS.out o6.size)
      have HLR : Hid (Rises L ∧ rightL L ∧ L.length ≤ 400) := Lib.hid ⟨HTB.out.1, HTB.out.2.1, HTB.out.2.2.1⟩
      clear o6 HTB HOK HBS
      obtain ⟨-, -, -, At, ctb, hta, -⟩ := HT6.out
      have HTA := Lib.hid hta
      have HAT : Hid (∀ a, At = some a → a.block < w6.heap.size) := Lib.hid (fun a e => (hta.own.2.lt a.block (by rw [e]; rfl)).2)
      clear hta
      have hin := in_t p B L w6 HT6.out allS
      rw [meant_allK HLR.out.2.1.key] at hin
      go_wp2_with fail
      refine hin.mono ?_
      clear hin
      rintro _ w7 ⟨A7, n7, c7, rfl, hown7, o7⟩
      obtain rfl : L.length = n7 := hown7.1
      have HALL := Lib.hid hown7
      have HP7 : Hid (p < w6.heap.size ∧ B ≤ w6.heap.size) := Lib.hid ⟨HT6.out.2.2.2.elim fun A h => h.elim fun c h => h.1.lt, HB6.out⟩
      have HT7 := Lib.hid (HT6.out.ok o7)
      have HO7 := Lib.hid (HO6.out.trans o7)
      have HS7 : Hid (Ok w6 w7) := Lib.hid o7
      clear hown7 o7 HT6 HO6 HB6
      have hal := all_w w7
      go_wp2_with fail
      refine hal.mono ?_
      clear hal
      rintro _ w8 ⟨rfl, o8⟩
      have HO8 := Lib.hid (HO7.out.trans o8)
      have HT8 := Lib.hid (HT7.out.ok o8)
      have HALL8 := Lib.hid (HALL.out.ok o8)
      have HS8 : Hid (Ok w6 w8) := Lib.hid (HS7.out.trans o8)
      clear o8 HO7 HT7 HALL HS7
      have hcut := cut_w allS AT zs.length ct zs (Nat.le_trans HZ1.out (by decide)) w8 (HT.out.up (HO0.out.trans HO8.out) (HO0.out.trans HO8.out).size)
      go_wp2_with fail
      refine hcut.mono ?_
      clear hcut
      rintro _ w9 ⟨A9, c9, rfl, hown9, o9⟩
      have HPL : Hid ((cutM allS (sortS zs)).length ≤ 101) := Lib.hid (by
        have := cutM_len allS (sortS zs)
        rw [sortS_len] at this
        have := HZ1.out
        omega)
      have HPT := Lib.hid (cut_rows_take HLR.out.1 HLR.out.2.1.key (sortS zs))
      have HPA := Lib.hid (cut_rows HLR.out.1 HLR.out.2.1.key (sortS zs))
      have HPS := Lib.hid hown9.at
      have HO9 := Lib.hid (HO8.out.trans o9)
      have HT9 := Lib.hid (HT8.out.ok o9)
      have HALL9 := Lib.hid (HALL8.out.ok o9)
      have HS9 : Hid (Ok w6 w9) := Lib.hid (HS8.out.trans o9)
      clear hown9 o9 HO8 HT8 HALL8 HS8
      obtain ⟨ps, hps⟩ : ∃ ps, cutM allS (sortS zs) = ps := ⟨_, rfl⟩
      rw [hps] at HPL HPT HPA HPS ⊢
      clear hps
      obtain ⟨m, hm⟩ : ∃ m, ps.length = m := ⟨_, rfl⟩
      rw [hm] at HPL ⊢
      have HM := Lib.hid hm
      clear hm
      have HB9 : Hid (w0.heap.size ≤ w9.heap.size) := Lib.hid HO9.out.size
      go_wp2_with fail
      go_loopw [10, 12] (fun v10 v12 wr => ∃ (k : Nat) (PA : Option Addr) (pn pc : Nat), k ≤ m ∧ v12 = .int .i64 k ∧ v10 = .slice PA pn pc ∧ OwnR wr w9.heap.size PA pn pc ((ps.take k).flatMap fun p => meant p L) ∧ Ok w9 wr) (fun _ v _ => m - (intOf v).toNat)
      case atStart => exact ⟨0, none, 0, 0, Nat.zero_le _, rfl, rfl, ⟨rfl, World.ownsRow_nil _ _ _ _⟩, Ok.refl _⟩
      case round =>
        obtain ⟨k, PA, pn, pc, hk, rfl, rfl, hown, okr⟩ := hrel
        have HOWN := Lib.hid hown
        have HOK := Lib.hid okr
        clear hown okr
        by_cases hlt : k < m
        · have d1 : decide ((k : Int) < (m : Int)) = true := decide_eq_true (by omega)
          obtain ⟨b, off, rfl, x0, x1⟩ := HPS.out.ok HOK.out k (by rw [HM.out]; exact hlt)
          have HTK := Lib.hid (at1_take ps L k (by rw [HM.out]; exact hlt))
          have hin := in_t p B L wr (HT9.out.ok HOK.out) (at1 ps k)
          unfold spV at hin
          have HN1 : Hid (∀ n2, (meant (at1 ps k) L).length = n2 → pn + n2 ≤ 1000000) := Lib.hid (fun n2 h2 => by
            have h3 := HPT.out (k + 1)
            rw [HTK.out, List.length_append, HOWN.out.1, h2] at h3
            have := HLR.out.2.2
            omega)
          generalize (at1 ps k).lo = lo at *
          generalize (at1 ps k).hi = hi at *
          have hi0 : (0 : Int) ≤ (k : Int) := Int.natCast_nonneg _
          have hi1 : (k : Int) < (m : Int) := by omega
          have e1 : IntKind.i64.wrap ((k : Int) + 1) = (k : Int) + 1 := IntWalk.i64_in _ (by have := HPL.out; omega)
          have HLTM : Hid (m - ((k : Int) + 1).toNat < m - (k : Int).toNat) := Lib.hid (by omega)
          go_wp2_with fail
          refine hin.mono ?_
          clear hin x0 x1
          rintro _ w10 ⟨A10, n10, c10, rfl, hown10, o10⟩
          have HOW := Lib.hid hown10
          have HOWN10 := Lib.hid (HOWN.out.ok o10)
          have HO10 := Lib.hid (HOK.out.trans o10)
          have HNN : Hid (pn + n10 ≤ 1000000) := Lib.hid (HN1.out n10 hown10.1)
          clear hown10 o10 HOWN HOK HN1
          go_wp2_with (at_builtin; go_must (refine wpList_appOwn rfl (.tmp 75) (.tmp 81) rfl w9.heap.size PA pn pc _ rfl HOWN10.out wr.heap.size A10 n10 c10 _ rfl HOW.out HNN.out HO10.out.size ?_; intro A' c' w2' hown2 hg2; have HOWN2 := Lib.hid hown2; have HG2 := Lib.hid hg2; clear hown2 hg2))
          refine ⟨⟨k + 1, A', pn + n10, c', hlt, rfl, rfl, ?_, ?_⟩, HLTM.out⟩
          · rw [HTK.out]; exact HOWN2.out
          · exact Below.grown HO10.out HG2.out HO10.out.size (fun j e => (HOWN10.out.2.lt j e).1)
        · have d1 : decide ((k : Int) < (m : Int)) = false := decide_eq_false (by omega)
          obtain rfl : k = m := by omega
          have HPR : Hid (OwnR wr w9.heap.size PA pn pc L) := Lib.hid (by
            have := HOWN.out
            rw [List.take_of_length_le (by rw [HM.out]; exact Nat.le_refl _), HPA.out] at this
            exact this)
          obtain rfl : L.length = pn := HPR.out.1
          clear hlt hk HOWN HPS HPT HPA HM
          have HS : Hid (Ok w6 wr) := Lib.hid (HS9.out.trans HOK.out)
          have HO : Hid (Ok w0 wr) := Lib.hid (HO9.out.trans HOK.out)
          have HT := Lib.hid (HT9.out.ok HOK.out)
          have HAL := Lib.hid (HALL9.out.ok HOK.out)
          clear HS9 HO9 HT9 HALL9 HOK HB9
          have hs1 := same_f PA A7 L.length pc c7 L rfl (Nat.le_trans HLR.out.2.2 (by decide)) wr HPR.out.rows HAL.out.rows
          go_wp2_with fail
          refine hs1.mono ?_
          clear hs1
          rintro _ w10 ⟨rfl, o10⟩
          have hmy := many_t p B L w10 (HT.out.ok o10)
          have HO10 : Hid (Ok wr w10) := Lib.hid o10
          clear o10 HPR
          go_wp2_with fail
          refine hmy.mono ?_
          clear hmy
          rintro _ w11 ⟨rfl, o11⟩
          have HO11 : Hid (Ok wr w11) := Lib.hid (HO10.out.trans o11)
          clear o11 HO10
          have HB11 : Hid (Ok w0 w11) := Lib.hid (HO.out.trans HO11.out)
          have b0 := HB11.out.cell HBX.out.1
          have b1 := HB11.out.cell HBX.out.2
          have hin := in_t p B L w11 (HT.out.ok HO11.out) s
          unfold spV at hin
          go_wp2_with fail
          refine hin.mono ?_
          clear hin b0 b1 HB11
          rintro _ w12 ⟨A12, n12, c12, rfl, hown12, o12⟩
          have HIN := Lib.hid hown12
          have HS12 : Hid (Ok w6 w12) := Lib.hid (HS.out.trans (HO11.out.trans o12))
          have HO12 : Hid (Ok w0 w12) := Lib.hid (HO.out.trans (HO11.out.trans o12))
          have HAL12 := Lib.hid (HAL.out.ok (HO11.out.trans o12))
          have HSZ12 : Hid (w6.heap.size ≤ w11.heap.size) := Lib.hid (HS.out.trans HO11.out).size
          have HTP12 := Lib.hid (HT.out.ok (HO11.out.trans o12))
          have HSB12 : Hid (w11.heap.size ≤ w12.heap.size) := Lib.hid o12.size
          clear hown12 o12 HO11 HS HO HAL HT
          have b0 := HO12.out.cell HBX.out.1
          have b1 := HO12.out.cell HBX.out.2
          have htk := takeR_f p At L.length ctb L s w12 (HTA.out.ok HS12.out) (Nat.le_trans HLR.out.2.2 (by decide))
          unfold spV at htk
          go_wp2_with fail
          refine htk.mono ?_
          clear htk b0 b1
          rintro _ w13 ⟨A14, n14, c14, rfl, hown14, hT13, hk13⟩
          obtain ⟨-, -, -, At', ctb', hta', hat'⟩ := HTP12.out
          have HEA : Hid (∀ a, At = some a → B ≤ a.block) := Lib.hid (fun a e => by
            have h1 := (HTA.out.ok HS12.out).c0
            have h2 := hta'.c0
            rw [h1] at h2
            simp only [Option.some.injEq, Value.slice.injEq] at h2
            exact hat' a (by rw [← h2.1]; exact e))
          have HSL := Lib.hid (stay_len_add s L)
          have HT13 : Hid (Tbl p B (stay s L) w13) := Lib.hid ⟨stay_rises HLR.out.1, HLR.out.2.1.sub (fun r hr => (List.mem_filter.1 hr).1), by have := HSL.out; have := HLR.out.2.2; omega, At, ctb, hT13, HEA.out⟩
          have HBL : Hid (Below B w12 w13) := Lib.hid (k2_below hk13 HP.out HEA.out (Nat.le_trans (Nat.le_trans HP7.out.2 HSZ12.out) HSB12.out))
          clear hta' hat'
          obtain rfl : n12 = n14 := HIN.out.1.symm.trans hown14.1
          have HML : Hid ((meant s L).length = n12) := Lib.hid HIN.out.1
          have HAL13 := Lib.hid (HAL12.out.k2' hk13 HP7.out.1 HAT.out)
          have HIN13 := Lib.hid (HIN.out.k2' hk13 (Nat.lt_of_lt_of_le HP7.out.1 HSZ12.out) (fun a e => Nat.lt_of_lt_of_le (HAT.out a e) HSZ12.out))
          have HOUT13 := Lib.hid hown14
          have HO13 : Hid (Ok w0 w13) := Lib.hid (Below.trans HO12.out (Below.mono HBL.out HB.out.1))
          have HBB13 : Hid (B ≤ w13.heap.size) := Lib.hid (Nat.le_trans (Nat.le_trans (Nat.le_trans HP7.out.2 HSZ12.out) HSB12.out) hk13.size)
          clear hown14 hT13 hk13 HIN HAL12 HTP12 HEA HBL HO12 HS12 HSB12 HSZ12
          have HN12 : Hid (n12 ≤ 400 ∧ (stay s L).length + n12 = L.length) := Lib.hid (by
            have := HSL.out
            rw [HML.out] at this
            have := HLR.out.2.2
            omega)
          have hs1 := same_f A12 A14 n12 c12 c14 (meant s L) HML.out (Nat.le_trans HN12.out.1 (by decide)) w13 HIN13.out.rows HOUT13.out.rows
          go_wp2_with fail
          refine hs1.mono ?_
          clear hs1
          rintro _ w14 ⟨rfl, o14⟩
          have HO14 : Hid (Ok w13 w14) := Lib.hid o14
          have HW14 : Hid (Ok w0 w14) := Lib.hid (HO13.out.trans o14)
          clear o14 HIN13
          have b0 := HW14.out.cell HBX.out.1
          have b1 := HW14.out.cell HBX.out.2
          have hin := in_t p B (stay s L) w14 (HT13.out.ok HO14.out) s
          rw [meant_twice] at hin
          unfold spV at hin
          go_wp2_with fail
          refine hin.mono ?_
          clear hin b0 b1
          rintro _ w15 ⟨A15, n15, c15, rfl, hown15, o15⟩
          obtain rfl : n15 = 0 := hown15.1.symm
          have HO15 : Hid (Ok w13 w15) := Lib.hid (HO14.out.trans o15)
          clear hown15 o15 HO14 HW14
          have hmy := many_t p B (stay s L) w15 (HT13.out.ok HO15.out)
          have hz : ((0 : Int) != 0) = false := by decide
          have e5 : IntKind.i64.wrap ((L.length : Int) - (n12 : Int)) = ((stay s L).length : Int) := by
            have := HN12.out
            have h4 := HLR.out.2.2
            rw [show ((L.length : Int) - (n12 : Int)) = ((stay s L).length : Int) from by omega]
            exact IntWalk.i64_in _ (by omega)
          go_wp2_with fail
          refine hmy.mono ?_
          clear hmy
          rintro _ w16 ⟨rfl, o16⟩
          have HO16 : Hid (Ok w13 w16) := Lib.hid (HO15.out.trans o16)
          have HAL := Lib.hid (HAL13.out.ok HO16.out)
          have HOUT := Lib.hid (HOUT13.out.ok HO16.out)
          have HT := Lib.hid (HT13.out.ok HO16.out)
          have HO := Lib.hid (HO13.out.trans HO16.out)
          have HBB : Hid (B ≤ w16.heap.size) := Lib.hid (Nat.le_trans HBB13.out HO16.out.size)
          clear o16 HO15 HAL13 HOUT13 HT13 HO13 HBB13 HO16
          go_wp2_with fail
          clear e5 hz
          go_loopw [15, 16, 17] (fun v15 _ _ wr => ∃ (k : Nat), k ≤ L.length ∧ v15 = .int .i64 k ∧ Ok w16 wr) (fun v _ _ _ => L.length - (intOf v).toNat)
          case atStart => exact ⟨0, Nat.zero_le _, rfl, Ok.refl _⟩
          case round =>
            obtain ⟨k, hk, rfl, okr⟩ := hrel
            have HOK := Lib.hid okr
            clear okr
            by_cases hlt : k < L.length
            · have d1 : decide ((k : Int) < (L.length : Int)) = true := decide_eq_true (by omega)
              obtain ⟨b, off, rfl, x0, x1⟩ := (HAL.out.ok HOK.out).rows k hlt
              have hi0 : (0 : Int) ≤ (k : Int) := Int.natCast_nonneg _
              have hi1 : (k : Int) < (L.length : Int) := by omega
              have hgw := getw_t p B (stay s L) wr (HT.out.ok HOK.out) (rwA L k).key
              have HFS := Lib.hid (fun kk (hp : Place (stay s L) (rwA L k).key kk) => found_stay HLR.out.1 (rwA_mem L k hlt) hp)
              have e1 : IntKind.i64.wrap ((k : Int) + 1) = (k : Int) + 1 := IntWalk.i64_in _ (by have := HLR.out.2.2; omega)
              have HLTM : Hid (L.length - ((k : Int) + 1).toNat < L.length - (k : Int).toNat) := Lib.hid (by omega)
              have HX0 := Lib.hid x0
              have HX1 := Lib.hid x1
              go_wp2_with fail
              refine hgw.mono ?_
              clear hgw x0 x1
              rintro _ w17 ⟨kk, hpl, rfl, o17⟩
              have HFK := Lib.hid (HFS.out kk hpl)
              have HO17 : Hid (Ok w16 w17) := Lib.hid (HOK.out.trans o17)
              have x0 := o17.cell HX0.out
              have x1 := o17.cell HX1.out
              have b0 := (HO.out.trans HO17.out).cell HBX.out.1
              have b1 := (HO.out.trans HO17.out).cell HBX.out.2
              clear o17 HX0 HX1 HFS hpl HOK
              have hhas := fun w' => has_w s (rwA L k).key w'
              unfold spV at hhas
              obtain ⟨fb, hfb⟩ : ∃ fb, foundB (stay s L) (rwA L k).key kk = fb := ⟨_, rfl⟩
              obtain ⟨hb, hhb⟩ : ∃ hb, hasB s (rwA L k).key = hb := ⟨_, rfl⟩
              rw [hfb] at HFK ⊢
              rw [hhb] at HFK hhas
              clear hfb hhb
              have HVE : Hid (fb = true → (rwA (stay s L) kk).val = (rwA L k).val) := Lib.hid (fun q => by rw [HFK.out.2 q])
              have HFE : Hid (fb = !hb) := Lib.hid HFK.out.1
              clear HFK
              generalize (rwA (stay s L) kk).val = vv at *
              generalize (rwA L k).key = km at *
              generalize (rwA L k).val = vm at *
              cases hb with
              | true =>
                obtain rfl : fb = false := HFE.out
                clear HFE HVE
                have ei : (if false = true then vv else (⟨#[]⟩ : Str)) = ⟨#[]⟩ := if_neg Bool.false_ne_true
                rw [ei]
                clear ei
                go_upto_region 31 with fail
                have r0 := cell_regrown x0
                have r1 := cell_regrown x1
                have r2 := cell_regrown b0
                have r3 := cell_regrown b1
                have q52 : ∀ d os, Calls Try.prog 52 #[.agg #[.string s.lo, .string s.hi], .string km] (Go.Sort.grow (redrawn w17 d) os) fun e w'' => e = .returned (.bool true) ∧ ∃ q : Regrown, w'' = Go.Sort.grow (redrawn w17 q.d) q.os := fun d os => Rg (hhas _)
                clear x0 x1 b0 b1 hhas
                refine wp_region_quiet_below (by kernel_rfl) (by kernel_rfl) ?_
                refine HeldU.out ?_
                repeat (
                  refine hqU_step (fun K hK => ?_)
                  go_simp
                  first
                    | (refine hK _ ?_; clear hK K)
                    | (apply Exists.intro
                       refine ⟨fun _ => ?_, hK _ ?_⟩
                       (with_reducible first
                         | exact q52 _ _)
                       clear hK K))
                refine HeldU.mk (wpQuiet_nil ?_)
                intro _ hw'
                obtain ⟨⟨dq, osq⟩, hw''⟩ := hw'
                subst hw''
                have HO18 := Lib.hid (Ok.trans HO17.out (below_regrown w17 dq osq))
                clear q52 r0 r1 r2 r3
                generalize Go.Sort.grow (redrawn w17 dq) osq = w18 at *
                go_wp2_with fail
                exact ⟨⟨k + 1, hlt, rfl, HO18.out⟩, HLTM.out⟩
              | false =>
                obtain rfl : fb = true := HFE.out
                obtain rfl : vv = vm := HVE.out rfl
                clear HFE HVE
                have ei : (if true = true then vv else (⟨#[]⟩ : Str)) = vv := if_pos rfl
                rw [ei]
                clear ei
                go_upto_region 31 with fail
                have r0 := cell_regrown x0
                have r1 := cell_regrown x1
                have r2 := cell_regrown b0
                have r3 := cell_regrown b1
                have q52 : ∀ d os, Calls Try.prog 52 #[.agg #[.string s.lo, .string s.hi], .string km] (Go.Sort.grow (redrawn w17 d) os) fun e w'' => e = .returned (.bool false) ∧ ∃ q : Regrown, w'' = Go.Sort.grow (redrawn w17 q.d) q.os := fun d os => Rg (hhas _)
                clear x0 x1 b0 b1 hhas
                refine wp_region_quiet_below (by kernel_rfl) (by kernel_rfl) ?_
                refine HeldU.out ?_
                repeat (
                  refine hqU_step (fun K hK => ?_)
                  go_simp
                  first
                    | (refine hK _ ?_; clear hK K)
                    | (apply Exists.intro
                       refine ⟨fun _ => ?_, hK _ ?_⟩
                       (with_reducible first
                         | exact q52 _ _)
                       clear hK K))
                refine HeldU.mk (wpQuiet_nil ?_)
                intro _ hw'
                obtain ⟨⟨dq, osq⟩, hw''⟩ := hw'
                subst hw''
                have HO18 := Lib.hid (Ok.trans HO17.out (below_regrown w17 dq osq))
                clear q52 r0 r1 r2 r3
                generalize Go.Sort.grow (redrawn w17 dq) osq = w18 at *
                go_wp2_with fail
                exact ⟨⟨k + 1, hlt, rfl, HO18.out⟩, HLTM.out⟩
            · have d1 : decide ((k : Int) < (L.length : Int)) = false := decide_eq_false (by omega)
              obtain rfl : k = L.length := by omega
              clear hlt hk
              have HAL1 := Lib.hid (HAL.out.ok HOK.out)
              have HOUT1 := Lib.hid (HOUT.out.ok HOK.out)
              have HT1 := Lib.hid (HT.out.ok HOK.out)
              have HBB1 : Hid (B ≤ wr.heap.size) := Lib.hid (Nat.le_trans HBB.out HOK.out.size)
              have HO1 := Lib.hid (HO.out.trans HOK.out)
              clear HAL HOUT HT HO HOK HBB
              have hnw := newWriter_n wr
              go_wp2_with fail
              refine hnw.mono ?_
              clear hnw d1
              rintro _ w17 ⟨rfl, hwn, o17⟩
              have HWN := Lib.hid hwn
              have HOUT17 := Lib.hid (HOUT1.out.ok o17)
              have HK17 : Hid (Ok wr w17) := Lib.hid o17
              have HOLT : Hid (∀ a, A14 = some a → a.block ≠ wr.heap.size) := Lib.hid (fun a e => by
                have := (HOUT1.out.2.lt a.block (by rw [e]; rfl)).2
                omega)
              have HRM : Hid (rightL (meant s L) ∧ Rises (meant s L)) := Lib.hid ⟨HLR.out.2.1.sub (fun r hr => (List.mem_filter.1 hr).1), meant_rises HLR.out.1⟩
              clear hwn o17
              obtain ⟨gw, hgw⟩ : ∃ g, wr.heap.size = g := ⟨_, rfl⟩
              rw [hgw] at HWN HOLT ⊢
              have HGW := Lib.hid hgw
              clear hgw
              have hwr := write_f gw w17 HWN.out _ A14 n12 c14 (meant s L) HOUT17.out HOLT.out (Nat.le_trans HN12.out.1 (by decide)) (Small.of_right HRM.out.1)
              go_wp2_with fail
              refine hwr.mono ?_
              clear hwr
              rintro _ w18 ⟨rfl, hw18, hk18⟩
              have HW18 := Lib.hid hw18
              have HK18 : Hid (Ok wr w18) := Lib.hid (Below.trans HK17.out (by have := hk18.below; unfold Below at *; rw [HGW.out]; exact this))
              clear hw18 hk18 HOUT17 HWN HK17
              have HZL := Lib.hid (enc_all_len (meant s L) (Small.of_right HRM.out.1) (by rw [HML.out]; exact Nat.le_trans HN12.out.1 (by decide)) n12)
              have HRB : Hid (readM (encsI [(n12 : Int)] ++ encR (meant s L)) = some (meant s L, [])) := Lib.hid (by
                have := read_back (meant s L) HRM.out.1 HRM.out.2 n12 HML.out HN12.out.1 []
                rwa [List.append_nil] at this)
              obtain ⟨zs2, hzs2⟩ : ∃ z, encsI [(n12 : Int)] ++ encR (meant s L) = z := ⟨_, rfl⟩
              rw [hzs2] at HZL HRB HW18
              clear hzs2
              have hdn := done_ok gw w18 zs2 HW18.out HZL.out
              go_wp2_with fail
              refine hdn.mono ?_
              clear hdn
              rintro _ w19 ⟨⟨A19, c19, rfl, hb19⟩, o19, -⟩
              have HB19 := Lib.hid hb19
              have HO19 : Hid (Ok wr w19) := Lib.hid (HK18.out.trans o19)
              clear hb19 o19 HK18 HW18
              have hnr := newReader_r w19 (.slice A19 zs2.length c19) zs2 HB19.out HZL.out
              go_wp2_with fail
              refine hnr.mono ?_
              clear hnr
              rintro _ w20 ⟨W0, g, rfl, hrd, ok0, -⟩
              have HRD := Lib.hid hrd
              have HK0 : Hid (Ok wr W0) := Lib.hid (HO19.out.trans ok0)
              have HS20 : Hid (wr.heap.size ≤ w20.heap.size) := Lib.hid (HK0.out.trans hrd.2.1).size
              clear hrd ok0 HO19
              have hre := read_f W0 g w20 zs2 HRD.out
              go_wp2_with fail
              refine hre.mono ?_
              clear hre
              rintro _ w21 hpost
              obtain ⟨A21, n21, c21, rfl, hown21, hk21⟩ : ∃ A n c, (_ : Ending) = .returned (.tuple #[.slice A n c, .bool true]) ∧ OwnR w21 w20.heap.size A n c (meant s L) ∧ Ok wr w21 := by
                rcases hpost with ⟨h1, _⟩ | ⟨l', ys, A', n', c', h1, h2, h3, h4, _⟩
                · rw [HRB.out] at h1; cases h1
                · rw [HRB.out] at h1
                  simp only [Option.some.injEq, Prod.mk.injEq] at h1
                  obtain ⟨rfl, rfl⟩ := h1
                  exact ⟨A', n', c', h2, h3, HK0.out.trans h4.2.1⟩
              obtain rfl : n12 = n21 := HML.out.symm.trans hown21.1
              have HBK := Lib.hid hown21
              have HO21 := Lib.hid hk21
              clear hown21 hk21 hpost HRD HRB HZL HB19 HK0
              have hs1 := same_f A21 A14 n12 c21 c14 (meant s L) HML.out (Nat.le_trans HN12.out.1 (by decide)) w21 HBK.out.rows (HOUT1.out.ok HO21.out).rows
              go_wp2_with fail
              refine hs1.mono ?_
              clear hs1
              rintro _ w22 ⟨rfl, o22⟩
              have HO22 : Hid (Ok wr w22) := Lib.hid (HO21.out.trans o22)
              have HBK22 := Lib.hid (HBK.out.ok o22)
              clear o22 HBK HO21
              have hpb := put_back_t p B L s w22 HLR.out.1 HLR.out.2.2 HLR.out.2.1 (HT1.out.ok HO22.out) HP.out (Nat.le_trans HBB1.out HO22.out.size) A21 n12 c21 HML.out HBK22.out.rows
              go_wp2_with fail
              refine hpb.mono ?_
              clear hpb
              rintro _ w23 ⟨rfl, hT23, hg23⟩
              have HT23 := Lib.hid hT23
              have HAL23 := Lib.hid ((HAL1.out.ok HO22.out).gp hg23 HP7.out.1)
              have HO23 : Hid (Ok w0 w23) := Lib.hid (Below.trans (HO1.out.trans HO22.out) (grownBy_below hg23 (fun b e => by cases e; exact Nat.le_trans HB.out.1 HP.out) (HO1.out.trans HO22.out).size))
              clear hT23 hg23 HAL1 HOUT1 HT1 HBB1 HO1 HO22 HBK22
              have hal := all_w w23
              go_wp2_with fail
              refine hal.mono ?_
              clear hal
              rintro _ w24 ⟨rfl, o24⟩
              have HT24 := Lib.hid (HT23.out.ok o24)
              have HAL24 := Lib.hid (HAL23.out.ok o24)
              have HO24 := Lib.hid (HO23.out.trans o24)
              clear o24 HT23 HAL23 HO23
              have hin := in_t p B L w24 HT24.out allS
              rw [meant_allK HLR.out.2.1.key] at hin
              go_wp2_with fail
              refine hin.mono ?_
              clear hin
              rintro _ w25 ⟨A25, n25, c25, rfl, hown25, o25⟩
              obtain rfl : L.length = n25 := hown25.1
              have HR25 := Lib.hid hown25.rows
              have HAL25 := Lib.hid (HAL24.out.ok o25).rows
              have HO25 := Lib.hid (HO24.out.trans o25)
              clear hown25 o25 HT24 HAL24 HO24
              have hs2 := same_f A25 A7 L.length c25 c7 L rfl (Nat.le_trans HLR.out.2.2 (by decide)) w25 HR25.out HAL25.out
              go_wp2_with fail
              refine hs2.mono ?_
              clear hs2
              rintro _ w26 ⟨rfl, o26⟩
              have HO26 : Hid (Ok W w26) := Lib.hid (HO0.out.trans (HO25.out.trans o26))
              clear o26
              go_wp2_with fail
              go_ret
              exact ⟨rfl, HO26.out⟩
end Go.Proofs.Ytebhcadolnjplaa
