/- SchemeGoes: a handoff's whole way, walked. -/
import Derived.Test.YtdabdkedgigjdaaZf
import Derived.Deep.RegionHeld3
namespace Go.Proofs.Ytdabdkedgigjdaa
open Go.RowKit

set_option maxRecDepth 100000 in
set_option maxHeartbeats 4000000 in
theorem goes_all (ep : Int) (A : Option Addr) (c : Nat) (xs : List Sh) (num : Int) (i : Sp) (tt : Int) (LA : Option Addr) (m lc : Nat) (ls : List Int) (kk : Str) (hm : ls.length = m) (hnc : xs.length ≤ c) (hs : Short xs) (hl : i.lo.size ≤ maxLen) (hh : i.hi.size ≤ maxLen) (w : World) (hI : SharesAt w A xs)
    (hL : StN w (.slice LA m lc) ls) :
    Calls Try.prog 3 #[.agg #[.int .i64 ep, .slice A xs.length c], .int .i64 num, spV i, .int .i64 tt, .slice LA m lc, .string kk] w (Ret w (.bool true)) := by
  have HGR := Lib.hid (fun g w' (k : Ok w w') h0 h1 => great20_w ep A xs.length c g xs i rfl hs hl hh w' (hI.ok k) h0 h1)
  have HBG := Lib.hid (fun (h4 : xs.length ≤ 1000) w' (k : Ok w w') => begin_w ep A c xs num i tt h4 hnc w' (hI.ok k))
  have HAT := Lib.hid (fun w' (k : Ok w w') => hI.ok k)
  have HLT := Lib.hid (fun w' (k : Ok w w') => hL.ok k)
  obtain ⟨r, hr⟩ : ∃ r, begM ep xs num i tt = r := ⟨_, rfl⟩
  rw [hr] at HBG
  have HBR := Lib.hid hr
  clear hr hl hh hs hI hL
  obtain ⟨k0, x⟩ := r
  obtain ⟨n, hn⟩ : ∃ n, xs.length = n := ⟨_, rfl⟩
  rw [hn] at HGR HBG hnc ⊢
  have HN := Lib.hid hn
  have HM := Lib.hid hm
  clear hn hm
  obtain ⟨i0, hi0⟩ : ∃ z, z = i := ⟨i, rfl⟩
  obtain ⟨lo, hi⟩ := i
  have HI0 := Lib.hid hi0
  clear hi0
  unfold spV BegP at *
  simp only at HGR HBG ⊢
  obtain ⟨h, hh⟩ : ∃ g, w.heap.size = g := ⟨_, rfl⟩
  have hgw : w.heap.size ≤ h := by omega
  go_enter Try.func3, Try.ntmps3
  go_wp2_with fail
  generalize hW : (w.alloc (.cells #[.int .i64 ep, .slice A n c] 24)).alloc (.cells #[.string lo, .string hi] 26) = W
  have okW : Ok w W := by subst hW; exact Ok.alloc (Ok.alloc (Ok.refl w) _) _
  have S0 : W.cell? ⟨h, 0, none⟩ = some (.int .i64 ep) := by subst hW; subst hh; go_cell
  have S1 : W.cell? ⟨h, 1, none⟩ = some (.slice A n c) := by subst hW; subst hh; go_cell
  have I0 : W.cell? ⟨h + 1, 0, none⟩ = some (.string lo) := by subst hW; subst hh; go_cell
  have I1 : W.cell? ⟨h + 1, 1, none⟩ = some (.string hi) := by subst hW; subst hh; go_cell
  have HWZ : Hid (h + 2 = W.heap.size) := Lib.hid (by subst hW; subst hh; simp)
  (try simp only [hh])
  clear hW hh
  refine (awake20_w W).mono ?_
  rintro _ w1 ⟨rfl, o1⟩
  have OKW : Hid (Ok W w1) := Lib.hid o1
  have OK1 : Hid (Ok w w1) := Lib.hid (Ok.call okW o1)
  replace S0 := Ok.cell o1 S0; replace S1 := Ok.cell o1 S1; replace I0 := Ok.cell o1 I0; replace I1 := Ok.cell o1 I1
  clear o1 okW
  go_wp2_with fail
  obtain ⟨g1, hg1⟩ : ∃ g, w1.heap.size = g := ⟨_, rfl⟩
  have Z0 : (w1.alloc (.cells #[.string lo, .string hi] 26)).cell? ⟨g1, 0, none⟩ = some (.string lo) := by subst hg1; go_cell
  have Z1 : (w1.alloc (.cells #[.string lo, .string hi] 26)).cell? ⟨g1, 1, none⟩ = some (.string hi) := by subst hg1; go_cell
  have o2 : Ok w1 (w1.alloc (.cells #[.string lo, .string hi] 26)) := Ok.alloc (Ok.refl w1) _
  rw [hg1]
  generalize w1.alloc (.cells #[.string lo, .string hi] 26) = W2 at Z0 Z1 o2 ⊢
  refine (HGR.out g1 W2 (Ok.call OK1.out o2) Z0 Z1).mono ?_
  rintro _ w2 ⟨⟨r, rfl, hr⟩, o3⟩
  have HR := Lib.hid hr
  have o23 : Ok w1 w2 := Ok.call o2 o3
  replace S0 := Ok.cell o23 S0; replace S1 := Ok.cell o23 S1; replace I0 := Ok.cell o23 I0; replace I1 := Ok.cell o23 I1
  have OK2 : Hid (Ok w w2) := Lib.hid (Ok.call OK1.out o23)
  replace OKW := Lib.hid (Ok.call OKW.out o23)
  clear hr o2 o3 o23 HGR Z0 Z1 hg1 OK1
  cases r with
  | true =>
    go_wp2
    go_ret
    exact ⟨rfl, OK2.out⟩
  | false =>
  have HN4 : Hid (n ≤ 400) := Lib.hid (HR.out rfl)
  clear HR
  by_cases hm2 : 200 < m
  · have d1 : decide ((200 : Int) < m) = true := decide_eq_true (by omega)
    go_wp2
    go_ret
    exact ⟨rfl, OK2.out⟩
  · have d1 : decide ((200 : Int) < m) = false := decide_eq_false (by omega)
    cases d2 : decide ((100 : Int) < kk.size) with
    | true =>
      go_wp2
      go_ret
      exact ⟨rfl, OK2.out⟩
    | false =>
    have HM2 : Hid (m ≤ 200) := Lib.hid (by omega)
    go_wp2_with fail
    (with_reducible refine (HBG.out (by have := HN4.out; omega) w2 OK2.out).mono ?_)
    rintro _ w3 ⟨rfl, o3⟩
    replace S0 := Ok.cell o3 S0; replace S1 := Ok.cell o3 S1; replace I0 := Ok.cell o3 I0; replace I1 := Ok.cell o3 I1
    have OK3 : Hid (Ok w w3) := Lib.hid (Ok.call OK2.out o3)
    replace OKW := Lib.hid (Ok.call OKW.out o3)
    clear o3 OK2 HBG hm2 d1 d2
    obtain ⟨g, hg⟩ : ∃ g, w3.heap.size = g := ⟨_, rfl⟩
    obtain ⟨x0, hx0⟩ : ∃ z, z = x := ⟨x, rfl⟩
    have HX0 := Lib.hid hx0
    by_cases hk0 : k0 = 0
    · subst hk0
      clear hx0
      obtain ⟨num1, ⟨lo1, hi1⟩, fr, tw, xe, un, st⟩ := x
      unfold scV
      simp only
      go_upto_region 6 with fail
      have hgh : h + 1 < g := by have := HWZ.out; have := OKW.out.size; omega
      have hz : (w3.alloc (.cells #[.int .i64 num1, .string lo1, .string hi1, .int .i64 fr, .int .i64 tw, .int .i64 xe, .int .i64 un, .int .u8 st] 32)).heap.size = g + 1 := by subst hg; simp
      try rw [hz]
      try rw [hg]
      generalize hV : w3.alloc (.cells #[.int .i64 num1, .string lo1, .string hi1, .int .i64 fr, .int .i64 tw, .int .i64 xe, .int .i64 un, .int .u8 st] 32) = V at hz ⊢
      have HVZ := Lib.hid hz
      have oV : Ok w3 V := by subst hV; exact Ok.alloc (Ok.refl _) _
      have HX : Hid (Sc8 V g ⟨num1, ⟨lo1, hi1⟩, fr, tw, xe, un, st⟩) := Lib.hid (by subst hV; subst hg; constructor <;> go_cell)
      have HFX : Hid (Fz V g 8) := Lib.hid (by
        subst hV; subst hg; intro j hj
        obtain rfl | rfl | rfl | rfl | rfl | rfl | rfl | rfl : j = 0 ∨ j = 1 ∨ j = 2 ∨ j = 3 ∨ j = 4 ∨ j = 5 ∨ j = 6 ∨ j = 7 := by omega
        all_goals go_cell)
      replace S0 := Ok.cell oV S0; replace S1 := Ok.cell oV S1; replace I0 := Ok.cell oV I0; replace I1 := Ok.cell oV I1
      replace OK3 := Lib.hid (Ok.call OK3.out oV)
      clear hV oV hz
      go_upto_region 9 with fail
      go_wp2_with fail
      have HZV := HVZ.out
      rw [HZV]
      have HEG : Hid (EG w g ⟨num1, ⟨lo1, hi1⟩, fr, tw, xe, un, st⟩ ep A n c xs (V.alloc (.cells #[.int .i64 ep, .slice A n c] 24))) := Lib.hid (by
        have o := Ok.alloc (Ok.refl V) (.cells #[.int .i64 ep, .slice A n c] 24)
        refine ⟨HX.out.ok o, HFX.out.ok HX.out.c0 o, ?_, ?_, ?_, HAT.out _ (Ok.call OK3.out o), Ok.call OK3.out o⟩
        · rw [← HZV]; go_cell
        · rw [← HZV]; go_cell
        · rw [← HZV]; intro j hj
          obtain rfl | rfl : j = 0 ∨ j = 1 := by omega
          all_goals go_cell)
      have hgi := GoI.begin HBR.out
      have HGH : Hid (GH ⟨lo, hi⟩ w g h 0 0 ⟨num1, ⟨lo1, hi1⟩, fr, tw, xe, un, st⟩ ep A n c xs (V.alloc (.cells #[.int .i64 ep, .slice A n c] 24))) := Lib.hid (by
        have o := Ok.alloc (Ok.refl V) (.cells #[.int .i64 ep, .slice A n c] 24)
        exact ⟨hgi, HEG.out, HN.out, hnc, Ok.cell o I0, Ok.cell o I1⟩)
      have hgw2 : w.heap.size ≤ g := by omega
      generalize V.alloc (.cells #[.int .i64 ep, .slice A n c] 24) = U at HGH ⊢
      clear hgi HZV HVZ HX HFX HEG S0 S1 I0 I1 OK3 OKW HWZ HBR HAT HN hnc HX0 hg hgw HN4 HI0
      go_loopw [16, 17, 18] (fun sv tv iv wr => ∃ (k stp tns : Nat) (x : Sc) (ep : Int) (A : Option Addr) (n c : Nat) (xs : List Sh), k ≤ m ∧ sv = .int .i64 stp ∧ tv = .int .i64 tns ∧ iv = .int .i64 k ∧ GH ⟨lo, hi⟩ w g h stp tns x ep A n c xs wr) (fun _ _ iv _ => m - (intOf iv).toNat)
      case atStart => exact ⟨0, 0, 0, _, _, _, _, _, _, Nat.zero_le _, rfl, rfl, rfl, HGH.out⟩
      case round =>
        clear HGH
        obtain ⟨k, stp, tns, x, ep, A, n, c, xs, hk, rfl, rfl, rfl, hgh2⟩ := hrel
        have HG := Lib.hid hgh2
        clear hgh2
        by_cases hlt : k < m
        · have d1 : decide ((k : Int) < m) = true := decide_eq_true (by omega)
          have hj0 : (0 : Int) ≤ (k : Int) := Int.natCast_nonneg _
          have hj1 : (k : Int) < (m : Int) := by omega
          obtain ⟨bl, off, hb0, hbc⟩ : ∃ bl off, LA = some ⟨bl, off, none⟩ ∧ wr.cell? ⟨bl, off + k, none⟩ = some (.int .u8 (ls[k]'(by have := HM.out; omega))) := by
            obtain ⟨A', c', e, hc⟩ := HLT.out wr HG.out.e.ok
            obtain ⟨b, o, e2, h2⟩ := hc k (by have := HM.out; omega)
            simp only [Value.slice.injEq] at e
            exact ⟨b, o, e.1.trans e2, h2⟩
          generalize ls[k]'(by have := HM.out; omega) = b at hbc
          obtain ⟨kz, y, ep', ys, hq, hcase⟩ := go_next2 HG.out.gi b kk
          have HST : Hid (∀ w', Ok wr w' → Calls Try.prog 8 #[scV x, .agg #[.int .i64 ep, .slice A n c], .int .u8 b] w' (StepP w' kz y ep' ys)) := Lib.hid (fun w' k' => by
            have hl := (shares_parts HG.out.gi.sh).1
            have := step_w x ep A c xs b (by omega) (by rw [HG.out.hn]; exact HG.out.hc) w' (HG.out.e.sh.ok k')
            rwa [HG.out.hn, hq] at this)
          have HCS := Lib.hid hcase
          clear hq hcase
          obtain ⟨mz, hmz⟩ : ∃ mz, ys.length = mz := ⟨_, rfl⟩
          unfold StepP at HST
          rw [hmz] at HST
          have HMZ := Lib.hid hmz
          clear hmz
          obtain ⟨y0, hy0⟩ : ∃ z, z = y := ⟨y, rfl⟩
          have HY0 := Lib.hid hy0
          obtain ⟨x0, hx0⟩ : ∃ z, z = x := ⟨x, rfl⟩
          have HX0 := Lib.hid hx0
          clear hx0 hy0
          have X0 := HG.out.e.x.c0; have X1 := HG.out.e.x.c1; have X2 := HG.out.e.x.c2; have X3 := HG.out.e.x.c3; have X4 := HG.out.e.x.c4; have X5 := HG.out.e.x.c5; have X6 := HG.out.e.x.c6; have X7 := HG.out.e.x.c7; have S0 := HG.out.e.s0; have S1 := HG.out.e.s1
          obtain ⟨num, ⟨xlo, xhi⟩, fr, tw, xe, un, st⟩ := x
          obtain ⟨ynum, ⟨ylo, yhi⟩, yfr, yto, yxe, yun, yst⟩ := y
          subst hb0
          unfold scV at HST
          simp only at X0 X1 X2 X3 X4 X5 X6 X7 HST
          have HLE : Hid (k + 1 ≤ m) := Lib.hid (by omega)
          clear hlt hk
          go_wp2_with fail
          go_cut [19, 20, 21] from 56 to 181 (fun vp vq vk wx => StepAt wr kz ⟨ynum, ⟨ylo, yhi⟩, yfr, yto, yxe, yun, yst⟩ ep' ys vp vq vk wx)
          case first =>
            refine reg13_w wr g bl off k m lc n c mz A ep ep' kz b ys num xlo xhi fr tw xe un st ynum ylo yhi yfr yto yxe yun yst HST HMZ X0 X1 X2 X3 X4 X5 X6 X7 S0 S1 hbc hj0 hj1 _ _ _ _ _ _ _ _ _ _ _ _ _ _ _ _ _ _ _ _ _ _ _ _ _ _ _ _ _ _ _ _ _ _ _ _ _ _ _ _ _ _ _ _ _ _ _ _ _ _ _ _ _ _ _ _ _ _ _ _ _ _ _ _ _ _ _ _ _ _ _ _ _ _ _ _ _ _ _ _ _ _ _ _ _ _ _ _ _ _ _ _ _ _ _ _ _ _ _ _ _ _ _ _ _ _ _ _ _ _ _ _ _ _ _ _ _ _ _ _ _ _ _ _ _ _ _ _ _ _ _ _ _ _ _ _ _ _ _ _ _ _ _ _ _ _ _ _ _ _ _ _ _ _ _ _ _ _ _ _ _ _ _ _ _ _ _ _ _ _ _ _ _ _ _ _ _ _ _ _ _ _ _ _ _ _ _ _ _ _ _ _ _ _ _ _ _ _ _ _ _ _ (Lib.hid ?_)
            intro p q A5 c5 u62 u63 u64 u65 u66 u67 u68 u69 u70 u71 u72 wx hnx
            (try simp only [Exit.then])
            go_wp2_with fail
            go_meet
            exact ⟨p, q, A5, mz, c5, rfl, rfl, rfl, hnx⟩
          case rest =>
            obtain ⟨p, q, A5, n5, c5, rfl, rfl, rfl, hnx⟩ := hcut
            clear HST
            have HNX := Lib.hid hnx
            have hlo := hnx.ok
            replace X0 := Ok.cell hlo X0; replace X1 := Ok.cell hlo X1; replace X2 := Ok.cell hlo X2; replace X3 := Ok.cell hlo X3; replace X4 := Ok.cell hlo X4; replace X5 := Ok.cell hlo X5; replace X6 := Ok.cell hlo X6; replace X7 := Ok.cell hlo X7; replace S0 := Ok.cell hlo S0; replace S1 := Ok.cell hlo S1; replace hbc := Ok.cell hlo hbc
            clear hlo
            have Y0 := hnx.y.c0; have Y1 := hnx.y.c1; have Y2 := hnx.y.c2; have Y3 := hnx.y.c3; have Y4 := hnx.y.c4; have Y5 := hnx.y.c5; have Y6 := hnx.y.c6; have Y7 := hnx.y.c7; have T0 := hnx.t0; have T1 := hnx.t1
            simp only at Y0 Y1 Y2 Y3 Y4 Y5 Y6 Y7
            clear hnx
            have HGL : Hid (g + 1 < wr.heap.size) := Lib.hid HG.out.e.lt
            rcases HCS.out with ⟨rfl, hy, hst, hgo⟩ | ⟨rfl, s', t', hgi, hgk⟩
            · have HGW := HG.out.mv HNX.out.ok
              have HG2 := Lib.hid HGW
              clear HGW HCS HG T0 T1 S0 S1
              unfold sc0 allS at hy
              simp only [Sc.mk.injEq, Sp.mk.injEq] at hy
              obtain ⟨rfl, ⟨rfl, rfl⟩, rfl, rfl, rfl, rfl, rfl⟩ := hy
              have HGO := Lib.hid (goes_w st b)
              try simp only at hst hgo
              rw [hgo] at HGO
              clear hgo
              go_upto_region 15 with fail
              have HSQ := Lib.hid fun w' (k' : Ok wc w') => show w'.cell? ⟨g, 7, none⟩ = some (.int .u8 st) ∧ w'.cell? ⟨bl, off + k, none⟩ = some (.int .u8 b) ∧ w'.cell? ⟨p, 0, none⟩ = some (.int .i64 0) ∧ w'.cell? ⟨p, 1, none⟩ = some (.string ⟨#[]⟩) ∧ w'.cell? ⟨p, 2, none⟩ = some (.string ⟨#[]⟩) ∧ w'.cell? ⟨p, 3, none⟩ = some (.int .i64 0) ∧ w'.cell? ⟨p, 4, none⟩ = some (.int .i64 0) ∧ w'.cell? ⟨p, 5, none⟩ = some (.int .i64 0) ∧ w'.cell? ⟨p, 6, none⟩ = some (.int .i64 0) ∧ w'.cell? ⟨p, 7, none⟩ = some (.int .u8 0) ∧ OkS wc w' from ⟨Ok.cell k' X7, Ok.cell k' hbc, Ok.cell k' Y0, Ok.cell k' Y1, Ok.cell k' Y2, Ok.cell k' Y3, Ok.cell k' Y4, Ok.cell k' Y5, Ok.cell k' Y6, Ok.cell k' Y7, k'⟩
              have HD0 : Hid (Ok wc wc.drew) := Lib.hid (Ok.drew (Ok.refl _))
              clear X0 X1 X2 X3 X4 X5 X6
              have hj2 : (k : Int) < 200 := by have := HLE.out; have := HM2.out; omega
              go_region_held3 (fun w' => w'.cell? ⟨g, 7, none⟩ = some (.int .u8 st) ∧ w'.cell? ⟨bl, off + k, none⟩ = some (.int .u8 b) ∧ w'.cell? ⟨p, 0, none⟩ = some (.int .i64 0) ∧ w'.cell? ⟨p, 1, none⟩ = some (.string ⟨#[]⟩) ∧ w'.cell? ⟨p, 2, none⟩ = some (.string ⟨#[]⟩) ∧ w'.cell? ⟨p, 3, none⟩ = some (.int .i64 0) ∧ w'.cell? ⟨p, 4, none⟩ = some (.int .i64 0) ∧ w'.cell? ⟨p, 5, none⟩ = some (.int .i64 0) ∧ w'.cell? ⟨p, 6, none⟩ = some (.int .i64 0) ∧ w'.cell? ⟨p, 7, none⟩ = some (.int .u8 0) ∧ OkS wc w')
                ((refine HSQ.out _ ?_; (repeat (first | (with_reducible exact Ok.refl _) | (with_reducible assumption) | (with_reducible refine Ok.drew ?_) | (with_reducible refine Ok.trans' ?_ (by assumption))))))
                (first
                  | (go_at_call 9; (with_reducible refine (HGO.out _).mono ?_); rintro e w6 ⟨rfl, o6⟩))
              go_wp2
              refine ⟨⟨k + 1, stp, tns, _, _, _, _, _, _, by omega, rfl, rfl, by go_num, HG2.out.mv (Ok.call HD0.out o6)⟩, ?_⟩
              show m - ((k : Int) + 1).toNat < m - (k : Int).toNat
              omega
            · have HG2 : Hid (EG w g ⟨num, ⟨xlo, xhi⟩, fr, tw, xe, un, st⟩ ep A n c xs wc) := Lib.hid (HG.out.e.mv HNX.out.ok)
              have HGI := Lib.hid hgi
              have HGK := Lib.hid hgk
              have J0 := Ok.cell HNX.out.ok HG.out.i0
              have J1 := Ok.cell HNX.out.ok HG.out.i1
              simp only at J0 J1
              have HXS : Hid (xs.length = n ∧ n ≤ c ∧ xs.length ≤ 40) := Lib.hid ⟨HG.out.hn, HG.out.hc, (shares_parts HG.out.gi.sh).1⟩
              have HYS : Hid (ys.length ≤ 40) := Lib.hid (shares_parts hgi.sh).1
              clear hgi hgk HCS HG hbc
              have HOVW := over_w ⟨num, ⟨xlo, xhi⟩, fr, tw, xe, un, st⟩
              have HOV : Hid (overB st = true → ynum = num ∧ ylo = xlo ∧ yhi = xhi ∧ yfr = fr ∧ yto = tw ∧ yxe = xe ∧ yun = un ∧ yst = st) := Lib.hid (fun h => by
                have := HGK.out.ov h
                simp only [Sc.mk.injEq, Sp.mk.injEq] at this
                obtain ⟨a, ⟨b, c⟩, d, e, f, g, h⟩ := this
                exact ⟨a, b, c, d, e, f, g, h⟩)
              simp only at HOVW
              generalize overB st = ov at HOVW HOV
              unfold scV at HOVW
              simp only at HOVW
              replace HOVW := Lib.hid HOVW
              have HRT := Lib.hid (fun g w' (hs : ScsAt w' (some ⟨g, 0, none⟩) [⟨ynum, ⟨ylo, yhi⟩, yfr, yto, yxe, yun, yst⟩]) => scRight_w (some ⟨g, 0, none⟩) 1 1 [⟨ynum, ⟨ylo, yhi⟩, yfr, yto, yxe, yun, yst⟩] rfl (by decide) w' hs)
              have hone : [(⟨ynum, ⟨ylo, yhi⟩, yfr, yto, yxe, yun, yst⟩ : Sc)].all scB = true := by simp only [List.all_cons, HGI.out.sc, List.all_nil, Bool.and_self]
              rw [hone] at HRT
              have HSC := Lib.hid (fun W' : World => scs_one W' ⟨ynum, ⟨ylo, yhi⟩, yfr, yto, yxe, yun, yst⟩)
              clear hone
              go_upto_region 17 with fail
              go_cut [108] from 56 to 181 (fun v wx => v = .bool false ∧ Ok wc wx)
              case first =>
                go_wp2_with fail
                (with_reducible refine (HOVW.out wc).mono ?_)
                rintro _ w6 ⟨rfl, o6⟩
                replace X0 := Ok.cell o6 X0; replace X1 := Ok.cell o6 X1; replace X2 := Ok.cell o6 X2; replace X3 := Ok.cell o6 X3; replace X4 := Ok.cell o6 X4; replace X5 := Ok.cell o6 X5; replace X6 := Ok.cell o6 X6; replace X7 := Ok.cell o6 X7; replace Y0 := Ok.cell o6 Y0; replace Y1 := Ok.cell o6 Y1; replace Y2 := Ok.cell o6 Y2; replace Y3 := Ok.cell o6 Y3; replace Y4 := Ok.cell o6 Y4; replace Y5 := Ok.cell o6 Y5; replace Y6 := Ok.cell o6 Y6; replace Y7 := Ok.cell o6 Y7
                have O6 := Lib.hid o6
                clear o6
                cases ov with
                | true =>
                  obtain ⟨rfl, rfl, rfl, rfl, rfl, rfl, rfl, rfl⟩ := HOV.out rfl
                  go_wp2_with fail
                  obtain ⟨g6, hg6⟩ : ∃ g, w6.heap.size = g := ⟨_, rfl⟩
                  have HS6 := HSC.out w6
                  (try simp only at HS6)
                  rw [hg6] at HS6 ⊢
                  have o7 := Ok.alloc (Ok.refl w6) (.cells #[.int .i64 ynum, .string ylo, .string yhi, .int .i64 yfr, .int .i64 yto, .int .i64 yxe, .int .i64 yun, .int .u8 yst] 32)
                  generalize w6.alloc (.cells #[.int .i64 ynum, .string ylo, .string yhi, .int .i64 yfr, .int .i64 yto, .int .i64 yxe, .int .i64 yun, .int .u8 yst] 32) = W6 at HS6 o7 ⊢
                  (with_reducible refine (HRT.out g6 W6 HS6).mono ?_)
                  rintro _ w7 ⟨rfl, o8⟩
                  go_wp2
                  go_meet
                  exact ⟨by simp, Ok.call O6.out (Ok.call o7 o8)⟩
                | false =>
                  clear HOV
                  go_wp2_with fail
                  obtain ⟨g6, hg6⟩ : ∃ g, w6.heap.size = g := ⟨_, rfl⟩
                  have HS6 := HSC.out w6
                  (try simp only at HS6)
                  rw [hg6] at HS6 ⊢
                  have o7 := Ok.alloc (Ok.refl w6) (.cells #[.int .i64 ynum, .string ylo, .string yhi, .int .i64 yfr, .int .i64 yto, .int .i64 yxe, .int .i64 yun, .int .u8 yst] 32)
                  generalize w6.alloc (.cells #[.int .i64 ynum, .string ylo, .string yhi, .int .i64 yfr, .int .i64 yto, .int .i64 yxe, .int .i64 yun, .int .u8 yst] 32) = W6 at HS6 o7 ⊢
                  (with_reducible refine (HRT.out g6 W6 HS6).mono ?_)
                  rintro _ w7 ⟨rfl, o8⟩
                  go_wp2
                  go_meet
                  exact ⟨by simp, Ok.call O6.out (Ok.call o7 o8)⟩
              case rest =>
                obtain ⟨rfl, oc⟩ := hcut
                obtain ⟨wd, hwd⟩ : ∃ v, v = wc := ⟨_, rfl⟩
                subst hwd
                clear HOVW HOV HRT HSC
                have HNX := Lib.hid (HNX.out.mv oc)
                have HG2 := Lib.hid (HG2.out.mv oc)
                replace X0 := Ok.cell oc X0; replace X1 := Ok.cell oc X1; replace X2 := Ok.cell oc X2; replace X3 := Ok.cell oc X3; replace X4 := Ok.cell oc X4; replace X5 := Ok.cell oc X5; replace X6 := Ok.cell oc X6; replace X7 := Ok.cell oc X7; replace Y0 := Ok.cell oc Y0; replace Y1 := Ok.cell oc Y1; replace Y2 := Ok.cell oc Y2; replace Y3 := Ok.cell oc Y3; replace Y4 := Ok.cell oc Y4; replace Y5 := Ok.cell oc Y5; replace Y6 := Ok.cell oc Y6; replace Y7 := Ok.cell oc Y7; replace S0 := Ok.cell oc S0; replace S1 := Ok.cell oc S1; replace T0 := Ok.cell oc T0; replace T1 := Ok.cell oc T1; replace J0 := Ok.cell oc J0; replace J1 := Ok.cell oc J1
                clear oc
                clear X0 X1 X2 X3 X4 X5 X6
                have hstp : stp ≤ 5 := by have := HGI.out.d; have := HGK.out.s; split at this <;> omega
                have htn : tns ≤ 1 := by have := HGI.out.t; rcases HGK.out.e with h | h <;> (split at this <;> omega)
                obtain ⟨ne, hne⟩ : ∃ b, (yst != st) = b := ⟨_, rfl⟩
                have hs' : s' = if ne = true then stp + 1 else stp := by
                  rw [HGK.out.s, ← hne]; simp only [bne_iff_ne, ne_eq, ite_not]
                have HS' := Lib.hid hs'
                clear hs'
                go_upto_if 113 with fail
                go_cut [16] from 56 to 181 (fun v wx => v = .int .i64 s' ∧ Ok wd wx)
                case first =>
                  cases ne with
                  | true =>
                    go_wp2
                    go_meet
                    exact ⟨by rw [HS'.out]; simp, Ok.refl _⟩
                  | false =>
                    go_wp2
                    go_meet
                    exact ⟨by rw [HS'.out]; simp, Ok.refl _⟩
                case rest =>
                  obtain ⟨rfl, oc⟩ := hcut
                  obtain ⟨we, hwe⟩ : ∃ v, v = wc := ⟨_, rfl⟩
                  subst hwe
                  have HNX := Lib.hid (HNX.out.mv oc)
                  have HG2 := Lib.hid (HG2.out.mv oc)
                  replace X7 := Ok.cell oc X7; replace Y0 := Ok.cell oc Y0; replace Y1 := Ok.cell oc Y1; replace Y2 := Ok.cell oc Y2; replace Y3 := Ok.cell oc Y3; replace Y4 := Ok.cell oc Y4; replace Y5 := Ok.cell oc Y5; replace Y6 := Ok.cell oc Y6; replace Y7 := Ok.cell oc Y7; replace S0 := Ok.cell oc S0; replace S1 := Ok.cell oc S1; replace T0 := Ok.cell oc T0; replace T1 := Ok.cell oc T1; replace J0 := Ok.cell oc J0; replace J1 := Ok.cell oc J1
                  clear oc
                  obtain ⟨te, hte⟩ : ∃ b, (ep' != ep) = b := ⟨_, rfl⟩
                  go_upto_if 120 with fail
                  go_cut [17] from 56 to 181 (fun v wx => v = .int .i64 t' ∧ Ok we wx)
                  case first =>
                    rcases HGK.out.e with ⟨e1, e2, e3⟩ | ⟨e1, e2, e3, e4, e5⟩
                    · obtain rfl : te = false := by rw [← hte, e1]; simp
                      subst e2
                      subst e3
                      have hnn : n = n5 := by rw [← HXS.out.1]; exact HNX.out.hn
                      subst hnn
                      subst e1
                      have HSS := Lib.hid (sameSh_w ep' A5 A n c5 c ys HXS.out.1 (by have := HXS.out; omega) we HNX.out.sh HG2.out.sh)
                      go_wp2_with fail
                      (with_reducible refine HSS.out.mono ?_)
                      rintro _ w6 ⟨rfl, o6⟩
                      go_wp2
                      go_meet
                      exact ⟨rfl, o6⟩
                    · obtain rfl : te = true := by rw [← hte]; simpa using e1
                      simp only at e2 e3 e4
                      have E5 := Lib.hid e5
                      subst e2
                      subst e3
                      subst e4
                      clear e5
                      go_wp2
                      go_meet
                      exact ⟨by rw [E5.out]; simp, Ok.refl _⟩
                  case rest =>
                    obtain ⟨rfl, oc⟩ := hcut
                    obtain ⟨wf, hwf⟩ : ∃ v, v = wc := ⟨_, rfl⟩
                    subst hwf
                    have HNX := Lib.hid (HNX.out.mv oc)
                    have HG2 := Lib.hid (HG2.out.mv oc)
                    replace Y0 := Ok.cell oc Y0; replace Y1 := Ok.cell oc Y1; replace Y2 := Ok.cell oc Y2; replace Y3 := Ok.cell oc Y3; replace Y4 := Ok.cell oc Y4; replace Y5 := Ok.cell oc Y5; replace Y6 := Ok.cell oc Y6; replace Y7 := Ok.cell oc Y7; replace S0 := Ok.cell oc S0; replace S1 := Ok.cell oc S1; replace T0 := Ok.cell oc T0; replace T1 := Ok.cell oc T1; replace J0 := Ok.cell oc J0; replace J1 := Ok.cell oc J1
                    clear oc X7 hte hne
                    have HSM := Lib.hid HGK.out.sm
                    have HHS := Lib.hid HGK.out.hs
                    have HHA := Lib.hid (fun w' => has_w ⟨lo, hi⟩ kk w')
                    have HOA := Lib.hid (fun w' (k' : Ok wf w') => of_w kk ep A n c xs HXS.out.1 (by have := HXS.out; omega) w' (HG2.out.sh.ok k'))
                    have HOB := Lib.hid (fun w' (k' : Ok wf w') => of_w kk ep' A5 n5 c5 ys HNX.out.hn (by have := HYS.out; have := HNX.out.hn; omega) w' (HNX.out.sh.ok k'))
                    generalize firstM ep xs (fun x => hasB x.sp kk) = ra at HSM HHS HOA
                    generalize firstM ep' ys (fun x => hasB x.sp kk) = rb at HSM HHS HOB
                    unfold shareV at HOA HOB
                    obtain ⟨sa, hsa⟩ : ∃ z, ra.getD sh0 = z := ⟨_, rfl⟩
                    obtain ⟨sb, hsb⟩ : ∃ z, rb.getD sh0 = z := ⟨_, rfl⟩
                    rw [hsa] at HHS HOA
                    rw [hsb] at HHS HOB
                    have hsm := HSM.out
                    rw [← hsm] at HOB
                    generalize ra.isSome = is at HOA HOB
                    clear hsa hsb hsm HSM
                    obtain ⟨⟨alo, ahi⟩, ag, ae⟩ := sa
                    obtain ⟨⟨blo, bhi⟩, bg, be⟩ := sb
                    unfold shV at HOA HOB
                    unfold spV at HHA
                    simp only at HOA HOB HHS HHA
                    generalize hasB ⟨lo, hi⟩ kk = hb at HHS HHA
                    go_upto_region 27 with fail
                    go_cut [22, 23] from 56 to 181 (fun v vo wx => ∃ pa, v = .pointer (some ⟨pa, 0, none⟩) ∧ vo = .bool is ∧ wx.cell? ⟨pa, 2, none⟩ = some (.int .i64 ag) ∧ wx.cell? ⟨pa, 3, none⟩ = some (.int .i64 ae) ∧ Ok wf wx)
                    case first =>
                      go_wp2_with fail
                      (with_reducible refine (HOA.out wf (Ok.refl _)).mono ?_)
                      rintro _ w6 ⟨rfl, o6⟩
                      go_wp2_with fail
                      go_meet
                      exact ⟨w6.heap.size, rfl, rfl, by go_cell, by go_cell, Ok.alloc o6 _⟩
                    case rest =>
                      obtain ⟨pa, rfl, rfl, A2, A3, oc⟩ := hcut
                      obtain ⟨wg, hwg⟩ : ∃ v, v = wc := ⟨_, rfl⟩
                      subst hwg
                      have OFG := Lib.hid oc
                      replace Y0 := Ok.cell oc Y0; replace Y1 := Ok.cell oc Y1; replace Y2 := Ok.cell oc Y2; replace Y3 := Ok.cell oc Y3; replace Y4 := Ok.cell oc Y4; replace Y5 := Ok.cell oc Y5; replace Y6 := Ok.cell oc Y6; replace Y7 := Ok.cell oc Y7; replace S0 := Ok.cell oc S0; replace S1 := Ok.cell oc S1; replace T0 := Ok.cell oc T0; replace T1 := Ok.cell oc T1; replace J0 := Ok.cell oc J0; replace J1 := Ok.cell oc J1
                      clear oc HOA
                      go_upto_region 28 with fail
                      go_cut [24, 25] from 56 to 181 (fun v vo wx => ∃ pb, v = .pointer (some ⟨pb, 0, none⟩) ∧ vo = .bool is ∧ wx.cell? ⟨pb, 2, none⟩ = some (.int .i64 bg) ∧ wx.cell? ⟨pb, 3, none⟩ = some (.int .i64 be) ∧ Ok wg wx)
                      case first =>
                        go_wp2_with fail
                        (with_reducible refine (HOB.out wg OFG.out).mono ?_)
                        rintro _ w6 ⟨rfl, o6⟩
                        go_wp2_with fail
                        go_meet
                        exact ⟨w6.heap.size, rfl, rfl, by go_cell, by go_cell, Ok.alloc o6 _⟩
                      case rest =>
                        obtain ⟨pb, rfl, rfl, B2, B3, oc⟩ := hcut
                        obtain ⟨wh, hwh⟩ : ∃ v, v = wc := ⟨_, rfl⟩
                        subst hwh
                        have OFH := Lib.hid (Ok.call OFG.out oc)
                        replace Y0 := Ok.cell oc Y0; replace Y1 := Ok.cell oc Y1; replace Y2 := Ok.cell oc Y2; replace Y3 := Ok.cell oc Y3; replace Y4 := Ok.cell oc Y4; replace Y5 := Ok.cell oc Y5; replace Y6 := Ok.cell oc Y6; replace Y7 := Ok.cell oc Y7; replace S0 := Ok.cell oc S0; replace S1 := Ok.cell oc S1; replace T0 := Ok.cell oc T0; replace T1 := Ok.cell oc T1; replace J0 := Ok.cell oc J0; replace J1 := Ok.cell oc J1; replace A2 := Ok.cell oc A2; replace A3 := Ok.cell oc A3
                        clear oc HOB
                        go_upto_region 29 with fail
                        go_cut [179] from 56 to 181 (fun v wx => v = .bool false ∧ Ok wh wx)
                        case first =>
                          go_wp2_with fail
                          (with_reducible refine (HHA.out wh).mono ?_)
                          rintro _ w6 ⟨rfl, o6⟩
                          replace A2 := Ok.cell o6 A2; replace A3 := Ok.cell o6 A3; replace B2 := Ok.cell o6 B2; replace B3 := Ok.cell o6 B3
                          have O6 := Lib.hid o6
                          clear o6
                          cases hb with
                          | true =>
                            go_wp2
                            go_meet
                            exact ⟨by first | rfl | simp, O6.out⟩
                          | false =>
                            cases is with
                            | false =>
                              go_wp2
                              go_meet
                              exact ⟨by first | rfl | simp, O6.out⟩
                            | true =>
                              obtain ⟨rfl, rfl⟩ := HHS.out rfl
                              go_wp2
                              go_meet
                              exact ⟨by first | rfl | simp, O6.out⟩
                        case rest =>
                          obtain ⟨rfl, oc⟩ := hcut
                          obtain ⟨wi, hwi⟩ : ∃ v, v = wc := ⟨_, rfl⟩
                          subst hwi
                          have oFI := Ok.call OFH.out oc
                          have HNX := Lib.hid (HNX.out.mv oFI)
                          have HG2 := Lib.hid (HG2.out.mv oFI)
                          replace Y0 := Ok.cell oc Y0; replace Y1 := Ok.cell oc Y1; replace Y2 := Ok.cell oc Y2; replace Y3 := Ok.cell oc Y3; replace Y4 := Ok.cell oc Y4; replace Y5 := Ok.cell oc Y5; replace Y6 := Ok.cell oc Y6; replace Y7 := Ok.cell oc Y7; replace S0 := Ok.cell oc S0; replace S1 := Ok.cell oc S1; replace T0 := Ok.cell oc T0; replace T1 := Ok.cell oc T1; replace J0 := Ok.cell oc J0; replace J1 := Ok.cell oc J1
                          clear oc oFI OFG OFH A2 A3 B2 B3 HHA HHS
                          have HRY := Lib.hid (range8 Y0 Y1 Y2 Y3 Y4 Y5 Y6 Y7)
                          have HTH := Lib.hid (there8 HG2.out.x HG2.out.fx)
                          have HS01 := Lib.hid (And.intro S0 S1)
                          have HT01 := Lib.hid (And.intro T0 T1)
                          have HJ01 := Lib.hid (And.intro J0 J1)
                          have hfs := HG2.out.fs
                          have HTF := Lib.hid (And.intro (hfs 0 (by decide)) (hfs 1 (by decide)))
                          have hlq := HNX.out.lq
                          have hgl := HGL.out
                          clear Y0 Y1 Y2 Y3 Y4 Y5 Y6 Y7 S0 S1 T0 T1 J0 J1 hfs
                          go_upto_region 32 with (first
                            | refine wpList_load_mid rfl 32 (.tmp 19) rfl p 0 rfl [.int .i64 ynum, .string ylo, .string yhi, .int .i64 yfr, .int .i64 yto, .int .i64 yxe, .int .i64 yun, .int .u8 yst] _ HRY.out Try.underlying32 rfl info32 ?_
                            | refine wpList_store_mid rfl 32 (.tmp 13) (.tmp 180) rfl g 0 #[.int .i64 ynum, .string ylo, .string yhi, .int .i64 yfr, .int .i64 yto, .int .i64 yxe, .int .i64 yun, .int .u8 yst] rfl rfl HTH.out info32 (by simp [Value.oneCell']) ?_)
                          obtain ⟨wy, hw8⟩ : ∃ wy, put8 wi g ⟨ynum, ⟨ylo, yhi⟩, yfr, yto, yxe, yun, yst⟩ = wy := ⟨_, rfl⟩
                          have hw8' : wi.setCells g 0 [.int .i64 ynum, .string ylo, .string yhi, .int .i64 yfr, .int .i64 yto, .int .i64 yxe, .int .i64 yun, .int .u8 yst] = wy := hw8
                          simp only [hw8']
                          have S0 : wy.cell? ⟨g + 1, 0, none⟩ = some (.int .i64 ep) := by rw [← hw8]; exact other8 (by omega) HS01.out.1
                          have S1 : wy.cell? ⟨g + 1, 1, none⟩ = some (.slice A n c) := by rw [← hw8]; exact other8 (by omega) HS01.out.2
                          have T0 : wy.cell? ⟨q, 0, none⟩ = some (.int .i64 ep') := by rw [← hw8]; exact other8 (by omega) HT01.out.1
                          have T1 : wy.cell? ⟨q, 1, none⟩ = some (.slice A5 n5 c5) := by rw [← hw8]; exact other8 (by omega) HT01.out.2
                          have t0 : wy.frozen? ⟨g + 1, 0, none⟩ = false := by rw [← hw8]; unfold put8; simp only [World.frozen?_setCell]; exact HTF.out.1
                          have t1 : wy.frozen? ⟨g + 1, 1, none⟩ = false := by rw [← hw8]; unfold put8; simp only [World.frozen?_setCell]; exact HTF.out.2
                          have HW8 := Lib.hid hw8
                          have hj0 : (0 : Int) ≤ (k : Int) := Int.natCast_nonneg _
                          have hj1 : (k : Int) < 200 := by have := HLE.out; have := HM2.out; omega
                          clear hw8 hw8' HS01 HT01 HTF HRY HTH hlq hgl
                          go_wp2
                          refine ⟨⟨k + 1, s', t', ⟨ynum, ⟨ylo, yhi⟩, yfr, yto, yxe, yun, yst⟩, ep', A5, n5, c5, ys, HLE.out, rfl, rfl, by go_num, ?_⟩, ?_⟩
                          · have he := HG2.out.next hgw2 HGL.out (y := ⟨ynum, ⟨ylo, yhi⟩, yfr, yto, yxe, yun, yst⟩) (ep' := ep') (m := n5) (c3 := c5) HNX.out.sh HNX.out.of.b
                            rw [HW8.out] at he
                            refine ⟨HGI.out, he, HNX.out.hn, HNX.out.hc, ?_, ?_⟩
                            · have := other2 (p := g + 1) (a := .int .i64 ep') (b := .slice A5 n5 c5) (by omega) (other8 (p := g) (x := ⟨ynum, ⟨ylo, yhi⟩, yfr, yto, yxe, yun, yst⟩) (by omega) HJ01.out.1)
                              rw [HW8.out] at this
                              exact this
                            · have := other2 (p := g + 1) (a := .int .i64 ep') (b := .slice A5 n5 c5) (by omega) (other8 (p := g) (x := ⟨ynum, ⟨ylo, yhi⟩, yfr, yto, yxe, yun, yst⟩) (by omega) HJ01.out.2)
                              rw [HW8.out] at this
                              exact this
                          · show m - ((k : Int) + 1).toNat < m - (k : Int).toNat
                            omega
        ·
          obtain rfl : k = m := by omega
          have d1 : decide ((k : Int) < k) = false := decide_eq_false (by omega)
          have hd := HG.out.gi.d
          have ht := HG.out.gi.t
          have d2 : decide ((stp : Int) ≤ 5) = true := decide_eq_true (by omega)
          have d3 : decide ((tns : Int) ≤ 1) = true := decide_eq_true (by split at ht <;> omega)
          have X7 := HG.out.e.x.c7; have S0 := HG.out.e.s0; have S1 := HG.out.e.s1
          have HSR := Lib.hid (sharesRight_w ep A n c xs HG.out.hn (by have := (shares_parts HG.out.gi.sh).1; have := HG.out.hn; omega) wr HG.out.e.sh)
          rw [HG.out.gi.sh] at HSR
          have OKE := Lib.hid HG.out.e.ok
          generalize x.st = st at X7 ht hd
          unfold tuB at ht
          clear hd HG hlt hk
          cases d4 : decide (4 ≤ st) with
          | true =>
            cases d5 : decide (st ≤ 6) with
            | true =>
              obtain rfl : tns = 1 := by rw [ht]; simp [d4, d5]
              clear ht
              go_wp2_with fail
              (with_reducible refine HSR.out.mono ?_)
              rintro _ w6 ⟨rfl, o6⟩
              go_wp2
              go_ret
              exact ⟨by first | rfl | simp, Ok.call OKE.out o6⟩
            | false =>
              obtain rfl : tns = 0 := by rw [ht]; simp [d4, d5]
              clear ht
              go_wp2_with fail
              (with_reducible refine HSR.out.mono ?_)
              rintro _ w6 ⟨rfl, o6⟩
              go_wp2
              go_ret
              exact ⟨by first | rfl | simp, Ok.call OKE.out o6⟩
          | false =>
            obtain rfl : tns = 0 := by rw [ht]; simp [d4]
            clear ht
            go_wp2_with fail
            (with_reducible refine HSR.out.mono ?_)
            rintro _ w6 ⟨rfl, o6⟩
            go_wp2
            go_ret
            exact ⟨by first | rfl | simp, Ok.call OKE.out o6⟩
    · have hb : (k0 != 0) = true := by simpa using hk0
      have hx := begM_err HBR.out hk0
      subst hx
      clear hk0 hx0
      unfold scV sc0 allS
      simp only
      go_upto_region 6 with fail
      have hgh : h + 1 < g := by have := HWZ.out; have := OKW.out.size; omega
      try rw [hg]
      generalize hV : w3.alloc (.cells #[.int .i64 0, .string ⟨#[]⟩, .string ⟨#[]⟩, .int .i64 0, .int .i64 0, .int .i64 0, .int .i64 0, .int .u8 0] 32) = V
      have oV : Ok w3 V := by subst hV; exact Ok.alloc (Ok.refl _) _
      obtain ⟨X0, X1, X2, X3, X4, X5, X6, X7⟩ : Sc8 V g sc0 := by subst hV; subst hg; unfold sc0 allS; constructor <;> go_cell
      unfold sc0 allS at X0 X1 X2 X3 X4 X5 X6 X7
      simp only at X0 X1 X2 X3 X4 X5 X6 X7
      have OKV : Hid (Ok w V) := Lib.hid (Ok.call OK3.out oV)
      clear hV oV hg
      go_wp2
      go_ret
      exact ⟨rfl, OKV.out⟩
end Go.Proofs.Ytdabdkedgigjdaa
