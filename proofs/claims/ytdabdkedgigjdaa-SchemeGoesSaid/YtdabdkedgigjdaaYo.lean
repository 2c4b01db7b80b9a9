/- SchemeEnds: each right handoff is brought to its end, walked. -/
import Derived.Test.YtdabdkedgigjdaaYn
import Derived.Test.YtdabdkedgigjdaaYi
import Derived.BigQuiet
import Derived.Deep.CutRange
import Derived.Deep.MidRow
namespace Go.Proofs.Ytdabdkedgigjdaa
open Go.RowKit

theorem info32 : (Try.prog.info? 32).map (·.size) = some 8 := by kernel_rfl
theorem info24 : (Try.prog.info? 24).map (·.size) = some 2 := by kernel_rfl
theorem range8 {w : World} {p : Nat} {a0 a1 a2 a3 a4 a5 a6 a7 : Value} (h0 : w.cell? ⟨p, 0, none⟩ = some a0) (h1 : w.cell? ⟨p, 1, none⟩ = some a1) (h2 : w.cell? ⟨p, 2, none⟩ = some a2) (h3 : w.cell? ⟨p, 3, none⟩ = some a3) (h4 : w.cell? ⟨p, 4, none⟩ = some a4) (h5 : w.cell? ⟨p, 5, none⟩ = some a5) (h6 : w.cell? ⟨p, 6, none⟩ = some a6) (h7 : w.cell? ⟨p, 7, none⟩ = some a7) : w.rangeAt p 0 [a0, a1, a2, a3, a4, a5, a6, a7] := fun j v hj => by
  rw [Nat.zero_add]
  match j, hj with
  | 0, hj => rw [h0]; simpa using hj
  | 1, hj => rw [h1]; simpa using hj
  | 2, hj => rw [h2]; simpa using hj
  | 3, hj => rw [h3]; simpa using hj
  | 4, hj => rw [h4]; simpa using hj
  | 5, hj => rw [h5]; simpa using hj
  | 6, hj => rw [h6]; simpa using hj
  | 7, hj => rw [h7]; simpa using hj
theorem there8 {w : World} {p : Nat} {x : Sc} (h : Sc8 w p x) (hf : Fz w p 8) : w.there p 0 8 := fun j hj => by
  rw [Nat.zero_add]
  obtain ⟨u, hu⟩ := cellAt8 h j hj
  exact ⟨by rw [hu]; rfl, hf j hj⟩

set_option maxRecDepth 100000 in
set_option maxHeartbeats 4000000 in
theorem ends_w (x : Sc) (ep : Int) (A : Option Addr) (c : Nat) (xs : List Sh) (back : Bool) (hnc : xs.length ≤ c) (hs : Short xs) (hl : x.sp.lo.size ≤ maxLen) (hh : x.sp.hi.size ≤ maxLen) (w : World) (hI : SharesAt w A xs) :
    Calls Try.prog 4 #[scV x, .agg #[.int .i64 ep, .slice A xs.length c], .bool back] w (Ret w (.bool true)) := by
  have HGR := Lib.hid (fun g w' (k : Ok w w') h0 h1 => great20_w ep A xs.length c g xs x.sp rfl hs hl hh w' (hI.ok k) h0 h1)
  have HRT := Lib.hid (fun g w' (hs : ScsAt w' (some ⟨g, 0, none⟩) [x]) => scRight_w (some ⟨g, 0, none⟩) 1 1 [x] rfl (by decide) w' hs)
  have HSR := Lib.hid (fun (h4 : xs.length ≤ 1000) w' (k : Ok w w') => sharesRight_w ep A xs.length c xs rfl h4 w' (hI.ok k))
  have HSC := Lib.hid (fun W' : World => scs_one W' x)
  have HAT := Lib.hid (fun w' (k : Ok w w') => hI.ok k)
  have HXX : Hid (∃ z, z = x) := Lib.hid ⟨_, rfl⟩
  have hone : [x].all scB = scB x := by simp
  rw [hone] at HRT
  clear hone hl hh hs hI
  obtain ⟨n, hn⟩ : ∃ n, xs.length = n := ⟨_, rfl⟩
  rw [hn] at HGR HSR hnc ⊢
  have HN := Lib.hid hn
  clear hn
  obtain ⟨rx, hrx⟩ : ∃ b, scB x = b := ⟨_, rfl⟩
  obtain ⟨rs, hrs⟩ : ∃ b, sharesB ep xs = b := ⟨_, rfl⟩
  rw [hrx] at HRT
  rw [hrs] at HSR
  have HRX := Lib.hid hrx
  have HRS := Lib.hid hrs
  clear hrx hrs
  obtain ⟨x0, hx0⟩ : ∃ z, z = x := HXX.out
  clear HXX
  obtain ⟨num, ⟨lo, hi⟩, fr, tw, xe, un, st⟩ := x
  have HX0 := Lib.hid hx0
  clear hx0
  unfold scV
  simp only at HGR HRT HSC ⊢
  obtain ⟨g, hg⟩ : ∃ g, w.heap.size = g := ⟨_, rfl⟩
  have hgw : w.heap.size ≤ g := by omega
  go_enter Try.func4, Try.ntmps4
  go_wp2_with fail
  generalize hW : (w.alloc (.cells #[.int .i64 num, .string lo, .string hi, .int .i64 fr, .int .i64 tw, .int .i64 xe, .int .i64 un, .int .u8 st] 32)).alloc (.cells #[.int .i64 ep, .slice A n c] 24) = W
  have okW : Ok w W := by subst hW; exact Ok.alloc (Ok.alloc (Ok.refl w) _) _
  have X0 : W.cell? ⟨g, 0, none⟩ = some (.int .i64 num) := by subst hW; subst hg; go_cell
  have X1 : W.cell? ⟨g, 1, none⟩ = some (.string lo) := by subst hW; subst hg; go_cell
  have X2 : W.cell? ⟨g, 2, none⟩ = some (.string hi) := by subst hW; subst hg; go_cell
  have X3 : W.cell? ⟨g, 3, none⟩ = some (.int .i64 fr) := by subst hW; subst hg; go_cell
  have X4 : W.cell? ⟨g, 4, none⟩ = some (.int .i64 tw) := by subst hW; subst hg; go_cell
  have X5 : W.cell? ⟨g, 5, none⟩ = some (.int .i64 xe) := by subst hW; subst hg; go_cell
  have X6 : W.cell? ⟨g, 6, none⟩ = some (.int .i64 un) := by subst hW; subst hg; go_cell
  have X7 : W.cell? ⟨g, 7, none⟩ = some (.int .u8 st) := by subst hW; subst hg; go_cell
  have S0 : W.cell? ⟨g + 1, 0, none⟩ = some (.int .i64 ep) := by subst hW; subst hg; go_cell
  have S1 : W.cell? ⟨g + 1, 1, none⟩ = some (.slice A n c) := by subst hW; subst hg; go_cell
  have HFX : Hid (Fz W g 8) := Lib.hid (by
    subst hW; subst hg; intro j hj
    obtain rfl | rfl | rfl | rfl | rfl | rfl | rfl | rfl : j = 0 ∨ j = 1 ∨ j = 2 ∨ j = 3 ∨ j = 4 ∨ j = 5 ∨ j = 6 ∨ j = 7 := by omega
    all_goals go_cell)
  have HFS : Hid (Fz W (g + 1) 2) := Lib.hid (by
    subst hW; subst hg; intro j hj
    obtain rfl | rfl : j = 0 ∨ j = 1 := by omega
    all_goals go_cell)
  have HWZ : Hid (g + 2 = W.heap.size) := Lib.hid (by subst hW; subst hg; simp)
  (try simp only [hg])
  clear hW hg
  refine (awake20_w W).mono ?_
  rintro _ w1 ⟨rfl, o1⟩
  have OKW : Hid (Ok W w1) := Lib.hid o1
  have OK1 : Hid (Ok w w1) := Lib.hid (Ok.call okW o1)
  replace X0 := Ok.cell o1 X0; replace X1 := Ok.cell o1 X1; replace X2 := Ok.cell o1 X2; replace X3 := Ok.cell o1 X3; replace X4 := Ok.cell o1 X4; replace X5 := Ok.cell o1 X5; replace X6 := Ok.cell o1 X6; replace X7 := Ok.cell o1 X7; replace S0 := Ok.cell o1 S0; replace S1 := Ok.cell o1 S1
  clear o1 okW
  go_wp2_with fail
  obtain ⟨g1, hg1⟩ : ∃ g, w1.heap.size = g := ⟨_, rfl⟩
  have Z0 : (w1.alloc (.cells #[.string lo, .string hi] 26)).cell? ⟨g1, 0, none⟩ = some (.string lo) := by subst hg1; go_cell
  have Z1 : (w1.alloc (.cells #[.string lo, .string hi] 26)).cell? ⟨g1, 1, none⟩ = some (.string hi) := by subst hg1; go_cell
  have o2 : Ok w1 (w1.alloc (.cells #[.string lo, .string hi] 26)) := Ok.alloc (Ok.refl w1) _
  rw [hg1]
  generalize w1.alloc (.cells #[.string lo, .string hi] 26) = W2 at Z0 Z1 o2 ⊢
  refine (HGR.out g1 W2 (Ok.call OK1.out o2) Z0 Z1).mono ?_
  rintro _ w2 ⟨⟨r, rfl, hr⟩, o3⟩
  have HR := Lib.hid hr
  have o23 : Ok w1 w2 := Ok.call o2 o3
  replace X0 := Ok.cell o23 X0; replace X1 := Ok.cell o23 X1; replace X2 := Ok.cell o23 X2; replace X3 := Ok.cell o23 X3; replace X4 := Ok.cell o23 X4; replace X5 := Ok.cell o23 X5; replace X6 := Ok.cell o23 X6; replace X7 := Ok.cell o23 X7; replace S0 := Ok.cell o23 S0; replace S1 := Ok.cell o23 S1
  have OK2 : Hid (Ok w w2) := Lib.hid (Ok.call OK1.out o23)
  replace OKW := Lib.hid (Ok.call OKW.out o23)
  clear hr o2 o3 o23 HGR Z0 Z1 hg1 OK1
  cases r with
  | true =>
    go_wp2
    go_ret
    exact ⟨rfl, OK2.out⟩
  | false =>
  have HN4 : Hid (n ≤ 400) := Lib.hid (HR.out rfl)
  clear HR
  go_wp2_with fail
  obtain ⟨g2, hg2⟩ : ∃ g, w2.heap.size = g := ⟨_, rfl⟩
  have HS2 := HSC.out w2
  rw [hg2] at HS2 ⊢
  have o3 : Ok w2 (w2.alloc (.cells #[.int .i64 num, .string lo, .string hi, .int .i64 fr, .int .i64 tw, .int .i64 xe, .int .i64 un, .int .u8 st] 32)) := Ok.alloc (Ok.refl w2) _
  generalize w2.alloc (.cells #[.int .i64 num, .string lo, .string hi, .int .i64 fr, .int .i64 tw, .int .i64 xe, .int .i64 un, .int .u8 st] 32) = W3 at HS2 o3 ⊢
  refine (HRT.out g2 W3 HS2).mono ?_
  rintro _ w3 ⟨rfl, o4⟩
  have o34 : Ok w2 w3 := Ok.call o3 o4
  replace X0 := Ok.cell o34 X0; replace X1 := Ok.cell o34 X1; replace X2 := Ok.cell o34 X2; replace X3 := Ok.cell o34 X3; replace X4 := Ok.cell o34 X4; replace X5 := Ok.cell o34 X5; replace X6 := Ok.cell o34 X6; replace X7 := Ok.cell o34 X7; replace S0 := Ok.cell o34 S0; replace S1 := Ok.cell o34 S1
  have OK3 : Hid (Ok w w3) := Lib.hid (Ok.call OK2.out o34)
  replace OKW := Lib.hid (Ok.call OKW.out o34)
  clear HS2 o3 o4 o34 HRT hg2 OK2 HSC
  cases rx with
  | false =>
    go_wp2
    go_ret
    exact ⟨rfl, OK3.out⟩
  | true =>
  go_wp2_with fail
  refine (HSR.out (by have := HN4.out; have := HN.out; omega) w3 OK3.out).mono ?_
  rintro _ w4 ⟨rfl, o4⟩
  replace X0 := Ok.cell o4 X0; replace X1 := Ok.cell o4 X1; replace X2 := Ok.cell o4 X2; replace X3 := Ok.cell o4 X3; replace X4 := Ok.cell o4 X4; replace X5 := Ok.cell o4 X5; replace X6 := Ok.cell o4 X6; replace X7 := Ok.cell o4 X7; replace S0 := Ok.cell o4 S0; replace S1 := Ok.cell o4 S1
  have OK4 : Hid (Ok w w4) := Lib.hid (Ok.call OK3.out o4)
  replace OKW := Lib.hid (Ok.call OKW.out o4)
  clear o4 HSR OK3
  cases rs with
  | false =>
    go_wp2
    go_ret
    exact ⟨rfl, OK4.out⟩
  | true =>
  have HEK : Hid (∀ V, Ok w4 V → ∀ A2 n2 c2 ss, OwnU V (g + 2) A2 n2 c2 ss → EK w g x0 ep A n c xs A2 n2 c2 ss V) := Lib.hid (fun V k A2 n2 c2 ss h => by
    rw [HX0.out]
    have kW := Ok.call OKW.out k
    refine ⟨⟨Ok.cell k X0, Ok.cell k X1, Ok.cell k X2, Ok.cell k X3, Ok.cell k X4, Ok.cell k X5, Ok.cell k X6, Ok.cell k X7⟩, ?_, Ok.cell k S0, Ok.cell k S1, ?_, HAT.out V (Ok.call OK4.out k), h, Ok.call OK4.out k⟩
    · exact fun j hj => (Below.frozen kW (p := ⟨g, j, none⟩) (by have := HWZ.out; show g < _; omega)).trans (HFX.out j hj)
    · exact fun j hj => (Below.frozen kW (p := ⟨g + 1, j, none⟩) (by have := HWZ.out; show g + 1 < _; omega)).trans (HFS.out j hj))
  clear X0 X1 X2 X3 X4 X5 S0 S1
  go_wp2_with fail
  have HEK2 : Hid (EK w g x0 ep A n c xs (some ⟨w4.heap.size, 0, none⟩) 1 1 [st] (w4.alloc (.cells #[.int .u8 st] 30))) := Lib.hid (HEK.out _ (Ok.alloc (Ok.refl w4) _) _ _ _ _ ((OwnU.one w4 st).base (by have := HWZ.out; have := OKW.out.size; omega)))
  have HE2 : Hid (EndI 0 x0 ep n c xs [st]) := Lib.hid (by
    rw [HX0.out]
    refine ⟨?_, rfl, fun s hs => ?_, HRX.out, HRS.out, HN.out, hnc⟩
    · show 0 + distS st ≤ 5
      unfold distS
      (repeat' split) <;> omega
    · obtain rfl : s = st := by simpa using hs
      exact Int.le_refl _)
  generalize w4.alloc (.cells #[.int .u8 st] 30) = V0 at HEK2 ⊢
  clear HEK OKW HFX HFS OK4 HAT HN HRX HRS HX0 HN4 X6 X7 hnc HWZ
  generalize w4.heap.size = g4 at HEK2 ⊢
  go_loopw [7, 8] (fun sv i wr => ∃ (k : Nat) (x : Sc) (ep : Int) (A : Option Addr) (n c : Nat) (xs : List Sh) (A2 : Option Addr) (n2 c2 : Nat) (ss : List Int), sv = .slice A2 n2 c2 ∧ i = .int .i64 k ∧ EndI k x ep n c xs ss ∧ EK w g x ep A n c xs A2 n2 c2 ss wr) (fun _ i _ => 6 - (intOf i).toNat)
  case atStart => exact ⟨0, _, _, _, _, _, _, _, _, _, _, rfl, rfl, HE2.out, HEK2.out⟩
  case round =>
    clear HE2 HEK2
    obtain ⟨k, x, ep, A, n, c, xs, A2, n2, c2, ss, rfl, rfl, hi, hk⟩ := hrel
    have HI := Lib.hid hi
    have HK := Lib.hid hk
    clear hi hk
    have hk5 : k ≤ 5 := by have := HI.out.d; omega
    have hst := sc_stage HI.out.sc
    obtain ⟨st, hs⟩ : ∃ st, x.st = st := ⟨_, rfl⟩
    rw [hs] at hst
    obtain ⟨hst1, hst9⟩ := hst
    obtain ⟨ov, hov⟩ : ∃ b, overB st = b := ⟨_, rfl⟩
    have HOVW := over_w x
    rw [hs, hov] at HOVW
    unfold scV at HOVW
    rw [hs] at HOVW
    replace HOVW := Lib.hid HOVW
    have HOV := Lib.hid hov
    have HST := Lib.hid hs
    have hi0 : (0 : Int) ≤ (k : Int) := Int.natCast_nonneg _
    have d1 : decide ((k : Int) < 6) = true := decide_eq_true (by omega)
    have X0 := HK.out.x.c0; have X1 := HK.out.x.c1; have X2 := HK.out.x.c2; have X3 := HK.out.x.c3; have X4 := HK.out.x.c4; have X5 := HK.out.x.c5; have X6 := HK.out.x.c6; have X7 := HK.out.x.c7; have S0 := HK.out.s0; have S1 := HK.out.s1
    rw [hs] at X7
    clear hs hov
    go_wp2_with fail
    (with_reducible refine (HOVW.out wr).mono ?_)
    rintro _ w5 ⟨rfl, o5⟩
    replace HK := Lib.hid (HK.out.mv o5)
    replace X0 := Ok.cell o5 X0; replace X1 := Ok.cell o5 X1; replace X2 := Ok.cell o5 X2; replace X3 := Ok.cell o5 X3; replace X4 := Ok.cell o5 X4; replace X5 := Ok.cell o5 X5; replace X6 := Ok.cell o5 X6; replace X7 := Ok.cell o5 X7; replace S0 := Ok.cell o5 S0; replace S1 := Ok.cell o5 S1
    clear o5
    cases ov with
    | true =>
      have d2 : decide ((n2 : Int) ≤ 6) = true := decide_eq_true (by have := HI.out.l; have := HK.out.ow.2; omega)
      go_wp2_with fail
      (with_reducible refine (HOVW.out w5).mono ?_)
      rintro _ w6 ⟨rfl, o6⟩
      have HKO := Lib.hid (Ok.call HK.out.ok o6)
      clear o6 X0 X1 X2 X3 X4 X5 X6 X7 S0 S1
      go_wp2
      go_ret
      exact ⟨by first | rfl | simp, HKO.out⟩
    | false =>
      have hon := goes_on ⟨hst1, hst9⟩ HOV.out
      have HON := Lib.hid hon
      clear hon
      have HG7 : Hid (∀ w', Calls Try.prog 9 #[.int .u8 st, .int .u8 7] w' (Ret w' (.bool (goesB st 7)))) := Lib.hid (fun w' => goes_w st 7 w')
      obtain ⟨G, hG⟩ : ∃ b, goesB st 7 = b := ⟨_, rfl⟩
      rw [hG] at HG7
      have HG := Lib.hid hG
      clear hG HOVW HOV
      obtain ⟨bk, hbk⟩ : ∃ b, (back && G) = b := ⟨_, rfl⟩
      have HBK := Lib.hid hbk
      clear hbk
      go_upto_region 10 with fail
      go_cut [52] from 35 to 96 (fun v wx => v = .bool bk ∧ Ok w5 wx)
      case first =>
        cases back with
        | false =>
          go_wp2
          go_meet
          exact ⟨by rw [← HBK.out]; rfl, Ok.refl _⟩
        | true =>
          go_wp2_with fail
          (with_reducible refine (HG7.out w5).mono ?_)
          rintro _ w6 ⟨rfl, o6⟩
          go_wp2
          go_meet
          exact ⟨by rw [← HBK.out]; simp, o6⟩
      case rest =>
      obtain ⟨rfl, oc1⟩ := hcut
      rename_i wc1 _
      go_upto_if 52 with fail
      go_cut [9] from 35 to 96 (fun v wx => ∃ nx : Int, v = .int .u8 nx ∧ goesB st nx = true ∧ Ok w5 wx)
      case first =>
        cases bk with
        | false =>
          go_wp2
          go_meet
          exact ⟨st + 1, rfl, HON.out, oc1⟩
        | true =>
          have h2 : G = true := by have := HBK.out; simp at this; exact this.2
          go_wp2
          go_meet
          exact ⟨7, rfl, by rw [HG.out]; exact h2, oc1⟩
      case rest =>
        clear oc1
        obtain ⟨nx, rfl, hgo, oc⟩ := hcut
        replace HK := Lib.hid (HK.out.mv oc)
        replace X0 := Ok.cell oc X0; replace X1 := Ok.cell oc X1; replace X2 := Ok.cell oc X2; replace X3 := Ok.cell oc X3; replace X4 := Ok.cell oc X4; replace X5 := Ok.cell oc X5; replace X6 := Ok.cell oc X6; replace X7 := Ok.cell oc X7; replace S0 := Ok.cell oc S0; replace S1 := Ok.cell oc S1
        clear oc
        have hgo' : goesB x.st nx = true := by rw [HST.out]; exact hgo
        have HSW : Hid (∀ w', Ok wc w' → ∀ sto, Calls Try.prog 8 #[scV x, .agg #[.int .i64 ep, .slice A n c], .int .u8 sto] w' (StepQ w' ep xs x sto)) := Lib.hid (fun w' k' sto => by
          have h := HI.out
          have := step_w x ep A c xs sto (by have := (shares_parts h.sh).1; omega) (by rw [h.hn]; exact h.hc) w' (HK.out.sh.ok k')
          rwa [h.hn] at this)
        unfold scV at HSW
        rw [HST.out] at HSW
        rcases step_ends HI.out.sc HI.out.sh hgo' with ⟨y, ep', ys, hgood, hq⟩ | ⟨k0, y, hk0, h7, hgood, hq, hq7⟩
        · have HGD := Lib.hid hgood
          have HQ := Lib.hid hq
          clear hgo hgo' hgood hq
          go_wp2_with fail
          (with_reducible refine (HSW.out wc (Ok.refl _) nx).mono ?_)
          rw [HQ.out]
          rintro _ w6 ⟨A3, c3, rfl, hown, o6⟩
          have HK6 := Lib.hid (HK.out.mv o6)
          have HBB : Hid (g + 1 < wc.heap.size) := Lib.hid HK.out.lt
          have HLTB : Hid (∀ k, (Value.slice A2 n2 c2).ownBlock = Option.some k → k < wc.heap.size) := Lib.hid (fun k hk => (World.ownsRow.lt HK.out.ow.1 k hk).2)
          clear X0 X1 X2 X3 X4 X5 X6 X7 S0 S1 HSW HK HST HG7 HG HBK HON o6
          obtain ⟨m, hm⟩ : ∃ m, ys.length = m := ⟨_, rfl⟩
          rw [hm] at hown ⊢
          have HM := Lib.hid hm
          have HOWN := Lib.hid hown
          clear hm hown
          obtain ⟨ynum, ⟨ylo, yhi⟩, yfr, yto, yxe, yun, yst⟩ := y
          unfold scV
          simp only
          go_wp2_with fail
          obtain ⟨p, hp⟩ : ∃ p, w6.heap.size = p := ⟨_, rfl⟩
          have hz : (w6.alloc (.cells #[.int .i64 ynum, .string ylo, .string yhi, .int .i64 yfr, .int .i64 yto, .int .i64 yxe, .int .i64 yun, .int .u8 yst] 32)).heap.size = p + 1 := by subst hp; simp
          try rw [hz]
          try rw [hp]
          generalize hV : (w6.alloc (.cells #[.int .i64 ynum, .string ylo, .string yhi, .int .i64 yfr, .int .i64 yto, .int .i64 yxe, .int .i64 yun, .int .u8 yst] 32)).alloc (.cells #[.int .i64 ep', .slice A3 m c3] 24) = V
          have OV : Hid (Ok w6 V) := Lib.hid (by subst hV; exact Ok.alloc (Ok.alloc (Ok.refl _) _) _)
          have Y0 : V.cell? ⟨p, 0, none⟩ = some (.int .i64 ynum) := by subst hV; subst hp; go_cell
          have Y1 : V.cell? ⟨p, 1, none⟩ = some (.string ylo) := by subst hV; subst hp; go_cell
          have Y2 : V.cell? ⟨p, 2, none⟩ = some (.string yhi) := by subst hV; subst hp; go_cell
          have Y3 : V.cell? ⟨p, 3, none⟩ = some (.int .i64 yfr) := by subst hV; subst hp; go_cell
          have Y4 : V.cell? ⟨p, 4, none⟩ = some (.int .i64 yto) := by subst hV; subst hp; go_cell
          have Y5 : V.cell? ⟨p, 5, none⟩ = some (.int .i64 yxe) := by subst hV; subst hp; go_cell
          have Y6 : V.cell? ⟨p, 6, none⟩ = some (.int .i64 yun) := by subst hV; subst hp; go_cell
          have Y7 : V.cell? ⟨p, 7, none⟩ = some (.int .u8 yst) := by subst hV; subst hp; go_cell
          have T0 : V.cell? ⟨p + 1, 0, none⟩ = some (.int .i64 ep') := by subst hV; subst hp; go_cell
          have T1 : V.cell? ⟨p + 1, 1, none⟩ = some (.slice A3 m c3) := by subst hV; subst hp; go_cell
          have HP6 := Lib.hid hp
          clear hz hV hp
          have HOWV := Lib.hid (HOWN.out.ok OV.out)
          have hn26 : n2 ≤ 6 := by have := HI.out.l; have := HK6.out.ow.2; omega
          have HP : Hid (g + 1 < p) := Lib.hid (by have := HK6.out.lt; have := HP6.out; omega)
          have HKV := Lib.hid (HK6.out.mv OV.out)
          go_wp2_with fail
          go_loopw [13] (fun i wx => ∃ j : Nat, j ≤ n2 ∧ i = .int .i64 j ∧ Ok V wx) (fun i _ => n2 - (intOf i).toNat)
          case atStart => exact ⟨0, Nat.zero_le _, rfl, Ok.refl _⟩
          case round =>
            obtain ⟨j, hj, rfl, ok⟩ := hrel
            replace Y0 := Ok.cell ok Y0; replace Y1 := Ok.cell ok Y1; replace Y2 := Ok.cell ok Y2; replace Y3 := Ok.cell ok Y3; replace Y4 := Ok.cell ok Y4; replace Y5 := Ok.cell ok Y5; replace Y6 := Ok.cell ok Y6; replace Y7 := Ok.cell ok Y7; replace T0 := Ok.cell ok T0; replace T1 := Ok.cell ok T1
            by_cases hlt : j < n2
            · have d3 : decide (j < n2) = true := decide_eq_true hlt
              have hl2 := HKV.out.ow.2
              obtain ⟨b2, hA2, hcl⟩ := HKV.out.ow.at j (by omega)
              have hne : (ss[j]'(by omega) == yst) = false := by
                have h1 := HI.out.le _ (List.getElem_mem (show j < ss.length by omega))
                have h2 := (goes_down HGD.out.go).2
                simp only at h2
                exact beq_eq_false_iff_ne.2 (by omega)
              replace hcl := Ok.cell ok hcl
              have OKX := Lib.hid ok
              generalize ss[j]'(by omega) = sj at hcl hne
              subst hA2
              clear ok hl2
              have hj0 : (0 : Int) ≤ (j : Int) := Int.natCast_nonneg _
              have hj1 : (j : Int) < (n2 : Int) := by omega
              go_wp2_with fail
              go_quiet (fail)
              go_wp2
              refine ⟨⟨j + 1, hlt, by go_num, Ok.trans' OKX.out ⟨rfl, rfl, rfl, Nat.le_refl _, fun _ _ => rfl⟩⟩, ?_⟩
              show n2 - ((j : Int) + 1).toNat < n2 - (j : Int).toNat
              omega
            · have d3 : decide (j < n2) = false := decide_eq_false hlt
              have HKX := Lib.hid (HKV.out.mv ok)
              have OKX := Lib.hid ok
              have HA := Lib.hid (HKX.out.mv (Ok.alloc (Ok.refl wr) (.cells #[.int .u8 yst] 30)))
              have HCA : Hid ((wr.alloc (.cells #[.int .u8 yst] 30)).cell? ⟨wr.heap.size, 0, none⟩ = some (.int .u8 yst)) := Lib.hid (by go_cell)
              have HLE : Hid (ss.length ≤ 1000000) := Lib.hid (by have := HA.out.ow.2; omega)
              have HBS : Hid (g + 2 ≤ (wr.alloc (.cells #[.int .u8 yst] 30)).heap.size) := Lib.hid (by have := HA.out.lt; omega)
              have HLT : Hid (∀ k, (Value.slice A2 n2 c2).ownBlock = Option.some k → k < p) := Lib.hid (fun k hk => HP6.out ▸ (World.ownsRow.lt HK6.out.ow.1 k hk).2)
              have HNE : Hid (some p ≠ (Value.slice A2 n2 c2).ownBlock ∧ some (p + 1) ≠ (Value.slice A2 n2 c2).ownBlock) := Lib.hid ⟨fun e => by have := HLT.out p e.symm; omega, fun e => by have := HLT.out (p + 1) e.symm; omega⟩
              clear ok
              go_upto_region 23 with (at_builtin; go_must (refine wpList_appU rfl (.tmp 90) (.tmp 93) rfl (g + 2) A2 n2 c2 ss wr.heap.size yst rfl rfl HA.out.ow HCA.out HLE.out HBS.out ?_; intro A6 c6 wz hown7 hb7 hgr7; have HOW7 := Lib.hid hown7; have HB7 := Lib.hid hb7; have HGR7 := Lib.hid hgr7; clear hown7 hb7 hgr7))
              have oa : Ok wr (wr.alloc (.cells #[.int .u8 yst] 30)) := Ok.alloc (Ok.refl wr) _
              replace Y0 := Ok.cell oa Y0; replace Y1 := Ok.cell oa Y1; replace Y2 := Ok.cell oa Y2; replace Y3 := Ok.cell oa Y3; replace Y4 := Ok.cell oa Y4; replace Y5 := Ok.cell oa Y5; replace Y6 := Ok.cell oa Y6; replace Y7 := Ok.cell oa Y7; replace T0 := Ok.cell oa T0; replace T1 := Ok.cell oa T1
              replace Y0 := HGR7.out.cell Y0 HNE.out.1; replace Y1 := HGR7.out.cell Y1 HNE.out.1; replace Y2 := HGR7.out.cell Y2 HNE.out.1; replace Y3 := HGR7.out.cell Y3 HNE.out.1; replace Y4 := HGR7.out.cell Y4 HNE.out.1; replace Y5 := HGR7.out.cell Y5 HNE.out.1; replace Y6 := HGR7.out.cell Y6 HNE.out.1; replace Y7 := HGR7.out.cell Y7 HNE.out.1; replace T0 := HGR7.out.cell T0 HNE.out.2; replace T1 := HGR7.out.cell T1 HNE.out.2
              have cl : ∀ {b j u}, b < g + 2 → (wr.alloc (.cells #[.int .u8 yst] 30)).cell? ⟨b, j, none⟩ = some u → wz.cell? ⟨b, j, none⟩ = some u := fun hb2 hc => (Below.cell HB7.out hb2).trans hc
              have fz : ∀ {b n}, b < g + 2 → Fz (wr.alloc (.cells #[.int .u8 yst] 30)) b n → Fz wz b n := fun hb2 hf j hj => (Below.frozen HB7.out (p := ⟨_, j, none⟩) hb2).trans (hf j hj)
              have HTH : Hid (wz.there g 0 8) := Lib.hid (there8 (x := x) ⟨cl (by omega) HA.out.x.c0, cl (by omega) HA.out.x.c1, cl (by omega) HA.out.x.c2, cl (by omega) HA.out.x.c3, cl (by omega) HA.out.x.c4, cl (by omega) HA.out.x.c5, cl (by omega) HA.out.x.c6, cl (by omega) HA.out.x.c7⟩ (fz (by omega) HA.out.fx))
              have S0 := cl (by omega) HA.out.s0; have S1 := cl (by omega) HA.out.s1
              have ffs := fz (by omega) HA.out.fs
              have t0 := ffs 0 (by decide); have t1 := ffs 1 (by decide)
              have HRY := Lib.hid (range8 Y0 Y1 Y2 Y3 Y4 Y5 Y6 Y7)
              clear ffs cl fz oa HCA HLE HBS HNE Y0 Y1 Y2 Y3 Y4 Y5 Y6 Y7
              have HS01 := Lib.hid (And.intro S0 S1)
              have HT01 := Lib.hid (And.intro T0 T1)
              have HTF := Lib.hid (And.intro t0 t1)
              clear S0 S1 T0 T1 t0 t1 hlt hj d1 d3 hi0 hst1 hst9
              go_upto_region 24 with (first
                | refine wpList_load_mid rfl 32 (.tmp 10) rfl p 0 rfl [.int .i64 ynum, .string ylo, .string yhi, .int .i64 yfr, .int .i64 yto, .int .i64 yxe, .int .i64 yun, .int .u8 yst] _ HRY.out Try.underlying32 rfl info32 ?_
                | refine wpList_store_mid rfl 32 (.tmp 3) (.tmp 95) rfl g 0 #[.int .i64 ynum, .string ylo, .string yhi, .int .i64 yfr, .int .i64 yto, .int .i64 yxe, .int .i64 yun, .int .u8 yst] rfl rfl HTH.out info32 (by simp [Value.oneCell']) ?_)
              obtain ⟨wy, hw8⟩ : ∃ wy, put8 wz g ⟨ynum, ⟨ylo, yhi⟩, yfr, yto, yxe, yun, yst⟩ = wy := ⟨_, rfl⟩
              have hw8' : wz.setCells g 0 [.int .i64 ynum, .string ylo, .string yhi, .int .i64 yfr, .int .i64 yto, .int .i64 yxe, .int .i64 yun, .int .u8 yst] = wy := hw8
              simp only [hw8']
              have S0 : wy.cell? ⟨g + 1, 0, none⟩ = some (.int .i64 ep) := by rw [← hw8]; exact other8 (by omega) HS01.out.1
              have S1 : wy.cell? ⟨g + 1, 1, none⟩ = some (.slice A n c) := by rw [← hw8]; exact other8 (by omega) HS01.out.2
              have T0 : wy.cell? ⟨p + 1, 0, none⟩ = some (.int .i64 ep') := by rw [← hw8]; exact other8 (by have := HP.out; omega) HT01.out.1
              have T1 : wy.cell? ⟨p + 1, 1, none⟩ = some (.slice A3 m c3) := by rw [← hw8]; exact other8 (by have := HP.out; omega) HT01.out.2
              have t0 : wy.frozen? ⟨g + 1, 0, none⟩ = false := by rw [← hw8]; unfold put8; simp only [World.frozen?_setCell]; exact HTF.out.1
              have t1 : wy.frozen? ⟨g + 1, 1, none⟩ = false := by rw [← hw8]; unfold put8; simp only [World.frozen?_setCell]; exact HTF.out.2
              have HW8 := Lib.hid hw8
              clear hw8 hw8' HS01 HT01 HTF HRY HTH
              go_wp2
              refine ⟨⟨k + 1, ⟨ynum, ⟨ylo, yhi⟩, yfr, yto, yxe, yun, yst⟩, ep', A3, m, c3, ys, A6, n2 + 1, c6, ss ++ [yst], rfl, by go_num, HI.out.next HGD.out HM.out (by have := HOWV.out.cap; have := HM.out; omega), ?_⟩, ?_⟩
              · rw [← HW8.out]
                exact HA.out.next hgw ⟨ynum, ⟨ylo, yhi⟩, yfr, yto, yxe, yun, yst⟩ ep' A3 m c3 ys wc.heap.size HBB.out ((HOWV.out.ok OKX.out).ok (Ok.alloc (Ok.refl wr) _)) HLTB.out HB7.out HGR7.out HOW7.out
              · rw [show Value.int IntKind.i64 ((k : Int) + 1) = Value.int .i64 ((k + 1 : Nat) : Int) by go_num]
                simp only [intOf]
                omega
        · have HGD := Lib.hid hgood
          have HQ := Lib.hid hq
          have HQ7 := Lib.hid hq7
          have hG1 : G = true := by rw [← HG.out, ← HST.out]; exact h7
          rw [hG1] at HG7
          clear hgo hgo' hgood hq hq7 h7 hG1 HBK HON HG
          go_wp2_with fail
          (with_reducible refine (HSW.out wc (Ok.refl _) nx).mono ?_)
          rw [HQ.out]
          rintro _ w6 ⟨A9, c9, rfl, -, o6⟩
          have HK6 := Lib.hid (HK.out.mv o6)
          replace X0 := Ok.cell o6 X0; replace X1 := Ok.cell o6 X1; replace X2 := Ok.cell o6 X2; replace X3 := Ok.cell o6 X3; replace X4 := Ok.cell o6 X4; replace X5 := Ok.cell o6 X5; replace X6 := Ok.cell o6 X6; replace X7 := Ok.cell o6 X7; replace S0 := Ok.cell o6 S0; replace S1 := Ok.cell o6 S1
          have OC6 := Lib.hid o6
          unfold scV sc0 allS
          simp only [List.length_nil]
          go_upto_region 13 with fail
          obtain ⟨p, hp⟩ : ∃ p, w6.heap.size = p := ⟨_, rfl⟩
          have hz : (w6.alloc (.cells #[.int .i64 0, .string ⟨#[]⟩, .string ⟨#[]⟩, .int .i64 0, .int .i64 0, .int .i64 0, .int .i64 0, .int .u8 0] 32)).heap.size = p + 1 := by subst hp; simp
          try rw [hz]
          try rw [hp]
          generalize hV : (w6.alloc (.cells #[.int .i64 0, .string ⟨#[]⟩, .string ⟨#[]⟩, .int .i64 0, .int .i64 0, .int .i64 0, .int .i64 0, .int .u8 0] 32)).alloc (.cells #[.int .i64 0, .slice A9 0 c9] 24) = V
          have OV0 : Hid (Ok w6 V) := Lib.hid (by subst hV; exact Ok.alloc (Ok.alloc (Ok.refl _) _) _)
          have HY0 : Hid (Sc8 V p sc0) := Lib.hid (by subst hV; subst hp; unfold sc0 allS; constructor <;> go_cell)
          have HT0 : Hid (V.cell? ⟨p + 1, 0, none⟩ = some (.int .i64 0) ∧ V.cell? ⟨p + 1, 1, none⟩ = some (.slice A9 0 c9)) := Lib.hid (by subst hV; subst hp; constructor <;> go_cell)
          have HFY : Hid (Fz V p 8) := Lib.hid (by
            subst hV; subst hp; intro j hj
            obtain rfl | rfl | rfl | rfl | rfl | rfl | rfl | rfl : j = 0 ∨ j = 1 ∨ j = 2 ∨ j = 3 ∨ j = 4 ∨ j = 5 ∨ j = 6 ∨ j = 7 := by omega
            all_goals go_cell)
          have HFT : Hid (Fz V (p + 1) 2) := Lib.hid (by
            subst hV; subst hp; intro j hj
            obtain rfl | rfl : j = 0 ∨ j = 1 := by omega
            all_goals go_cell)
          have HP6 := Lib.hid hp
          clear hz hV hp o6
          have oV := OV0.out
          replace X0 := Ok.cell oV X0; replace X1 := Ok.cell oV X1; replace X2 := Ok.cell oV X2; replace X3 := Ok.cell oV X3; replace X4 := Ok.cell oV X4; replace X5 := Ok.cell oV X5; replace X6 := Ok.cell oV X6; replace X7 := Ok.cell oV X7; replace S0 := Ok.cell oV S0; replace S1 := Ok.cell oV S1
          clear oV
          go_wp2_with fail
          (with_reducible refine (HG7.out V).mono ?_)
          rintro _ w7 ⟨rfl, o7⟩
          replace X0 := Ok.cell o7 X0; replace X1 := Ok.cell o7 X1; replace X2 := Ok.cell o7 X2; replace X3 := Ok.cell o7 X3; replace X4 := Ok.cell o7 X4; replace X5 := Ok.cell o7 X5; replace X6 := Ok.cell o7 X6; replace X7 := Ok.cell o7 X7; replace S0 := Ok.cell o7 S0; replace S1 := Ok.cell o7 S1
          have O67 := Lib.hid (Ok.call OV0.out o7)
          have OC7 : Hid (Ok wc w7) := Lib.hid (Ok.call OC6.out O67.out)
          go_wp2_with fail
          (with_reducible refine (HSW.out w7 OC7.out 7).mono ?_)
          rw [HQ7.out]
          rintro _ w8 ⟨A3, c3, rfl, hown, o8⟩
          have o78 := Ok.call o7 o8
          have HBB : Hid (g + 1 < w7.heap.size) := Lib.hid (HK6.out.mv O67.out).lt
          have HLTB : Hid (∀ k, (Value.slice A2 n2 c2).ownBlock = Option.some k → k < w7.heap.size) := Lib.hid (fun k hk => (World.ownsRow.lt (HK6.out.mv O67.out).ow.1 k hk).2)
          have HB7 : Hid (p + 1 < w7.heap.size) := Lib.hid (World.block_lt_of_cell? w7 ⟨p + 1, 0, none⟩ (Ok.cell o7 HT0.out.1))
          have HTY := Lib.hid (there8 (HY0.out.ok o78) (HFY.out.ok HY0.out.c0 o78))
          have HY8 := Lib.hid (HY0.out.ok o78)
          have HT8 := Lib.hid (And.intro (Ok.cell o78 HT0.out.1) (Ok.cell o78 HT0.out.2))
          have HFT8 := Lib.hid (HFT.out.ok HT0.out.1 o78)
          have O68 : Hid (Ok w6 w8) := Lib.hid (Ok.call O67.out o8)
          clear o7 o8 o78 X0 X1 X2 X3 X4 X5 X6 X7 S0 S1 HSW HK HST HG7 OV0 HQ HQ7 HY0 HFY HFT HT0 OC7
          obtain ⟨m, hm⟩ : ∃ m, xs.length = m := ⟨_, rfl⟩
          rw [hm] at hown ⊢
          have HM := Lib.hid hm
          have HOWN := Lib.hid hown
          clear hm hown
          obtain ⟨ynum, ⟨ylo, yhi⟩, yfr, yto, yxe, yun, yst⟩ := y
          unfold scV
          simp only
          obtain ⟨V1, hV1⟩ : ∃ V1, put8 w8 p ⟨ynum, ⟨ylo, yhi⟩, yfr, yto, yxe, yun, yst⟩ = V1 := ⟨_, rfl⟩
          have HE1 : Hid (w8.setCells p 0 (#[.int .i64 ynum, .string ylo, .string yhi, .int .i64 yfr, .int .i64 yto, .int .i64 yxe, .int .i64 yun, .int .u8 yst] : Array Value).toList = V1) := Lib.hid hV1
          have HT1 : Hid (V1.cell? ⟨p + 1, 0, none⟩ = some (.int .i64 0) ∧ V1.cell? ⟨p + 1, 1, none⟩ = some (.slice A9 0 c9)) := Lib.hid (by rw [← hV1]; exact ⟨other8 (by omega) HT8.out.1, other8 (by omega) HT8.out.2⟩)
          have HTT : Hid (V1.there (p + 1) 0 2) := Lib.hid (by
            intro j hj
            rw [Nat.zero_add]
            refine ⟨?_, by rw [← hV1]; exact frz8 HFT8.out j hj⟩
            obtain rfl | rfl : j = 0 ∨ j = 1 := by omega
            · rw [HT1.out.1]; rfl
            · rw [HT1.out.2]; rfl)
          have HV1 := Lib.hid hV1
          clear hV1
          go_upto_region 15 with (first
            | (refine wpList_store_mid rfl 32 (.tmp 10) (.tmp 72) rfl p 0 #[.int .i64 ynum, .string ylo, .string yhi, .int .i64 yfr, .int .i64 yto, .int .i64 yxe, .int .i64 yun, .int .u8 yst] rfl rfl HTY.out info32 (by simp [Value.oneCell']) ?_; rw [HE1.out])
            | refine wpList_store_mid rfl 24 (.tmp 11) (.tmp 73) rfl (p + 1) 0 #[.int .i64 ep, .slice A3 m c3] rfl rfl HTT.out info24 (by simp [Value.oneCell']) ?_)
          obtain ⟨V2, hV2'⟩ : ∃ V2, V1.setCells (p + 1) 0 [.int .i64 ep, .slice A3 m c3] = V2 := ⟨_, rfl⟩
          simp only [hV2']
          have hV2 : put2 (put8 w8 p ⟨ynum, ⟨ylo, yhi⟩, yfr, yto, yxe, yun, yst⟩) (p + 1) (.int .i64 ep) (.slice A3 m c3) = V2 := by rw [HV1.out]; exact hV2'
          have hp6 := HP6.out
          have OV : Hid (Ok w6 V2) := Lib.hid (by rw [← hV2]; exact Ok.put2 (Ok.put8 O68.out (by omega)) (by omega))
          have HOWV : Hid (OwnSh V2 w7.heap.size A3 m c3 xs) := Lib.hid (by rw [← hV2]; exact (HOWN.out.put8 (by have := HB7.out; omega)).put2 HB7.out)
          obtain ⟨Y0, Y1, Y2, Y3, Y4, Y5, Y6, Y7⟩ : Sc8 V2 p ⟨ynum, ⟨ylo, yhi⟩, yfr, yto, yxe, yun, yst⟩ := by rw [← hV2]; exact (HY8.out.put8 _).put2 (by omega)
          simp only at Y0 Y1 Y2 Y3 Y4 Y5 Y6 Y7
          obtain ⟨T0, T1⟩ : V2.cell? ⟨p + 1, 0, none⟩ = some (.int .i64 ep) ∧ V2.cell? ⟨p + 1, 1, none⟩ = some (.slice A3 m c3) := by rw [← hV2]; exact two_put2 (other8 (by omega) HT8.out.1) (other8 (by omega) HT8.out.2)
          clear hV2 hV2' hp6 HTT HT1 HE1 HV1 HTY HY8 HT8 HFT8 O68 O67 HB7
          have hn26 : n2 ≤ 6 := by have := HI.out.l; have := HK6.out.ow.2; omega
          have HP : Hid (g + 1 < p) := Lib.hid (by have := HK6.out.lt; have := HP6.out; omega)
          have HKV := Lib.hid (HK6.out.mv OV.out)
          go_wp2_with fail
          go_loopw [13] (fun i wx => ∃ j : Nat, j ≤ n2 ∧ i = .int .i64 j ∧ Ok V2 wx) (fun i _ => n2 - (intOf i).toNat)
          case atStart => exact ⟨0, Nat.zero_le _, rfl, Ok.refl _⟩
          case round =>
            obtain ⟨j, hj, rfl, ok⟩ := hrel
            replace Y0 := Ok.cell ok Y0; replace Y1 := Ok.cell ok Y1; replace Y2 := Ok.cell ok Y2; replace Y3 := Ok.cell ok Y3; replace Y4 := Ok.cell ok Y4; replace Y5 := Ok.cell ok Y5; replace Y6 := Ok.cell ok Y6; replace Y7 := Ok.cell ok Y7; replace T0 := Ok.cell ok T0; replace T1 := Ok.cell ok T1
            by_cases hlt : j < n2
            · have d3 : decide (j < n2) = true := decide_eq_true hlt
              have hl2 := HKV.out.ow.2
              obtain ⟨b2, hA2, hcl⟩ := HKV.out.ow.at j (by omega)
              have hne : (ss[j]'(by omega) == yst) = false := by
                have h1 := HI.out.le _ (List.getElem_mem (show j < ss.length by omega))
                have h2 := (goes_down HGD.out.go).2
                simp only at h2
                exact beq_eq_false_iff_ne.2 (by omega)
              replace hcl := Ok.cell ok hcl
              have OKX := Lib.hid ok
              generalize ss[j]'(by omega) = sj at hcl hne
              subst hA2
              clear ok hl2
              have hj0 : (0 : Int) ≤ (j : Int) := Int.natCast_nonneg _
              have hj1 : (j : Int) < (n2 : Int) := by omega
              go_wp2_with fail
              go_quiet (fail)
              go_wp2
              refine ⟨⟨j + 1, hlt, by go_num, Ok.trans' OKX.out ⟨rfl, rfl, rfl, Nat.le_refl _, fun _ _ => rfl⟩⟩, ?_⟩
              show n2 - ((j : Int) + 1).toNat < n2 - (j : Int).toNat
              omega
            · have d3 : decide (j < n2) = false := decide_eq_false hlt
              have HKX := Lib.hid (HKV.out.mv ok)
              have OKX := Lib.hid ok
              have HA := Lib.hid (HKX.out.mv (Ok.alloc (Ok.refl wr) (.cells #[.int .u8 yst] 30)))
              have HCA : Hid ((wr.alloc (.cells #[.int .u8 yst] 30)).cell? ⟨wr.heap.size, 0, none⟩ = some (.int .u8 yst)) := Lib.hid (by go_cell)
              have HLE : Hid (ss.length ≤ 1000000) := Lib.hid (by have := HA.out.ow.2; omega)
              have HBS : Hid (g + 2 ≤ (wr.alloc (.cells #[.int .u8 yst] 30)).heap.size) := Lib.hid (by have := HA.out.lt; omega)
              have HLT : Hid (∀ k, (Value.slice A2 n2 c2).ownBlock = Option.some k → k < p) := Lib.hid (fun k hk => HP6.out ▸ (World.ownsRow.lt HK6.out.ow.1 k hk).2)
              have HNE : Hid (some p ≠ (Value.slice A2 n2 c2).ownBlock ∧ some (p + 1) ≠ (Value.slice A2 n2 c2).ownBlock) := Lib.hid ⟨fun e => by have := HLT.out p e.symm; omega, fun e => by have := HLT.out (p + 1) e.symm; omega⟩
              clear ok
              go_upto_region 23 with (at_builtin; go_must (refine wpList_appU rfl (.tmp 90) (.tmp 93) rfl (g + 2) A2 n2 c2 ss wr.heap.size yst rfl rfl HA.out.ow HCA.out HLE.out HBS.out ?_; intro A6 c6 wz hown7 hb7 hgr7; have HOW7 := Lib.hid hown7; have HB7 := Lib.hid hb7; have HGR7 := Lib.hid hgr7; clear hown7 hb7 hgr7))
              have oa : Ok wr (wr.alloc (.cells #[.int .u8 yst] 30)) := Ok.alloc (Ok.refl wr) _
              replace Y0 := Ok.cell oa Y0; replace Y1 := Ok.cell oa Y1; replace Y2 := Ok.cell oa Y2; replace Y3 := Ok.cell oa Y3; replace Y4 := Ok.cell oa Y4; replace Y5 := Ok.cell oa Y5; replace Y6 := Ok.cell oa Y6; replace Y7 := Ok.cell oa Y7; replace T0 := Ok.cell oa T0; replace T1 := Ok.cell oa T1
              replace Y0 := HGR7.out.cell Y0 HNE.out.1; replace Y1 := HGR7.out.cell Y1 HNE.out.1; replace Y2 := HGR7.out.cell Y2 HNE.out.1; replace Y3 := HGR7.out.cell Y3 HNE.out.1; replace Y4 := HGR7.out.cell Y4 HNE.out.1; replace Y5 := HGR7.out.cell Y5 HNE.out.1; replace Y6 := HGR7.out.cell Y6 HNE.out.1; replace Y7 := HGR7.out.cell Y7 HNE.out.1; replace T0 := HGR7.out.cell T0 HNE.out.2; replace T1 := HGR7.out.cell T1 HNE.out.2
              have cl : ∀ {b j u}, b < g + 2 → (wr.alloc (.cells #[.int .u8 yst] 30)).cell? ⟨b, j, none⟩ = some u → wz.cell? ⟨b, j, none⟩ = some u := fun hb2 hc => (Below.cell HB7.out hb2).trans hc
              have fz : ∀ {b n}, b < g + 2 → Fz (wr.alloc (.cells #[.int .u8 yst] 30)) b n → Fz wz b n := fun hb2 hf j hj => (Below.frozen HB7.out (p := ⟨_, j, none⟩) hb2).trans (hf j hj)
              have HTH : Hid (wz.there g 0 8) := Lib.hid (there8 (x := x) ⟨cl (by omega) HA.out.x.c0, cl (by omega) HA.out.x.c1, cl (by omega) HA.out.x.c2, cl (by omega) HA.out.x.c3, cl (by omega) HA.out.x.c4, cl (by omega) HA.out.x.c5, cl (by omega) HA.out.x.c6, cl (by omega) HA.out.x.c7⟩ (fz (by omega) HA.out.fx))
              have S0 := cl (by omega) HA.out.s0; have S1 := cl (by omega) HA.out.s1
              have ffs := fz (by omega) HA.out.fs
              have t0 := ffs 0 (by decide); have t1 := ffs 1 (by decide)
              have HRY := Lib.hid (range8 Y0 Y1 Y2 Y3 Y4 Y5 Y6 Y7)
              clear ffs cl fz oa HCA HLE HBS HNE Y0 Y1 Y2 Y3 Y4 Y5 Y6 Y7
              have HS01 := Lib.hid (And.intro S0 S1)
              have HT01 := Lib.hid (And.intro T0 T1)
              have HTF := Lib.hid (And.intro t0 t1)
              clear S0 S1 T0 T1 t0 t1 hlt hj d1 d3 hi0 hst1 hst9
              go_upto_region 24 with (first
                | refine wpList_load_mid rfl 32 (.tmp 10) rfl p 0 rfl [.int .i64 ynum, .string ylo, .string yhi, .int .i64 yfr, .int .i64 yto, .int .i64 yxe, .int .i64 yun, .int .u8 yst] _ HRY.out Try.underlying32 rfl info32 ?_
                | refine wpList_store_mid rfl 32 (.tmp 3) (.tmp 95) rfl g 0 #[.int .i64 ynum, .string ylo, .string yhi, .int .i64 yfr, .int .i64 yto, .int .i64 yxe, .int .i64 yun, .int .u8 yst] rfl rfl HTH.out info32 (by simp [Value.oneCell']) ?_)
              obtain ⟨wy, hw8⟩ : ∃ wy, put8 wz g ⟨ynum, ⟨ylo, yhi⟩, yfr, yto, yxe, yun, yst⟩ = wy := ⟨_, rfl⟩
              have hw8' : wz.setCells g 0 [.int .i64 ynum, .string ylo, .string yhi, .int .i64 yfr, .int .i64 yto, .int .i64 yxe, .int .i64 yun, .int .u8 yst] = wy := hw8
              simp only [hw8']
              have S0 : wy.cell? ⟨g + 1, 0, none⟩ = some (.int .i64 ep) := by rw [← hw8]; exact other8 (by omega) HS01.out.1
              have S1 : wy.cell? ⟨g + 1, 1, none⟩ = some (.slice A n c) := by rw [← hw8]; exact other8 (by omega) HS01.out.2
              have T0 : wy.cell? ⟨p + 1, 0, none⟩ = some (.int .i64 ep) := by rw [← hw8]; exact other8 (by have := HP.out; omega) HT01.out.1
              have T1 : wy.cell? ⟨p + 1, 1, none⟩ = some (.slice A3 m c3) := by rw [← hw8]; exact other8 (by have := HP.out; omega) HT01.out.2
              have t0 : wy.frozen? ⟨g + 1, 0, none⟩ = false := by rw [← hw8]; unfold put8; simp only [World.frozen?_setCell]; exact HTF.out.1
              have t1 : wy.frozen? ⟨g + 1, 1, none⟩ = false := by rw [← hw8]; unfold put8; simp only [World.frozen?_setCell]; exact HTF.out.2
              have HW8 := Lib.hid hw8
              clear hw8 hw8' HS01 HT01 HTF HRY HTH
              go_wp2
              refine ⟨⟨k + 1, ⟨ynum, ⟨ylo, yhi⟩, yfr, yto, yxe, yun, yst⟩, ep, A3, m, c3, xs, A6, n2 + 1, c6, ss ++ [yst], rfl, by go_num, HI.out.next HGD.out HM.out (by have := HOWV.out.cap; have := HM.out; omega), ?_⟩, ?_⟩
              · rw [← HW8.out]
                exact HA.out.next hgw ⟨ynum, ⟨ylo, yhi⟩, yfr, yto, yxe, yun, yst⟩ ep A3 m c3 xs w7.heap.size HBB.out ((HOWV.out.ok OKX.out).ok (Ok.alloc (Ok.refl wr) _)) HLTB.out HB7.out HGR7.out HOW7.out
              · rw [show Value.int IntKind.i64 ((k : Int) + 1) = Value.int .i64 ((k + 1 : Nat) : Int) by go_num]
                simp only [intOf]
                omega
end Go.Proofs.Ytdabdkedgigjdaa
