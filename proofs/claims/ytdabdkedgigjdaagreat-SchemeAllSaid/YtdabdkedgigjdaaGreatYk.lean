/- The guard of scheme: it is awake. -/
import Derived.Test.YtdabdkedgigjdaaGreatYj
namespace Go.Proofs.YtdabdkedgigjdaaGreat
open Go.RowKit

set_option maxRecDepth 100000 in
set_option maxHeartbeats 4000000 in
theorem awake20_w (w : World) : Calls Tryz.prog 27 #[] w (Ret w (.bool true)) := by
  have hf := first_w 1
  rw [show firstG 1 = 1 by decide +kernel] at hf
  have HB := Lib.hid (fun A c => begin_w 1 A c [⟨allS, 1, 1⟩] 1 ⟨⟨#[109]⟩, ⟨#[]⟩⟩ 2 (by decide))
  rw [beg_one] at HB
  unfold spV BegP at HB
  simp only at HB
  go_enter Tryz.func27, Tryz.ntmps27
  go_wp2_with fail
  refine (hf _).mono ?_
  rintro _ w1 ⟨h, rfl, hown, o1⟩
  obtain ⟨g1, hg1⟩ : ∃ g, w1.heap.size = g := ⟨_, rfl⟩
  obtain ⟨V1, hV1⟩ : ∃ V, w1.alloc (.cells #[.int .i64 1, .slice (some ⟨h, 0, none⟩) 1 1] 24) = V := ⟨_, rfl⟩
  have oV1 : Ok w1 V1 := by rw [← hV1]; exact Ok.alloc (Ok.refl w1) _
  have S0 : V1.cell? ⟨g1, 0, none⟩ = some (.int .i64 1) := by subst hV1; subst hg1; go_cell
  have S1 : V1.cell? ⟨g1, 1, none⟩ = some (.slice (some ⟨h, 0, none⟩) 1 1) := by subst hV1; subst hg1; go_cell
  have HS1 : Hid (SharesAt V1 (some ⟨h, 0, none⟩) [⟨allS, 1, 1⟩]) := Lib.hid ((hown.ok oV1).at)
  have HFS : Hid (Fz V1 g1 2) := Lib.hid (by
    subst hV1; subst hg1; intro j hj
    obtain rfl | rfl : j = 0 ∨ j = 1 := by omega
    all_goals go_cell)
  have OKV : Hid (Ok w V1) := Lib.hid (Ok.call o1 oV1)
  have hgw : w.heap.size ≤ g1 := by have := o1.size; omega
  clear hown o1 oV1 hf
  go_wp2_with fail
  refine (HB.out _ _ (by decide) V1 HS1.out).mono ?_
  rintro _ w2 ⟨rfl, o2⟩
  clear HB
  rw [show scV (stX 0) = .agg #[.int .i64 1, .string ⟨#[109]⟩, .string ⟨#[]⟩, .int .i64 1, .int .i64 2, .int .i64 1, .int .i64 0, .int .u8 1] from rfl]
  obtain ⟨g2, hg2⟩ : ∃ g, w2.heap.size = g := ⟨_, rfl⟩
  have hg12 : g1 < g2 := by have h5 : g1 < w2.heap.size := World.block_lt_of_cell? _ _ (Ok.cell o2 S0); omega
  obtain ⟨V3, hV3⟩ : ∃ V, (w2.alloc (.cells #[.int .i64 1, .string ⟨#[109]⟩, .string ⟨#[]⟩, .int .i64 1, .int .i64 2, .int .i64 1, .int .i64 0, .int .u8 1] 52)).alloc (.cells #[.int .u8 2, .int .u8 3, .int .u8 4] 50) = V := ⟨_, rfl⟩
  have oV3 : Ok V1 V3 := by rw [← hV3]; exact Ok.call o2 (Ok.alloc (Ok.alloc (Ok.refl w2) _) _)
  have HX : Hid (Sc8 V3 g2 (stX 0)) := Lib.hid (by subst hV3; subst hg2; show Sc8 _ _ ⟨1, ⟨⟨#[109]⟩, ⟨#[]⟩⟩, 1, 2, 1, 0, 1⟩; constructor <;> go_cell)
  have HFX : Hid (Fz V3 g2 8) := Lib.hid (by
    subst hV3; subst hg2; intro j hj
    obtain rfl | rfl | rfl | rfl | rfl | rfl | rfl | rfl : j = 0 ∨ j = 1 ∨ j = 2 ∨ j = 3 ∨ j = 4 ∨ j = 5 ∨ j = 6 ∨ j = 7 := by omega
    all_goals go_cell)
  have HST : Hid (∀ j : Nat, j < 3 → V3.cell? ⟨g2 + 1, j, none⟩ = some (.int .u8 ((j : Int) + 2))) := Lib.hid (by
    subst hV3; subst hg2; intro j hj
    obtain rfl | rfl | rfl : j = 0 ∨ j = 1 ∨ j = 2 := by omega
    · show _ = some (Value.int .u8 2); go_cell
    · show _ = some (Value.int .u8 3); go_cell
    · show _ = some (Value.int .u8 4); go_cell)
  replace HFS := Lib.hid (HFS.out.ok S0 oV3)
  replace S0 := Ok.cell oV3 S0
  replace S1 := Ok.cell oV3 S1
  replace HS1 := Lib.hid (HS1.out.ok oV3)
  replace OKV := Lib.hid (Ok.call OKV.out oV3)
  clear o2 oV3
  go_wp2_with fail
  go_loopw [3, 5] (fun e i wr => ∃ (k n c : Nat) (A : Option Addr), k ≤ 3 ∧ e = .int .i64 0 ∧ i = .int .i64 k ∧ Sc8 wr g2 (stX k) ∧ Fz wr g2 8 ∧ wr.cell? ⟨g1, 0, none⟩ = some (.int .i64 (stEp k)) ∧ wr.cell? ⟨g1, 1, none⟩ = some (.slice A n c) ∧ n = (stXs k).length ∧ n ≤ c ∧ SharesAt wr A (stXs k) ∧ Fz wr g1 2 ∧ (∀ j : Nat, j < 3 → wr.cell? ⟨g2 + 1, j, none⟩ = some (.int .u8 ((j : Int) + 2))) ∧ Ok w wr) (fun _ i _ => 3 - (intOf i).toNat)
  case atStart => exact ⟨0, 1, 1, some ⟨h, 0, none⟩, Nat.zero_le _, rfl, rfl, HX.out, HFX.out, S0, S1, rfl, Nat.le_refl _, HS1.out, HFS.out, HST.out, OKV.out⟩
  case round =>
    obtain ⟨k, n, c, A, hk, rfl, rfl, hX, hFX, S0, S1, hn, hnc, hS, hFS, hC, okr⟩ := hrel
    have HX := Lib.hid hX
    have HFX := Lib.hid hFX
    have HFS := Lib.hid hFS
    have HC := Lib.hid hC
    have HSH := Lib.hid hS
    have OKR := Lib.hid okr
    have hr1 : g1 < wr.drew.heap.size := World.block_lt_of_cell? wr _ S0
    have hr2 : g2 < wr.drew.heap.size := World.block_lt_of_cell? wr _ hX.c0
    by_cases hlt : k < 3
    · have d1 : decide ((k : Int) < 3) = true := decide_eq_true (by omega)
      have hi0 : (0 : Int) ≤ (k : Int) := Int.natCast_nonneg _
      have hi1 : (k : Int) < 3 := by omega
      have C0 := hC k hlt
      have hle : (stXs k).length ≤ 1000 := by unfold stXs; split <;> simp
      have HSTEP : Hid (∀ w', Ok wr w' → Calls Tryz.prog 29 #[scV (stX k), .agg #[.int .i64 (stEp k), .slice A n c], .int .u8 ((k : Int) + 2)] w' (StepP w' 0 (stX (k + 1)) (stEp (k + 1)) (stXs (k + 1)))) := Lib.hid fun w' k' => by
        have := step_w (stX k) (stEp k) A c (stXs k) ((k : Int) + 2) hle (by omega) w' (HSH.out.ok k')
        rwa [step_one k hlt, ← hn] at this
      generalize hx : stX k = x at hX HX HSTEP
      generalize stEp k = E at S0 HSTEP
      generalize hm : (stXs (k + 1)) = ys at HSTEP
      generalize hy : stX (k + 1) = y at HSTEP
      generalize hE : stEp (k + 1) = E' at HSTEP
      obtain ⟨m, hm2⟩ : ∃ m, ys.length = m := ⟨_, rfl⟩
      unfold StepP at HSTEP
      rw [hm2] at HSTEP
      have HM := Lib.hid hm
      have HM2 := Lib.hid hm2
      have HY := Lib.hid hy
      have HE := Lib.hid hE
      obtain ⟨num, ⟨lo, hi⟩, fr, to, xe, un, st⟩ := x
      obtain ⟨ynum, ⟨ylo, yhi⟩, yfr, yto, yxe, yun, yst⟩ := y
      unfold scV at HSTEP
      simp only at HSTEP
      obtain ⟨X0, X1, X2, X3, X4, X5, X6, X7⟩ := hX
      simp only at X0 X1 X2 X3 X4 X5 X6 X7
      have f0 := hFX 0 (by decide); have f1 := hFX 1 (by decide); have f2 := hFX 2 (by decide); have f3 := hFX 3 (by decide); have f4 := hFX 4 (by decide); have f5 := hFX 5 (by decide); have f6 := hFX 6 (by decide); have f7 := hFX 7 (by decide)
      have t0 := hFS 0 (by decide); have t1 := hFS 1 (by decide)
      clear hx hm hm2 hy hE hFX hFS hC hS okr hle hn HSH
      go_wp2_with fail
      go_region_with ((go_at_call 29; (with_reducible refine (HSTEP.out _ (Ok.drew (Ok.refl wr))).mono ?_); rintro e w3 ⟨A3, c3, rfl, hown, o3⟩; have X0 := Ok.cell o3 (show wr.drew.cell? _ = _ from X0); have X1 := Ok.cell o3 (show wr.drew.cell? _ = _ from X1); have X2 := Ok.cell o3 (show wr.drew.cell? _ = _ from X2); have X3 := Ok.cell o3 (show wr.drew.cell? _ = _ from X3); have X4 := Ok.cell o3 (show wr.drew.cell? _ = _ from X4); have X5 := Ok.cell o3 (show wr.drew.cell? _ = _ from X5); have X6 := Ok.cell o3 (show wr.drew.cell? _ = _ from X6); have X7 := Ok.cell o3 (show wr.drew.cell? _ = _ from X7); have S0 := Ok.cell o3 (show wr.drew.cell? _ = _ from S0); have S1 := Ok.cell o3 (show wr.drew.cell? _ = _ from S1); have f0 := (Below.frozen o3 (p := ⟨g2, 0, none⟩) hr2).trans (show wr.drew.frozen? _ = _ from f0); have f1 := (Below.frozen o3 (p := ⟨g2, 1, none⟩) hr2).trans (show wr.drew.frozen? _ = _ from f1); have f2 := (Below.frozen o3 (p := ⟨g2, 2, none⟩) hr2).trans (show wr.drew.frozen? _ = _ from f2); have f3 := (Below.frozen o3 (p := ⟨g2, 3, none⟩) hr2).trans (show wr.drew.frozen? _ = _ from f3); have f4 := (Below.frozen o3 (p := ⟨g2, 4, none⟩) hr2).trans (show wr.drew.frozen? _ = _ from f4); have f5 := (Below.frozen o3 (p := ⟨g2, 5, none⟩) hr2).trans (show wr.drew.frozen? _ = _ from f5); have f6 := (Below.frozen o3 (p := ⟨g2, 6, none⟩) hr2).trans (show wr.drew.frozen? _ = _ from f6); have f7 := (Below.frozen o3 (p := ⟨g2, 7, none⟩) hr2).trans (show wr.drew.frozen? _ = _ from f7); have t0 := (Below.frozen o3 (p := ⟨g1, 0, none⟩) hr1).trans (show wr.drew.frozen? _ = _ from t0); have t1 := (Below.frozen o3 (p := ⟨g1, 1, none⟩) hr1).trans (show wr.drew.frozen? _ = _ from t1); skip))
      all_goals (
        have o33 : Ok wr w3 := Ok.trans' (Ok.drew (Ok.refl wr)) o3
        have HX3 := HX.out.ok o33
        have HFX3 : Fz w3 g2 8 := HFX.out.ok HX.out.c0 o33
        have HFS3 : Fz w3 g1 2 := fun j hj => (Below.frozen o33 (p := ⟨g1, j, none⟩) hr1).trans (HFS.out j hj)
        have n12 : g1 ≠ g2 := by omega
        have n21 : g2 ≠ g1 := by omega
        have n31 : g2 + 1 ≠ g1 := by omega
        have n32 : g2 + 1 ≠ g2 := by omega
        have hgw2 : w.heap.size ≤ g2 := by omega
        have a1 := (HX3.put8 ⟨ynum, ⟨ylo, yhi⟩, yfr, yto, yxe, yun, yst⟩).put2 (p := g1) (a := .int .i64 E') (b := .slice A3 m c3) n21
        have b1 := two_put2 (a := .int .i64 E') (b := .slice A3 m c3) (other8 (p := g2) (x := ⟨ynum, ⟨ylo, yhi⟩, yfr, yto, yxe, yun, yst⟩) n12 S0) (other8 (p := g2) (x := ⟨ynum, ⟨ylo, yhi⟩, yfr, yto, yxe, yun, yst⟩) n12 S1)
        have c1 := ((hown.put8 (x := ⟨ynum, ⟨ylo, yhi⟩, yfr, yto, yxe, yun, yst⟩) hr2).put2 (a := .int .i64 E') (b := .slice A3 m c3) hr1).at
        have d1 : ∀ j : Nat, j < 3 → (put2 (put8 w3 g2 ⟨ynum, ⟨ylo, yhi⟩, yfr, yto, yxe, yun, yst⟩) g1 (.int .i64 E') (.slice A3 m c3)).cell? ⟨g2 + 1, j, none⟩ = some (.int .u8 ((j : Int) + 2)) := fun j hj => other2 n31 (other8 n32 (Ok.cell o33 (HC.out j hj)))
        have e1 := Ok.put2 (p := g1) (a := .int .i64 E') (b := .slice A3 m c3) (Ok.put8 (p := g2) (x := ⟨ynum, ⟨ylo, yhi⟩, yfr, yto, yxe, yun, yst⟩) (Ok.call OKR.out o33) hgw2) hgw
        have p1 : Fz (put2 (put8 w3 g2 ⟨ynum, ⟨ylo, yhi⟩, yfr, yto, yxe, yun, yst⟩) g1 (.int .i64 E') (.slice A3 m c3)) g2 8 := frz2 (frz8 HFX3)
        have p2 : Fz (put2 (put8 w3 g2 ⟨ynum, ⟨ylo, yhi⟩, yfr, yto, yxe, yun, yst⟩) g1 (.int .i64 E') (.slice A3 m c3)) g1 2 := frz2 (frz8 HFS3)
        obtain ⟨Z, hZ⟩ : ∃ Z, put2 (put8 w3 g2 ⟨ynum, ⟨ylo, yhi⟩, yfr, yto, yxe, yun, yst⟩) g1 (.int .i64 E') (.slice A3 m c3) = Z := ⟨_, rfl⟩
        have hZ2 : ((((((((((w3.setCell ⟨g2, 0, none⟩ (.int .i64 ynum)).setCell ⟨g2, 1, none⟩ (.string ylo)).setCell ⟨g2, 2, none⟩ (.string yhi)).setCell ⟨g2, 3, none⟩ (.int .i64 yfr)).setCell ⟨g2, 4, none⟩ (.int .i64 yto)).setCell ⟨g2, 5, none⟩ (.int .i64 yxe)).setCell ⟨g2, 6, none⟩ (.int .i64 yun)).setCell ⟨g2, 7, none⟩ (.int .u8 yst)).setCell ⟨g1, 0, none⟩ (.int .i64 E')).setCell ⟨g1, 1, none⟩ (.slice A3 m c3)) = Z := hZ
        rw [hZ] at a1 b1 c1 d1 e1 p1 p2
        have hcap := hown.cap
        have A1 := Lib.hid a1; have B1 := Lib.hid b1; have C1 := Lib.hid c1; have D1 := Lib.hid d1; have E1 := Lib.hid e1; have P1 := Lib.hid p1; have P2 := Lib.hid p2; have HC1 := Lib.hid hcap; have HZ2 := Lib.hid hZ2
        clear a1 b1 c1 d1 e1 p1 p2 hcap hZ2 hZ X0 X1 X2 X3 X4 X5 X6 X7 f0 f1 f2 f3 f4 f5 f6 f7 t0 t1 hown o3 o33 S0 S1 HX3 HFX3 HFS3
        go_wp2
        rw [HZ2.out]
        refine ⟨⟨k + 1, m, c3, A3, by omega, rfl, by first | rfl | (push_cast; rfl), ?_, P1.out, ?_, B1.out.2, by rw [HM.out]; exact HM2.out.symm, by rw [← HM2.out]; exact HC1.out, ?_, P2.out, D1.out, E1.out⟩, ?_⟩
        · rw [HY.out]; exact A1.out
        · rw [HE.out]; exact B1.out.1
        · rw [HM.out]; exact C1.out
        · show 3 - ((k : Int) + 1).toNat < 3 - (k : Int).toNat
          omega)
    · obtain rfl : k = 3 := by omega
      have X0 : wr.cell? ⟨g2, 0, none⟩ = some (.int .i64 1) := hX.c0
      have X1 : wr.cell? ⟨g2, 1, none⟩ = some (.string ⟨#[109]⟩) := hX.c1
      have X2 : wr.cell? ⟨g2, 2, none⟩ = some (.string ⟨#[]⟩) := hX.c2
      have X3 : wr.cell? ⟨g2, 3, none⟩ = some (.int .i64 1) := hX.c3
      have X4 : wr.cell? ⟨g2, 4, none⟩ = some (.int .i64 2) := hX.c4
      have X5 : wr.cell? ⟨g2, 5, none⟩ = some (.int .i64 1) := hX.c5
      have X6 : wr.cell? ⟨g2, 6, none⟩ = some (.int .i64 2) := hX.c6
      have X7 : wr.cell? ⟨g2, 7, none⟩ = some (.int .u8 4) := hX.c7
      replace S0 : wr.cell? ⟨g1, 0, none⟩ = some (.int .i64 2) := S0
      have HOF := Lib.hid (of_w ⟨#[122]⟩ 2 A n c (stXs 3) hn.symm (by rw [hn]; decide) wr hS)
      rw [of_two] at HOF
      unfold shV at HOF
      simp only at HOF
      clear hX HX HFX HFS HC HSH hFX hFS hC hS hn hnc okr
      go_wp2_with fail
      refine HOF.out.mono ?_
      rintro _ w4 ⟨rfl, o4⟩
      obtain ⟨g4, hg4⟩ : ∃ g, w4.heap.size = g := ⟨_, rfl⟩
      obtain ⟨V4, hV4⟩ : ∃ V, w4.alloc (.cells #[.string ⟨#[109]⟩, .string ⟨#[]⟩, .int .i64 2, .int .i64 2] 35) = V := ⟨_, rfl⟩
      have oV4 : Ok wr V4 := by rw [← hV4]; exact Ok.call o4 (Ok.alloc (Ok.refl w4) _)
      have Y2 : V4.cell? ⟨g4, 2, none⟩ = some (.int .i64 2) := by subst hV4; subst hg4; go_cell
      replace X0 := Ok.cell oV4 X0
      replace X1 := Ok.cell oV4 X1
      replace X2 := Ok.cell oV4 X2
      replace X3 := Ok.cell oV4 X3
      replace X4 := Ok.cell oV4 X4
      replace X5 := Ok.cell oV4 X5
      replace X6 := Ok.cell oV4 X6
      replace X7 := Ok.cell oV4 X7
      replace S0 := Ok.cell oV4 S0
      have OKF := Lib.hid (Ok.call OKR.out oV4)
      clear o4 oV4 HOF OKR
      go_wp2
      go_ret
      exact ⟨by first | rfl | simp, OKF.out⟩
end Go.Proofs.YtdabdkedgigjdaaGreat
