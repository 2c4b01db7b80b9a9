/- A handoff that begins. -/
import Derived.Test.YtdabdkedgigjdaaGreatYf
namespace Go.Proofs.YtdabdkedgigjdaaGreat
open Go.RowKit

/-- What Begin tells. -/
def begM (ep : Int) (xs : List Sh) (num : Int) (i : Sp) (to : Int) : Int × Sc :=
  if upM 1073741824 num = false then (2, sc0) else if (turnM ep xs i to).1 = 0 then (0, ⟨num, i, (inM ep xs i).g, to, (inM ep xs i).e, 0, 1⟩) else ((turnM ep xs i to).1, sc0)
def BegP (w : World) (r : Int × Sc) : Ending → World → Prop := Ret w (.tuple #[scV r.2, .int .i64 r.1])
theorem BegP.mk {w w' : World} {k : Int} {y : Sc} {e : Ending} (he : e = .returned (.tuple #[scV y, .int .i64 k])) (ho : Ok w w') : BegP w (k, y) e w' := ⟨he, ho⟩

set_option maxRecDepth 100000 in
set_option maxHeartbeats 4000000 in
theorem begin_w (ep : Int) (A : Option Addr) (c : Nat) (xs : List Sh) (num : Int) (i : Sp) (to : Int) (hn6 : xs.length ≤ 1000) (hnc : xs.length ≤ c) (w : World) (hI : SharesAt w A xs) :
    Calls Tryz.prog 31 #[.agg #[.int .i64 ep, .slice A xs.length c], .int .i64 num, spV i, .int .i64 to] w (BegP w (begM ep xs num i to)) := by
  have HU := Lib.hid (upTo_w 1073741824 num)
  have HT := Lib.hid (fun w' (k : Ok w w') => turn_w ep A xs.length c xs i to rfl hn6 hnc w' (hI.ok k))
  have HIN := Lib.hid (fun w' (k : Ok w w') => in_w2 i ep A xs.length c xs rfl hn6 w' (hI.ok k))
  obtain ⟨ib, hib⟩ := shV_first ep xs i
  rw [hib] at HIN
  obtain ⟨Q, hQ⟩ : ∃ Q, BegP w (begM ep xs num i to) = Q := ⟨_, rfl⟩
  rw [hQ]
  unfold begM at hQ
  generalize inM ep xs i = y at HIN hQ
  obtain ⟨K, hK⟩ : ∃ K, turnM ep xs i to = K := ⟨_, rfl⟩
  rw [hK] at HT hQ
  clear hK hib hI
  generalize upM 1073741824 num = u at HU hQ
  obtain ⟨lo, hi⟩ := i
  obtain ⟨⟨yl, yh⟩, yg, ye⟩ := y
  obtain ⟨k, ys⟩ := K
  unfold TurnPost at HT
  unfold spV at HT HIN ⊢
  unfold shV at HIN
  simp only at HT HIN hQ ⊢
  have HQ := Lib.hid hQ
  obtain ⟨E, hE⟩ : ∃ E, (if k = 0 then ep + 1 else 0) = E := ⟨_, rfl⟩
  rw [hE] at HT
  obtain ⟨n, hn⟩ : ∃ n, xs.length = n := ⟨_, rfl⟩
  rw [hn] at HT HIN hn6 hnc ⊢
  obtain ⟨m, hm⟩ : ∃ m, ys.length = m := ⟨_, rfl⟩
  rw [hm] at HT
  obtain ⟨p, hp⟩ : ∃ p, w.heap.size = p := ⟨_, rfl⟩
  have hpw : w.heap.size ≤ p := by omega
  clear hE hm hn hQ
  go_enter Tryz.func31, Tryz.ntmps31
  go_wp2_with fail
  generalize hW : ((w.alloc (.cells #[.int .i64 ep, .slice A n c] 24)).alloc (.cells #[.string lo, .string hi] 26)).alloc (.cells #[.int .i64 0, .string ⟨#[]⟩, .string ⟨#[]⟩, .int .i64 0, .int .i64 0, .int .i64 0, .int .i64 0, .int .u8 0] 52) = W
  have OKV : Hid (Ok w W) := Lib.hid (by subst hW; exact Ok.alloc (Ok.alloc (Ok.alloc (Ok.refl w) _) _) _)
  have HR : Hid (Sc8 W (p + 1 + 1) sc0) := Lib.hid (by subst hW; subst hp; unfold sc0 allS; constructor <;> go_cell)
  have S0 : W.cell? ⟨p, 0, none⟩ = some (.int .i64 ep) := by subst hW; subst hp; go_cell
  have S1 : W.cell? ⟨p, 1, none⟩ = some (.slice A n c) := by subst hW; subst hp; go_cell
  have I0 : W.cell? ⟨p + 1, 0, none⟩ = some (.string lo) := by subst hW; subst hp; go_cell
  have I1 : W.cell? ⟨p + 1, 1, none⟩ = some (.string hi) := by subst hW; subst hp; go_cell
  have HFR : Hid (Fz W (p + 1 + 1) 8) := Lib.hid (by
    subst hW; subst hp; intro j hj
    obtain rfl | rfl | rfl | rfl | rfl | rfl | rfl | rfl : j = 0 ∨ j = 1 ∨ j = 2 ∨ j = 3 ∨ j = 4 ∨ j = 5 ∨ j = 6 ∨ j = 7 := by omega
    all_goals go_cell)
  clear hW
  refine (HU.out W).mono ?_
  rintro _ w1 ⟨rfl, o1⟩
  clear HU
  replace HFR := Lib.hid (HFR.out.ok HR.out.c0 o1)
  replace HR := Lib.hid (HR.out.ok o1)
  replace S0 := Ok.cell o1 S0
  replace S1 := Ok.cell o1 S1
  replace I0 := Ok.cell o1 I0
  replace I1 := Ok.cell o1 I1
  replace OKV := Lib.hid (Ok.call OKV.out o1)
  clear o1
  cases u with
  | false =>
    have HQK : Hid (BegP w (2, sc0) = Q) := Lib.hid (by have := HQ.out; rwa [if_pos rfl] at this)
    clear HQ HT HIN
    obtain ⟨R0, R1, R2, R3, R4, R5, R6, R7⟩ := HR.out
    have f0 := HFR.out 0 (by decide); have f1 := HFR.out 1 (by decide); have f2 := HFR.out 2 (by decide); have f3 := HFR.out 3 (by decide); have f4 := HFR.out 4 (by decide); have f5 := HFR.out 5 (by decide); have f6 := HFR.out 6 (by decide); have f7 := HFR.out 7 (by decide)
    unfold sc0 allS at R0 R1 R2 R3 R4 R5 R6 R7
    simp only at R0 R1 R2 R3 R4 R5 R6 R7
    go_wp2
    have B8 := HR.out.put8 sc0
    (try simp only [Exit.inBlock, Exit.then])
    change bodyPost Tryz.prog _ _ Exit.ret _ (put8 w1 (p + 1 + 1) sc0)
    obtain ⟨Z, hZ⟩ : ∃ Z, put8 w1 (p + 1 + 1) sc0 = Z := ⟨_, rfl⟩
    have OKZ : Ok w Z := by rw [← hZ]; exact Ok.put8 OKV.out (by omega)
    rw [hZ] at B8 ⊢
    obtain ⟨b0, b1, b2, b3, b4, b5, b6, b7⟩ := B8
    refine bodyPost_ret (by simp [results, Tryz.results31, go_sem, b0, b1, b2, b3, b4, b5, b6, b7]; try rfl) rfl ?_
    rw [← HQK.out]
    exact BegP.mk rfl OKZ
  | true =>
  replace HQ : Hid (BegP w (if k = 0 then (0, ⟨num, ⟨lo, hi⟩, yg, to, ye, 0, 1⟩) else (k, sc0)) = Q) := Lib.hid (by have := HQ.out; rwa [if_neg (by decide)] at this)
  go_wp2_with fail
  refine (HT.out w1 OKV.out).mono ?_
  rintro _ w2 ⟨A1, c1, rfl, _, o2⟩
  clear HT
  obtain ⟨q, hq⟩ : ∃ q, w2.heap.size = q := ⟨_, rfl⟩
  obtain ⟨V, hV⟩ : ∃ V, w2.alloc (.cells #[.int .i64 E, .slice A1 m c1] 24) = V := ⟨_, rfl⟩
  have oV : Ok w1 V := by rw [← hV]; exact Ok.call o2 (Ok.alloc (Ok.refl w2) _)
  replace HFR := Lib.hid (HFR.out.ok HR.out.c0 oV)
  replace HR := Lib.hid (HR.out.ok oV)
  replace S0 := Ok.cell oV S0
  replace S1 := Ok.cell oV S1
  replace I0 := Ok.cell oV I0
  replace I1 := Ok.cell oV I1
  replace OKV := Lib.hid (Ok.call OKV.out oV)
  clear oV o2
  by_cases hk : k = 0
  · have HQK : Hid (BegP w (0, ⟨num, ⟨lo, hi⟩, yg, to, ye, 0, 1⟩) = Q) := Lib.hid (by have := HQ.out; rwa [if_pos hk] at this)
    clear HQ
    subst hk
    go_wp2_with fail
    refine (HIN.out V OKV.out).mono ?_
    rintro _ w3 ⟨rfl, o3⟩
    clear HIN
    obtain ⟨q2, hq2⟩ : ∃ q2, w3.heap.size = q2 := ⟨_, rfl⟩
    obtain ⟨V2, hV2⟩ : ∃ V2, w3.alloc (.cells #[.string yl, .string yh, .int .i64 yg, .int .i64 ye] 35) = V2 := ⟨_, rfl⟩
    have oV2 : Ok V V2 := by rw [← hV2]; exact Ok.call o3 (Ok.alloc (Ok.refl w3) _)
    have Y2 : V2.cell? ⟨q2, 2, none⟩ = some (.int .i64 yg) := by subst hV2; subst hq2; go_cell
    have Y3 : V2.cell? ⟨q2, 3, none⟩ = some (.int .i64 ye) := by subst hV2; subst hq2; go_cell
    replace HFR := Lib.hid (HFR.out.ok HR.out.c0 oV2)
    replace HR := Lib.hid (HR.out.ok oV2)
    replace S0 := Ok.cell oV2 S0
    replace S1 := Ok.cell oV2 S1
    replace I0 := Ok.cell oV2 I0
    replace I1 := Ok.cell oV2 I1
    replace OKV := Lib.hid (Ok.call OKV.out oV2)
    clear oV2 o3
    obtain ⟨R0, R1, R2, R3, R4, R5, R6, R7⟩ := HR.out
    have f0 := HFR.out 0 (by decide); have f1 := HFR.out 1 (by decide); have f2 := HFR.out 2 (by decide); have f3 := HFR.out 3 (by decide); have f4 := HFR.out 4 (by decide); have f5 := HFR.out 5 (by decide); have f6 := HFR.out 6 (by decide); have f7 := HFR.out 7 (by decide)
    unfold sc0 allS at R0 R1 R2 R3 R4 R5 R6 R7
    simp only at R0 R1 R2 R3 R4 R5 R6 R7
    go_wp2
    have B8 := HR.out.put8 ⟨num, ⟨lo, hi⟩, yg, to, ye, 0, 1⟩
    (try simp only [Exit.inBlock, Exit.then])
    change bodyPost Tryz.prog _ _ Exit.ret _ (put8 V2 (p + 1 + 1) ⟨num, ⟨lo, hi⟩, yg, to, ye, 0, 1⟩)
    obtain ⟨Z, hZ⟩ : ∃ Z, put8 V2 (p + 1 + 1) ⟨num, ⟨lo, hi⟩, yg, to, ye, 0, 1⟩ = Z := ⟨_, rfl⟩
    have OKZ : Ok w Z := by rw [← hZ]; exact Ok.put8 OKV.out (by omega)
    rw [hZ] at B8 ⊢
    obtain ⟨b0, b1, b2, b3, b4, b5, b6, b7⟩ := B8
    refine bodyPost_ret (by simp [results, Tryz.results31, go_sem, b0, b1, b2, b3, b4, b5, b6, b7]; try rfl) rfl ?_
    rw [← HQK.out]
    exact BegP.mk rfl OKZ
  · have HQK : Hid (BegP w (k, sc0) = Q) := Lib.hid (by have := HQ.out; rwa [if_neg hk] at this)
    have dk : (k != 0) = true := by simp [hk]
    clear HQ HIN hk
    obtain ⟨R0, R1, R2, R3, R4, R5, R6, R7⟩ := HR.out
    have f0 := HFR.out 0 (by decide); have f1 := HFR.out 1 (by decide); have f2 := HFR.out 2 (by decide); have f3 := HFR.out 3 (by decide); have f4 := HFR.out 4 (by decide); have f5 := HFR.out 5 (by decide); have f6 := HFR.out 6 (by decide); have f7 := HFR.out 7 (by decide)
    unfold sc0 allS at R0 R1 R2 R3 R4 R5 R6 R7
    simp only at R0 R1 R2 R3 R4 R5 R6 R7
    go_wp2
    have B8 := HR.out.put8 sc0
    (try simp only [Exit.inBlock, Exit.then])
    change bodyPost Tryz.prog _ _ Exit.ret _ (put8 V (p + 1 + 1) sc0)
    obtain ⟨Z, hZ⟩ : ∃ Z, put8 V (p + 1 + 1) sc0 = Z := ⟨_, rfl⟩
    have OKZ : Ok w Z := by rw [← hZ]; exact Ok.put8 OKV.out (by omega)
    rw [hZ] at B8 ⊢
    obtain ⟨b0, b1, b2, b3, b4, b5, b6, b7⟩ := B8
    refine bodyPost_ret (by simp [results, Tryz.results31, go_sem, b0, b1, b2, b3, b4, b5, b6, b7]; try rfl) rfl ?_
    rw [← HQK.out]
    exact BegP.mk rfl OKZ
end Go.Proofs.YtdabdkedgigjdaaGreat
