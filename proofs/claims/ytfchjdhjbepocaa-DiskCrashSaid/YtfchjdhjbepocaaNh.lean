/- The law's act: one deed, done. -/
import Derived.Test.YtfchjdhjbepocaaNg
namespace Go.Proofs.Ytfchjdhjbepocaa
open Go Go.RowKit

def Dk.actR (D : Dk) (r : Int) (d : Deed) : Dk × Int :=
  if r = 0 ∨ r = 1 then D.appR d.name d.parts.flatten else if r = 2 then ((D.syncs d.names).1, errOf (D.syncs d.names).2) else if r = 3 then D.cutR d.name d.num else if r = 4 then D.moveR d.name d.first
  else if r = 5 then ((D.rems d.names).1, errOf (D.rems d.names).2) else if r = 6 then (D.crash d.num, 0) else (D, 0)
theorem AppP.of {p mb : Nat} {S : Nat → Prop} {R : Dk × Int} {W w0 w' : World} {e : Ending} (o : Ok W w0) (h : AppP p mb S R w0 e w') : AppP p mb S R W e w' := by
  obtain ⟨rfl, pv', vs', h1, h2, h3⟩ := h
  exact ⟨rfl, pv', vs', h1, fun b e => (h2 b e).imp id (Nat.le_trans o.size), (Kp.of o).then h3 (fun _ _ e => e)⟩
theorem SyncsP.app {p mb : Nat} {D : Dk} {pv : Sl} {vs : Tb Sl} {l : List Str} {W w' : World} {e : Ending} (h : SyncsP p mb vs D l pv W e w') : AppP p mb (Blk p pv mb vs) ((D.syncs l).1, errOf (D.syncs l).2) W e w' := by
  obtain ⟨pv', rfl, h1, h2, h3⟩ := h
  refine ⟨rfl, pv', vs, h1, fun b hb => ?_, h3.mono fun j _ e => e.elim .inl fun q => .inr (.inr (.inl q))⟩
  rcases hb with e | e | e | e
  · exact .inl (.inl e)
  · exact .inl (.inr (.inl e))
  · exact (h2 b e).imp (fun q => .inr (.inr (.inl q))) id
  · exact .inl (.inr (.inr (.inr e)))
theorem RemsP.app {p mb : Nat} {D : Dk} {S : Nat → Prop} {l : List Str} {W w' : World} {e : Ending} (h : RemsP p mb S D l W e w') : AppP p mb S ((D.rems l).1, errOf (D.rems l).2) W e w' := h
theorem CrashP.app {p mb : Nat} {D' : Dk} {S : Nat → Prop} {W w' : World} {e : Ending} (h : CrashP p mb S D' W e w') : e = .returned (.tuple #[]) ∧ AppP p mb S (D', 0) W (.returned (.int .i64 0)) w' := ⟨h.1, rfl, h.2⟩
set_option maxRecDepth 100000 in
set_option maxHeartbeats 4000000 in
theorem act_f (p : Nat) (D : Dk) (pv : Sl) (mb : Nat) (vs : Tb Sl) (d : Deed) (A2 : Option Addr) (c2 : Nat) (A4 : Option Addr) (c4 : Nat) (W : World) (h : DkAt p D pv mb vs W) (hs : Small D) (hl : D.ps.length + 1 ≤ 1000000)
    (hns : TxIn (Blk p pv mb vs) W A2 d.names) (hps : PtIn (Blk p pv mb vs) W A4 d.parts) (hw : wtD d ≤ 20000) (hk1 : -9223372036854775808 ≤ d.num) (hk2 : d.num ≤ 9223372036854775807) :
    Calls Try.prog 17 #[.pointer (some ⟨p, 0, none⟩), .agg (dvals d A2 c2 A4 c4)] W (AppP p mb (Blk p pv mb vs) (D.actR (pickI d.kind 8) d) W) := by
  have HOA : Hid (Ok W (W.alloc (.cells (dvals d A2 c2 A4 c4) 38))) := Lib.hid ((Ok.refl W).alloc _)
  have HC := Lib.hid (five_new W (.int .i64 d.kind) (.string d.name) (.slice A2 d.names.length c2) (.int .i64 d.num) (.slice A4 d.parts.length c4) 38)
  obtain ⟨b, hb⟩ : ∃ b, W.heap.size = b := ⟨_, rfl⟩
  rw [hb] at HC
  have HSM := Lib.hid hs
  have HD := Lib.hid (h.ok HOA.out)
  have HT := Lib.hid (hns.kp (Kp.of HOA.out))
  have HPT := Lib.hid (hps.kp (Kp.of HOA.out))
  have HL := Lib.hid hl
  have HWD : Hid (d.names.length ≤ 20000 ∧ d.parts.length ≤ 20000 ∧ d.parts.flatten.length ≤ 20000) := Lib.hid (by unfold wtD at hw; omega)
  have HK1 := Lib.hid hk1
  have HK2 := Lib.hid hk2
  have HPR := Lib.hid (pickI_lt d.kind 8 (by omega))
  have HPI := Lib.hid (fun w => pick_f d.kind 8 (by omega) (by omega) w)
  clear h hs hl hns hps hw hk1 hk2
  unfold dvals at *
  go_enter Try.func17, Try.ntmps17
  go_upto_region 1 with fail
  clear hb
  have x0 := HC.out.1
  generalize W.alloc (.cells #[.int .i64 d.kind, .string d.name, .slice A2 d.names.length c2, .int .i64 d.num, .slice A4 d.parts.length c4] 38) = w0 at *
  go_wp2_with fail
  refine (HPI.out w0).mono ?_
  rintro _ w1 ⟨rfl, o1⟩
  have HO1 := Lib.hid o1
  have HOW := Lib.hid (HOA.out.trans o1)
  have HC1 := Lib.hid (And.intro (o1.cell HC.out.1) (And.intro (o1.cell HC.out.2.1) (And.intro (o1.cell HC.out.2.2.1) (And.intro (o1.cell HC.out.2.2.2.1) (o1.cell HC.out.2.2.2.2)))))
  clear HC x0
  have HC := HC1
  clear HC1
  have HDx := Lib.hid (HD.out.ok o1)
  have HTx := Lib.hid (HT.out.kp (Kp.of o1))
  have HPx := Lib.hid (HPT.out.kp (Kp.of o1))
  clear o1 HD HT HPT HPI HO1 HOA
  have HD := HDx
  have HT := HTx
  have HPT := HPx
  clear HDx HTx HPx
  clear w0
  obtain ⟨w0, hw0⟩ : ∃ w0, w1 = w0 := ⟨_, rfl⟩
  rw [hw0] at HOW HC HD HT HPT ⊢
  clear hw0
  have y1 := HC.out.2.1
  have y2 := HC.out.2.2.1
  have y3 := HC.out.2.2.2.1
  have y4 := HC.out.2.2.2.2
  obtain ⟨r, hr⟩ : ∃ r, pickI d.kind 8 = r := ⟨_, rfl⟩
  rw [hr] at HPR ⊢
  have HRK := Lib.hid hr
  clear hr
  have h8 : r = 0 ∨ r = 1 ∨ r = 2 ∨ r = 3 ∨ r = 4 ∨ r = 5 ∨ r = 6 ∨ r = 7 := by have := HPR.out; omega
  clear HPR
  rcases h8 with rfl | rfl | rfl | rfl | rfl | rfl | rfl | rfl
  · have hc := append_f p D pv mb vs d.name A4 d.parts.length c4 d.parts w0 HD.out HSM.out HL.out rfl (by have := HWD.out; omega) (by have := HWD.out; omega) HPT.out
    go_wp2_with fail
    refine hc.mono ?_
    clear hc
    rintro _ w2 hap
    have HAP := Lib.hid (AppP.of HOW.out hap)
    obtain ⟨rfl, -⟩ := hap
    go_wp2_with fail
    go_ret
    rw [HRK.out]
    exact HAP.out
  · have hc := append_f p D pv mb vs d.name A4 d.parts.length c4 d.parts w0 HD.out HSM.out HL.out rfl (by have := HWD.out; omega) (by have := HWD.out; omega) HPT.out
    go_wp2_with fail
    refine hc.mono ?_
    clear hc
    rintro _ w2 hap
    have HAP := Lib.hid (AppP.of HOW.out hap)
    obtain ⟨rfl, -⟩ := hap
    go_wp2_with fail
    go_ret
    rw [HRK.out]
    exact HAP.out
  · have hc := sync_f p D pv mb vs A2 d.names.length c2 d.names w0 HD.out (by have := HL.out; omega) rfl (by have := HWD.out; omega) (HT.out.mono fun j e => e.elim .inl fun q => .inr (.inr (.inl q)))
    go_wp2_with fail
    refine hc.mono ?_
    clear hc
    rintro _ w2 hap
    have HAP := Lib.hid (AppP.of HOW.out hap.app)
    obtain ⟨_, rfl, -⟩ := hap
    go_wp2_with fail
    go_ret
    rw [HRK.out]
    exact HAP.out
  · have hc := cut_f p D pv mb vs d.name d.num w0 HD.out HSM.out
    go_wp2_with fail
    refine hc.mono ?_
    clear hc
    rintro _ w2 hap
    have HAP := Lib.hid (AppP.of HOW.out hap)
    obtain ⟨rfl, -⟩ := hap
    go_wp2_with fail
    go_ret
    rw [HRK.out]
    exact HAP.out
  · go_upto_region 10 with fail
    refine Until.begin (S := fun w => Ok w0 w) (j := 5) (by kernel_rfl) ?_ ?_
    · exact (Ok.refl w0).drew
    intro hS
    have HD2 : Hid (Ok w0 w0.drew) := Lib.hid ((Ok.refl w0).drew)
    generalize w0.drew = V0 at *
    have z0 := hS.cell HC.out.1
    have z1 := hS.cell HC.out.2.1
    have z2 := hS.cell HC.out.2.2.1
    have z3 := hS.cell HC.out.2.2.2.1
    have z4 := hS.cell HC.out.2.2.2.2
    refine Until.take0 (i := 0) (oi := ⟨some 33, Op.move (Operand.tmp 0), _, _, _, _⟩) (v := ?v0) rfl (by kernel_rfl) (by kernel_rfl) (by kernel_rfl) (by kernel_rfl) (fun _ _ _ h => h) (Or.inl ⟨by rfl, ?hy0⟩) (fun _ => hS) ?rest0
    case hy0 => ((intro w hSw); clear hSw; go_simp; (try with_reducible rfl))
    try go_frame
    refine Until.take0 (i := 1) (oi := ⟨some 34, Op.fieldAddr 38 (Operand.tmp 3) 1, _, _, _, _⟩) (v := ?v1) rfl (by kernel_rfl) (by kernel_rfl) (by kernel_rfl) (by kernel_rfl) (fun _ _ _ h => h) (Or.inl ⟨by rfl, ?hy1⟩) (fun _ => hS) ?rest1
    case hy1 => ((intro w hSw); clear hSw; go_simp; (try with_reducible rfl))
    try go_frame
    refine Until.take (i := 2) (oi := ⟨some 35, Op.load 9 (Operand.tmp 34), _, _, _, _⟩) (v := ?v2) rfl (by kernel_rfl) (by kernel_rfl) (by kernel_rfl) (by kernel_rfl) (fun _ _ _ h => h) (Or.inl ⟨by rfl, ?hy2⟩) hS ?rest2
    case hy2 => ((intro w hSw; (try dsimp only at hSw)); have z0 := hSw.cell HC.out.1; have z1 := hSw.cell HC.out.2.1; have z2 := hSw.cell HC.out.2.2.1; have z3 := hSw.cell HC.out.2.2.2.1; have z4 := hSw.cell HC.out.2.2.2.2; go_simp; (try with_reducible rfl))
    try go_frame
    refine Until.one (i := 3) (by kernel_rfl) rfl (fun K hK => ?_)
    have HK := Lib.hid hK
    clear hK
    go_simp
    refine HK.out.out _ _ (fun _ => hS) (fun _ => ?_)
    clear HK K
    try go_frame
    refine Until.one (i := 4) (by kernel_rfl) rfl (fun K hK => ?_)
    have HK := Lib.hid hK
    clear hK
    go_simp
    have hfi := first_f (Blk p pv mb vs) d A2 c2 A4 c4 V0 (HT.out.kp (Kp.of hS))
    unfold dvals at hfi
    refine (hfi).mono ?_
    rintro _ V1 ⟨rfl, o4⟩
    have HO4 := Lib.hid (hS.trans o4)
    clear o4
    refine HK.out.out _ _ (fun _ => HO4.out) (fun _ => ?_)
    clear hS
    have hS := HO4.out
    clear HK K
    try go_frame
    refine Until.one (i := 5) (by kernel_rfl) rfl (fun K hK => ?_)
    have HK := Lib.hid hK
    clear hK
    go_simp
    have hre := rename_f p D pv mb vs d.name d.first V1 (HD.out.ok HO4.out) HSM.out
    refine (hre).mono ?_
    rintro _ V2 hap
    have HAP := Lib.hid (AppP.of HO4.out hap)
    obtain ⟨rfl, -⟩ := hap
    refine HK.out.out _ _ (fun h => absurd (h.symm.trans (by kernel_rfl : _ = true)) Bool.false_ne_true) (fun _ => ?_)
    clear HK K
    try go_frame
    refine Until.one (i := 6) (by kernel_rfl) rfl (fun K hK => ?_)
    have HK := Lib.hid hK
    clear hK
    go_simp
    refine HK.out.out _ _ (fun h => absurd (h.symm.trans (by kernel_rfl : _ = true)) Bool.false_ne_true) (fun _ => ?_)
    clear HK K
    try go_frame
    refine Until.done (by kernel_rfl) ?_ _
    go_wp2_with fail
    go_ret
    rw [HRK.out]
    exact AppP.of HOW.out HAP.out
  · have hc := remove_f p D pv mb vs A2 d.names.length c2 d.names w0 HD.out (by have := HL.out; omega) rfl (by have := HWD.out; omega) HT.out
    go_wp2_with fail
    refine hc.mono ?_
    clear hc
    rintro _ w2 hap
    have HAP := Lib.hid (AppP.of HOW.out hap.app)
    obtain ⟨rfl, -⟩ := hap
    go_wp2_with fail
    go_ret
    rw [HRK.out]
    exact HAP.out
  · have hc := crash_f p D pv mb vs d.num w0 HD.out HSM.out HK1.out HK2.out
    go_wp2_with fail
    refine hc.mono ?_
    clear hc
    rintro _ w2 hap
    have HAP := Lib.hid (AppP.of HOW.out hap.app.2)
    obtain ⟨rfl, -⟩ := hap
    go_wp2_with fail
    go_ret
    rw [HRK.out]
    exact HAP.out
  · go_wp2_with fail
    go_ret
    rw [HRK.out]
    exact AppP.of HOW.out ⟨rfl, pv, vs, HD.out, fun b e => .inl e, Kp.refl _ _⟩
end Go.Proofs.Ytfchjdhjbepocaa
