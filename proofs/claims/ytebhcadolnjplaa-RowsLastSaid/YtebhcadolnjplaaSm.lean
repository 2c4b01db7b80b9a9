/- Rows: Take. -/
import Derived.Test.YtebhcadolnjplaaSl
namespace Go.Proofs.Ytebhcadolnjplaa
open Go.RowKit

def TakeRP (s : Sp) (p : Nat) (A : Option Addr) (n c : Nat) (l : List Rw) (W : World) (e : Ending) (w' : World) : Prop :=
  ∃ A2 n2 c2, e = .returned (.slice A2 n2 c2) ∧ OwnR w' W.heap.size A2 n2 c2 (meant s l) ∧ TabAt p A (stay s l).length c (stay s l) w' ∧ K2 p (Value.slice A n c).ownBlock W w'
set_option maxRecDepth 100000 in
set_option maxHeartbeats 4000000 in
theorem takeR_f (p : Nat) (A : Option Addr) (n c : Nat) (l : List Rw) (s : Sp) (W : World) (h : TabAt p A n c l W) (hn : n ≤ 1000) :
    Calls Try.prog 45 #[.pointer (some ⟨p, 0, none⟩), spV s] W (TakeRP s p A n c l W) := by
  obtain ⟨y, hy⟩ : ∃ y, W.heap.size = y := ⟨_, rfl⟩
  have HYC : Hid ((W.alloc (.cells #[.string s.lo, .string s.hi] 91)).cell? ⟨y, 0, none⟩ = some (.string s.lo) ∧ (W.alloc (.cells #[.string s.lo, .string s.hi] 91)).cell? ⟨y, 1, none⟩ = some (.string s.hi)) := Lib.hid (by rw [← hy]; exact two_new W _ _ _)
  have HO0 : Hid (Ok W (W.alloc (.cells #[.string s.lo, .string s.hi] 91))) := Lib.hid ((Ok.refl W).alloc _)
  have HT := Lib.hid h
  have HN := Lib.hid hn
  clear h hn
  unfold spV
  go_enter Try.func45, Try.ntmps45
  go_upto_region 1 with fail
  clear hy
  generalize W.alloc (.cells #[.string s.lo, .string s.hi] 91) = w0 at *
  have hno := none85 p w0 (HO0.out.cell HT.out.c1)
  go_wp2_with fail
  refine hno.mono ?_
  clear hno
  rintro _ w1 ⟨rfl, o1⟩
  have HO1 : Hid (Ok W w1) := Lib.hid (HO0.out.trans o1)
  have HY1 : Hid (w1.cell? ⟨y, 0, none⟩ = some (.string s.lo) ∧ w1.cell? ⟨y, 1, none⟩ = some (.string s.hi)) := Lib.hid ⟨o1.cell HYC.out.1, o1.cell HYC.out.2⟩
  have y0 := HY1.out.1
  have y1 := HY1.out.2
  clear o1 HYC HO0
  go_upto_region 3 with fail
  rename_i K0 hK0
  have HK0 := Lib.hid hK0
  clear hK0
  refine Until.begin (S := fun V => V.cell? ⟨y, 0, none⟩ = some (.string s.lo) ∧ V.cell? ⟨y, 1, none⟩ = some (.string s.hi)) (j := 4) (by kernel_rfl) ?_ ?_
  · exact ⟨(Ok.refl w1).drew.cell y0, (Ok.refl w1).drew.cell y1⟩
  intro hS
  have HD : Hid (Ok w1 w1.drew) := Lib.hid ((Ok.refl w1).drew)
  generalize w1.drew = V0 at *
  clear y0 y1
  refine Until.take0 (i := 0) (v := ?v0) rfl (by kernel_rfl) (by kernel_rfl) (by kernel_rfl) (by kernel_rfl) (fun _ _ _ h => h) (Or.inl ⟨by rfl, ?hy0⟩) (fun _ => hS) ?rest0
  case hy0 => ((intro w hSw); clear hSw; go_simp; (try with_reducible rfl))
  try go_frame
  refine Until.take0 (i := 1) (v := ?v1) rfl (by kernel_rfl) (by kernel_rfl) (by kernel_rfl) (by kernel_rfl) (fun _ _ _ h => h) (Or.inl ⟨by rfl, ?hy1⟩) (fun _ => hS) ?rest1
  case hy1 => ((intro w hSw); clear hSw; go_simp; (try with_reducible rfl))
  try go_frame
  refine Until.take0 (i := 2) (v := ?v2) rfl (by kernel_rfl) (by kernel_rfl) (by kernel_rfl) (by kernel_rfl) (fun _ _ _ h => h) (Or.inl ⟨by rfl, ?hy2⟩) (fun _ => hS) ?rest2
  case hy2 => ((intro w hSw); clear hSw; go_simp; (try with_reducible rfl))
  try go_frame
  refine Until.take (i := 3) (v := ?v3) rfl (by kernel_rfl) (by kernel_rfl) (by kernel_rfl) (by kernel_rfl) (fun _ _ _ h => h) (Or.inl ⟨by rfl, ?hy3⟩) hS ?rest3
  case hy3 => ((intro w hSw; (try dsimp only at hSw)); obtain ⟨s0, s1⟩ := hSw; go_simp; (try with_reducible rfl))
  try go_frame
  refine Until.one (i := 4) (by kernel_rfl) rfl (fun K hK => ?_)
  have HK := Lib.hid hK
  clear hK
  go_simp
  refine ((show Calls Try.prog 87 #[.agg #[.string s.lo, .string s.hi]] V0 (InP s V0) from in_f s V0)).mono ?_
  rintro _ V1 ⟨z, rfl, z0, z1, o1, zge⟩
  have HZ0 := Lib.hid z0
  have HZ1 := Lib.hid z1
  have HV1 : Hid (Ok w1 V1) := Lib.hid (HD.out.trans o1)
  have HZG := Lib.hid zge
  clear z0 z1 o1 zge
  refine HK.out.out _ _ (fun h => absurd (h.symm.trans (by kernel_rfl : _ = true)) Bool.false_ne_true) (fun _ => ?_)
  clear HK K
  try go_frame
  refine Until.one (i := 5) (by kernel_rfl) rfl (fun K hK => ?_)
  have HK := Lib.hid hK
  clear hK
  go_simp
  refine (each_f p A n c l s z V1 (HT.out.ok (HO1.out.trans HV1.out)) HN.out HZ0.out HZ1.out).mono ?_
  rintro _ V2 ⟨A2, n2, c2, rfl, hown, o2⟩
  have HOWN := Lib.hid hown
  have HO2B : Hid (Ok V1 V2) := Lib.hid o2
  have HOWB : Hid (OwnR V2 W.heap.size A2 n2 c2 (meant s l)) := Lib.hid ⟨hown.1, ownsRow_base hown.2 (HO1.out.trans HV1.out).size⟩
  have HO2 : Hid (Ok W V2) := Lib.hid ((HO1.out.trans HV1.out).trans o2)
  clear hown o2
  refine HK.out.out _ _ (fun h => absurd (h.symm.trans (by kernel_rfl : _ = true)) Bool.false_ne_true) (fun _ => ?_)
  clear HK K
  try go_frame
  refine Until.one (i := 6) (by kernel_rfl) rfl (fun K hK => ?_)
  have HK := Lib.hid hK
  clear hK
  go_simp
  refine HK.out.out _ _ (fun h => absurd (h.symm.trans (by kernel_rfl : _ = true)) Bool.false_ne_true) (fun _ => ?_)
  clear HK K
  try go_frame
  refine Until.done (by kernel_rfl) ?_ _
  refine HK0.out _ _ ?_
  clear HK0
  have HYY : Hid (V2.cell? ⟨y, 0, none⟩ = some (.string s.lo) ∧ V2.cell? ⟨y, 1, none⟩ = some (.string s.hi)) := Lib.hid (by
    have b : Ok w1 V2 := HV1.out.trans HO2B.out
    exact ⟨b.cell HY1.out.1, b.cell HY1.out.2⟩)
  have y0 := HYY.out.1
  have y1 := HYY.out.2
  clear HV1 HD HZ0 HZ1 HZG
  go_upto_region 4 with fail
  rename_i K1 hK1
  have HK1x := Lib.hid hK1
  clear hK1
  refine Until.begin (S := fun V => V.cell? ⟨y, 0, none⟩ = some (.string s.lo) ∧ V.cell? ⟨y, 1, none⟩ = some (.string s.hi)) (j := 4) (by kernel_rfl) ?_ ?_
  · exact ⟨(Ok.refl V2).drew.cell y0, (Ok.refl V2).drew.cell y1⟩
  intro hS
  have HE : Hid (Ok V2 V2.drew) := Lib.hid ((Ok.refl V2).drew)
  generalize V2.drew = U0 at *
  clear y0 y1
  refine Until.take0 (i := 0) (v := ?uv0) rfl (by kernel_rfl) (by kernel_rfl) (by kernel_rfl) (by kernel_rfl) (fun _ _ _ h => h) (Or.inl ⟨by rfl, ?ihy0⟩) (fun _ => hS) ?irest0
  case ihy0 => ((intro w hSw); clear hSw; go_simp; (try with_reducible rfl))
  try go_frame
  refine Until.take0 (i := 1) (v := ?uv1) rfl (by kernel_rfl) (by kernel_rfl) (by kernel_rfl) (by kernel_rfl) (fun _ _ _ h => h) (Or.inl ⟨by rfl, ?ihy1⟩) (fun _ => hS) ?irest1
  case ihy1 => ((intro w hSw); clear hSw; go_simp; (try with_reducible rfl))
  try go_frame
  refine Until.take0 (i := 2) (v := ?uv2) rfl (by kernel_rfl) (by kernel_rfl) (by kernel_rfl) (by kernel_rfl) (fun _ _ _ h => h) (Or.inl ⟨by rfl, ?ihy2⟩) (fun _ => hS) ?irest2
  case ihy2 => ((intro w hSw); clear hSw; go_simp; (try with_reducible rfl))
  try go_frame
  refine Until.take (i := 3) (v := ?uv3) rfl (by kernel_rfl) (by kernel_rfl) (by kernel_rfl) (by kernel_rfl) (fun _ _ _ h => h) (Or.inl ⟨by rfl, ?ihy3⟩) hS ?irest3
  case ihy3 => ((intro w hSw; (try dsimp only at hSw)); obtain ⟨s0, s1⟩ := hSw; go_simp; (try with_reducible rfl))
  try go_frame
  refine Until.one (i := 4) (by kernel_rfl) rfl (fun K hK => ?_)
  have HK := Lib.hid hK
  clear hK
  go_simp
  refine ((show Calls Try.prog 87 #[.agg #[.string s.lo, .string s.hi]] U0 (InP s U0) from in_f s U0)).mono ?_
  rintro _ V3 ⟨x, rfl, z0, z1, o1, zge⟩
  have HX0 := Lib.hid z0
  have HX1 := Lib.hid z1
  have HV3 : Hid (Ok V2 V3) := Lib.hid (HE.out.trans o1)
  have HZNE : Hid (∀ a, A = some a → x ≠ a.block) := Lib.hid (fun a e => by have := (HT.out.own.2.lt a.block (by rw [e]; rfl)).2; have := (HO2.out.trans HE.out).size; omega)
  clear z0 z1 o1 zge
  refine HK.out.out _ _ (fun h => absurd (h.symm.trans (by kernel_rfl : _ = true)) Bool.false_ne_true) (fun _ => ?_)
  clear HK K
  try go_frame
  refine Until.one (i := 5) (by kernel_rfl) rfl (fun K hK => ?_)
  have HK := Lib.hid hK
  clear hK
  go_simp
  refine (drop_f s x p A n c l V3 (HT.out.ok (HO2.out.trans HV3.out)) HN.out HX0.out HX1.out HZNE.out).mono ?_
  rintro _ V4 ⟨rfl, htab, hk2⟩
  have HTAB := Lib.hid htab
  have HK2 := Lib.hid hk2
  clear htab hk2
  refine HK.out.out _ _ (fun h => absurd (h.symm.trans (by kernel_rfl : _ = true)) Bool.false_ne_true) (fun _ => ?_)
  clear HK K
  try go_frame
  refine Until.done (by kernel_rfl) ?_ _
  refine HK1x.out _ _ ?_
  clear HK1x
  go_wp2_with fail
  go_ret
  have b3 : Ok W V3 := HO2.out.trans HV3.out
  have hW := HOWB.out
  refine ⟨A2, n2, c2, rfl, ?_, HTAB.out, ⟨HK2.out.os.trans b3.os, HK2.out.tape.trans b3.tape, HK2.out.output.trans b3.output, Nat.le_trans b3.size HK2.out.size, fun j hj h1 h2 => (HK2.out.block j (Nat.lt_of_lt_of_le hj b3.size) h1 h2).trans (b3.block j hj)⟩⟩
  refine (hW.ok HV3.out).k2 HK2.out (fun a e => ?_)
  have h1 := (hW.2.lt a.block (by rw [e]; rfl)).1
  have h2 := HT.out.lt
  refine ⟨by omega, fun q => ?_⟩
  have := (HT.out.own.2.lt a.block q.symm).2
  omega
end Go.Proofs.Ytebhcadolnjplaa
