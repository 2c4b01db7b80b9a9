/- Rows: the rows of a table that a span has. -/
import Derived.Test.YtebhcadolnjplaaSg
namespace Go.Proofs.Ytebhcadolnjplaa
open Go.RowKit

set_option maxRecDepth 100000 in
set_option maxHeartbeats 4000000 in
theorem inR_f (p : Nat) (A : Option Addr) (n c : Nat) (l : List Rw) (s : Sp) (W : World) (h : TabAt p A n c l W) (hn : n ≤ 1000) :
    Calls Try.prog 47 #[.pointer (some ⟨p, 0, none⟩), spV s] W (ListP (meant s l) W) := by
  obtain ⟨y, hy⟩ : ∃ y, W.heap.size = y := ⟨_, rfl⟩
  have HYC : Hid ((W.alloc (.cells #[.string s.lo, .string s.hi] 91)).cell? ⟨y, 0, none⟩ = some (.string s.lo) ∧ (W.alloc (.cells #[.string s.lo, .string s.hi] 91)).cell? ⟨y, 1, none⟩ = some (.string s.hi)) := Lib.hid (by rw [← hy]; exact two_new W _ _ _)
  have HO0 : Hid (Ok W (W.alloc (.cells #[.string s.lo, .string s.hi] 91))) := Lib.hid ((Ok.refl W).alloc _)
  have HT := Lib.hid h
  have HN := Lib.hid hn
  clear h hn
  unfold spV
  go_enter Try.func47, Try.ntmps47
  go_upto_region 1 with fail
  clear hy
  generalize W.alloc (.cells #[.string s.lo, .string s.hi] 91) = w0 at *
  have hno := none85 p w0 (HO0.out.cell HT.out.c1)
  go_wp2_with fail
  refine hno.mono ?_
  clear hno
  rintro _ w1 ⟨rfl, o1⟩
  have HO1 : Hid (Ok W w1) := Lib.hid (HO0.out.trans o1)
  have y0 := o1.cell HYC.out.1
  have y1 := o1.cell HYC.out.2
  clear o1 HYC HO0
  go_upto_region 3 with fail
  rename_i K0 hK0
  have HK0 := Lib.hid hK0
  clear hK0
  refine Until.begin (S := fun V => V.cell? ⟨y, 0, none⟩ = some (.string s.lo) ∧ V.cell? ⟨y, 1, none⟩ = some (.string s.hi)) (j := 4) (by kernel_rfl) ?_ ?_
  · exact ⟨(Ok.refl w1).drew.cell y0, (Ok.refl w1).drew.cell y1⟩
  intro hS
  have HD : Hid (Ok w1 w1.drew) := Lib.hid ((Ok.refl w1).drew)
  generalize w1.drew = V0 at *
  clear y0 y1
  refine Until.take0 (i := 0) (v := ?v0) rfl (by kernel_rfl) (by kernel_rfl) (by kernel_rfl) (by kernel_rfl) (fun _ _ _ h => h) (Or.inl ⟨by rfl, ?hy0⟩) (fun _ => hS) ?rest0
  case hy0 => ((intro w hSw); clear hSw; go_simp; (try with_reducible rfl))
  try go_frame
  refine Until.take0 (i := 1) (v := ?v1) rfl (by kernel_rfl) (by kernel_rfl) (by kernel_rfl) (by kernel_rfl) (fun _ _ _ h => h) (Or.inl ⟨by rfl, ?hy1⟩) (fun _ => hS) ?rest1
  case hy1 => ((intro w hSw); clear hSw; go_simp; (try with_reducible rfl))
  try go_frame
  refine Until.take0 (i := 2) (v := ?v2) rfl (by kernel_rfl) (by kernel_rfl) (by kernel_rfl) (by kernel_rfl) (fun _ _ _ h => h) (Or.inl ⟨by rfl, ?hy2⟩) (fun _ => hS) ?rest2
  case hy2 => ((intro w hSw); clear hSw; go_simp; (try with_reducible rfl))
  try go_frame
  refine Until.take (i := 3) (v := ?v3) rfl (by kernel_rfl) (by kernel_rfl) (by kernel_rfl) (by kernel_rfl) (fun _ _ _ h => h) (Or.inl ⟨by rfl, ?hy3⟩) hS ?rest3
  case hy3 => ((intro w hSw; (try dsimp only at hSw)); obtain ⟨s0, s1⟩ := hSw; go_simp; (try with_reducible rfl))
  try go_frame
  refine Until.one (i := 4) (by kernel_rfl) rfl (fun K hK => ?_)
  have HK := Lib.hid hK
  clear hK
  go_simp
  refine ((show Calls Try.prog 87 #[.agg #[.string s.lo, .string s.hi]] V0 (InP s V0) from in_f s V0)).mono ?_
  rintro _ V1 ⟨z, rfl, z0, z1, o1, zge⟩
  have HZ0 := Lib.hid z0
  have HZ1 := Lib.hid z1
  have HV1 : Hid (Ok w1 V1) := Lib.hid (HD.out.trans o1)
  have HZG := Lib.hid zge
  clear z0 z1 o1 zge
  refine HK.out.out _ _ (fun h => absurd (h.symm.trans (by kernel_rfl : _ = true)) Bool.false_ne_true) (fun _ => ?_)
  clear HK K
  try go_frame
  refine Until.one (i := 5) (by kernel_rfl) rfl (fun K hK => ?_)
  have HK := Lib.hid hK
  clear hK
  go_simp
  refine (each_f p A n c l s z V1 (HT.out.ok (HO1.out.trans HV1.out)) HN.out HZ0.out HZ1.out).mono ?_
  rintro _ V2 ⟨A2, n2, c2, rfl, hown, o2⟩
  have HOWN := Lib.hid hown
  have HO2 := Lib.hid o2
  clear hown o2
  refine HK.out.out _ _ (fun h => absurd (h.symm.trans (by kernel_rfl : _ = true)) Bool.false_ne_true) (fun _ => ?_)
  clear HK K
  try go_frame
  refine Until.one (i := 6) (by kernel_rfl) rfl (fun K hK => ?_)
  have HK := Lib.hid hK
  clear hK
  go_simp
  refine HK.out.out _ _ (fun h => absurd (h.symm.trans (by kernel_rfl : _ = true)) Bool.false_ne_true) (fun _ => ?_)
  clear HK K
  try go_frame
  refine Until.done (by kernel_rfl) ?_ _
  refine HK0.out _ _ ?_
  clear HK0
  go_wp2_with fail
  go_ret
  have b1 : Ok W V1 := HO1.out.trans HV1.out
  exact ⟨A2, n2, c2, rfl, ⟨HOWN.out.1, ownsRow_base HOWN.out.2 b1.size⟩, b1.trans HO2.out⟩
end Go.Proofs.Ytebhcadolnjplaa
