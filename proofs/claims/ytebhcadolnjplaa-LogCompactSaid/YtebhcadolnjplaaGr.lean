/- The guard awake: the document's example. -/
import Derived.Test.YtebhcadolnjplaaGq
namespace Go.Proofs.Ytebhcadolnjplaa
open Go.RowKit

set_option maxRecDepth 100000 in
set_option maxHeartbeats 4000000 in
theorem awake_f (W : World) : Calls Try.prog 10 #[] W (Ret W (.bool true)) := by
  have hnew := new_f 5 2 ⟨none, 0, 0, none, 0, 0, none, 0, 0, none, 0, 0⟩ ⟨[], [], [], []⟩ W ⟨InI.nil W, InI.nil W, InI.nil W, InI.nil W⟩ ⟨Nat.zero_le _, Nat.zero_le _, Nat.zero_le _, Nat.zero_le _⟩ (by decide) (by decide) (by decide)
  go_enter Try.func10, Try.ntmps10
  go_wp2_with fail
  refine hnew.mono ?_
  clear hnew
  rintro _ w1 ⟨p, s, rfl, hp, ok, hl⟩
  have HL1 : Hid (LogAt (Sof NoB (LG.new p 5 2 s)) (LG.new p 5 2 s) w1) := Lib.hid (hl NoB)
  have HO1 := Lib.hid ok
  have HP := Lib.hid hp
  clear hl ok hp
  have hen := entry_f 2 w1
  go_wp2_with fail
  refine hen.mono ?_
  clear hen
  rintro _ w2 ⟨rfl, ok⟩
  have HL2 := Lib.hid (HL1.out.ok ok)
  have HO2 : Hid (Ok W w2) := Lib.hid (HO1.out.trans ok)
  clear ok HL1 HO1
  have hput := ex_put p s w2 HL2.out
  go_wp2_with fail
  refine hput.mono ?_
  clear hput
  rintro _ w3 ⟨rfl, L1, hg⟩
  have HG := Lib.hid hg
  have HW3 : Hid (Kp (fun b => W.heap.size ≤ b) W w3) := Lib.hid ((Kp.of HO2.out).then hg.kp fun j hj hb => by
    rcases hb with rfl | ⟨a, ha, _⟩ | ⟨a, ha, _⟩
    · exact HP.out
    · cases ha
    · cases ha)
  have HPL : Hid (L1.p = p) := Lib.hid hg.ext.p
  have HLO : Hid (∀ b, Ow L1.p L1.AE L1.AC b → W.heap.size ≤ b) := Lib.hid fun b hb => by
    rcases hg.new b hb with (rfl | ⟨a, ha, _⟩ | ⟨a, ha, _⟩) | q
    · exact HP.out
    · cases ha
    · cases ha
    · exact Nat.le_trans HO2.out.size q
  clear hg HO2 HL2 HP
  have hen := entry_f 3 w3
  go_wp2_with fail
  refine hen.mono ?_
  clear hen
  rintro _ w4 ⟨rfl, ok⟩
  have HW4 := Lib.hid (HW3.out.ok ok)
  have htk := ex_take L1 w4 (HG.out.log.ok ok) HG.out.ext.i HG.out.ext.es HG.out.ext.xs
  rw [HPL.out] at htk
  clear ok HW3
  go_wp2_with fail
  refine htk.mono ?_
  clear htk
  rintro _ w5 ⟨rfl, L2, ht⟩
  have HW5 : Hid (Kp (fun b => W.heap.size ≤ b) W w5) := Lib.hid (HW4.out.then ht.kp fun j _ hb => HLO.out j hb)
  have HT := Lib.hid ht
  have hP2 : L2.p = p := ht.p.trans HPL.out
  have hi2 : L2.i = 5 := ht.i.trans HG.out.ext.i
  have he2 : L2.es = [enT 3] := ht.es
  have hterm := term_f (Sof NoB L2) L2 6 w5 ht.log
  have htb : termB L2 6 = (3, true) := by
    simp only [termB, hi2, hasB, he2]
    rfl
  rw [htb, hP2] at hterm
  have HL : Hid (∀ w6, Ok w5 w6 → Calls Try.prog 18 #[.pointer (some ⟨p, 0, none⟩)] w6 (Ret w6 (.int .i64 6))) := Lib.hid fun w6 o => by
    have := lastM_f (Sof NoB L2) L2 w6 (ht.log.ok o)
    rw [hP2, hi2, he2] at this
    exact this
  clear ht htb hP2 hi2 he2 HW4 HG HPL HLO HT
  go_wp2_with fail
  refine hterm.mono ?_
  clear hterm
  rintro _ w6 ⟨rfl, ok⟩
  have hl := HL.out w6 ok
  have HW6 := Lib.hid (HW5.out.ok ok)
  clear ok HL HW5
  go_wp2_with fail
  refine hl.mono ?_
  clear hl
  rintro _ w7 ⟨rfl, ok⟩
  have HW7 := Lib.hid (HW6.out.ok ok)
  clear ok HW6
  go_wp2_with fail
  go_ret
  exact ⟨rfl, HW7.out.below (Nat.le_refl _) (fun j h => h)⟩
end Go.Proofs.Ytebhcadolnjplaa
