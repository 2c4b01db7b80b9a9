/- Rows: a table's copy. -/
import Derived.Test.YtebhcadolnjplaaSd
namespace Go.Proofs.Ytebhcadolnjplaa
open Go.RowKit

def CopyT (n : Nat) (l : List Rw) (W : World) (e : Ending) (w' : World) : Prop := ∃ q A c, e = .returned (.pointer (some ⟨q, 0, none⟩)) ∧ W.heap.size ≤ q ∧ TabY q A n c l w' ∧ Ok W w'
set_option maxRecDepth 100000 in
theorem copy_f (p : Nat) (A : Option Addr) (n c : Nat) (l : List Rw) (W : World) (h : TabAt p A n c l W) (hn : n ≤ 1000) : Calls Try.prog 91 #[.pointer (some ⟨p, 0, none⟩)] W (CopyT n l W) := by
  have hno := none85 p W h.c1
  have HT := Lib.hid h
  have HN := Lib.hid hn
  clear h hn
  go_enter Try.func91, Try.ntmps91
  go_wp2_with fail
  refine hno.mono ?_
  clear hno
  rintro _ w1 ⟨rfl, o1⟩
  have HO1 := Lib.hid o1
  clear o1
  have hnew := new44 w1
  go_wp2_with fail
  refine hnew.mono ?_
  clear hnew
  rintro _ w2 ⟨q, rfl, hq, hT2, o2⟩
  have HQ : Hid (W.heap.size ≤ q) := Lib.hid (Nat.le_trans HO1.out.size hq)
  have HT2 := Lib.hid hT2
  have HO2 : Hid (Ok W w2) := Lib.hid (HO1.out.trans o2)
  clear hq hT2 o2
  have c0 := HO2.out.cell HT.out.c0
  have hcl := clone140 0 A n c l w2 (HT.out.own.ok HO2.out) (Nat.le_trans HN.out (by decide))
  go_wp2_with fail
  refine hcl.mono ?_
  clear hcl c0
  rintro _ w3 ⟨A', c', rfl, hown, o3⟩
  have HOWN := Lib.hid hown
  have HT3 := Lib.hid (HT2.out.ok o3)
  have HO3 : Hid (Ok W w3) := Lib.hid (HO2.out.trans o3)
  clear hown o3
  have d0 := HT3.out.c0
  have f0 := HT3.out.f 0
  go_wp2_with fail
  go_ret
  have hql := HT2.out.lt
  have hown := HOWN.out
  refine ⟨q, A', c', rfl, HQ.out, ⟨World.cell?_setCell_same _ _ _ d0, ?_, ?_, ?_⟩, Below.setCell (p := ⟨q, 0, none⟩) HO3.out HQ.out _⟩
  · rw [World.cell?_setCell_other _ _ _ _ (fun e => by simp at e)]; exact HT3.out.c1
  · intro j
    rw [World.frozen?_setCell]; exact HT3.out.f j
  · exact OwnR.far ⟨hown.1, ownsRow_base hown.2 hql⟩ (Nat.lt_succ_self q) 0 _
end Go.Proofs.Ytebhcadolnjplaa
