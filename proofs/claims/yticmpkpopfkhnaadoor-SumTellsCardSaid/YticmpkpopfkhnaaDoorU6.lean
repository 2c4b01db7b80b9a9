/- The law SumTells, walked: called at a world in which the table is as the text lays it, with any lists of bytes and any sum, it returns true, and turns nothing that was there. -/
import Derived.Test.YticmpkpopfkhnaaDoorU5
namespace Go.Proofs.YticmpkpopfkhnaaDoor
open Go.RowKit

theorem RowsIn.form {w : World} {v : Value} {ll : List (List B8)} (h : RowsIn w v ll) : ∃ A c, v = .slice A ll.length c := by
  rcases h with ⟨rfl, A, c, rfl⟩ | ⟨b, o, c, rfl, _⟩
  · exact ⟨_, _, rfl⟩
  · exact ⟨_, _, rfl⟩

set_option maxRecDepth 100000 in
set_option maxHeartbeats 2000000 in
theorem sumTells_v (W : World) (ht : Tab W) (v : Value) (ll : List (List B8)) (hr : RowsIn W v ll) (s : B32) :
    Calls Tryd.prog 3 #[v, .int .u32 (u s)] W fun e w' => e = .returned (.bool true) ∧ Below W.heap.size W w' := by
  obtain ⟨A, c, rfl⟩ := hr.form
  have HR := Lib.hid hr
  have HT := Lib.hid ht
  clear hr ht
  have HLL := Lib.hid (len_le ll)
  have HPL : Hid (∀ k, k < ll.length → (ll.getD k []).length ≤ tot ll ll.length) := Lib.hid fun k hk => part_le ll k hk
  by_cases hg : 20000 < tot ll ll.length
  · have HG : Hid (decide (20000 < tot ll ll.length) = true) := Lib.hid (decide_eq_true hg)
    clear hg
    go_enter Tryd.func3, Tryd.ntmps3
    go_wp2_with fail
    refine (great_v _ ll _ HR.out).mono ?_
    rintro e w1 ⟨rfl, rfl⟩
    rw [HG.out]
    go_wp2_with fail
    refine (awake_v _ HT.out).mono ?_
    rintro e w1 ⟨rfl, hb⟩
    have HB := Lib.hid hb
    clear hb
    go_wp2_with fail
    go_ret
    exact ⟨rfl, HB.out⟩
  · have HG : Hid (decide (20000 < tot ll ll.length) = false) := Lib.hid (decide_eq_false hg)
    have HS : Hid (tot ll ll.length ≤ 20000) := Lib.hid (Nat.le_of_not_lt hg)
    have HN : Hid (ll.length ≤ 20000) := Lib.hid (Nat.le_trans HLL.out HS.out)
    have HXL : Hid (∀ k, k < ll.length → (ll.getD k []).length ≤ 20000) := Lib.hid fun k hk => Nat.le_trans (HPL.out k hk) HS.out
    clear hg
    go_enter Tryd.func3, Tryd.ntmps3
    go_wp2_with fail
    refine (great_v _ ll _ HR.out).mono ?_
    rintro e w1 ⟨rfl, rfl⟩
    rw [HG.out]
    go_wp2_with fail
    refine (lentRows_v _ _ ll HR.out HN.out HXL.out).mono ?_
    rintro e w2 ⟨A2, c2, rfl, hlr, hok2⟩
    have HLR := Lib.hid hlr
    have HO2 := Lib.hid hok2
    clear hlr hok2
    go_wp2_with fail
    refine (sum0_v _ ll _ (HLR.out.rows HN.out HXL.out) (HO2.out.tab HT.out)).mono ?_
    rintro e w3 ⟨rfl, hb3⟩
    have HLR3 : Hid (LentRows w3 W.heap.size ll ll.length A2 ll.length c2) := Lib.hid (HLR.out.ok hb3)
    have HO3 : Hid (Ok W w3) := Lib.hid (HO2.out.call hb3)
    clear hb3
    go_wp2_with fail
    refine (rsum_v _ _ ll (HR.out.below HO3.out) HS.out).mono ?_
    rintro e w4 ⟨rfl, hb4⟩
    have HLR4 : Hid (LentRows w4 W.heap.size ll ll.length A2 ll.length c2) := Lib.hid (HLR3.out.ok hb4)
    have HO4 : Hid (Ok W w4) := Lib.hid (HO3.out.trans hb4)
    clear hb4
    generalize more 0#32 ll = m0 at *
    go_wp2_with fail
    refine (more_v s _ ll _ (HLR4.out.rows HN.out HXL.out) (HO4.out.tab HT.out)).mono ?_
    rintro e w5 ⟨rfl, hb5⟩
    have HLR5 : Hid (LentRows w5 W.heap.size ll ll.length A2 ll.length c2) := Lib.hid (HLR4.out.ok hb5)
    have HO5 : Hid (Ok W w5) := Lib.hid (HO4.out.call hb5)
    clear hb5
    go_wp2_with fail
    refine (rmore_v s _ ll _ (HR.out.below HO5.out)).mono ?_
    rintro e w6 ⟨rfl, rfl⟩
    generalize more s ll = m1 at *
    go_wp2_with fail
    refine (keptRows_v _ W.heap.size c2 _ ll A2 HLR5.out (HR.out.below HO5.out) HN.out HXL.out).mono ?_
    rintro e w7 ⟨rfl, hok7⟩
    have HO7 : Hid (Ok W w7) := Lib.hid (HO5.out.trans hok7)
    clear hok7
    go_wp2_with fail
    refine (awake_v _ (HO7.out.tab HT.out)).mono ?_
    rintro e w8 ⟨rfl, hb8⟩
    have HO8 : Hid (Ok W w8) := Lib.hid (HO7.out.call hb8)
    clear hb8
    go_wp2_with fail
    go_ret
    exact ⟨rfl, HO8.out⟩
end Go.Proofs.YticmpkpopfkhnaaDoor
