/- The rows of numbers that the closed law makes: some row or other. -/
import Derived.Test.YtolfdncmlfnbdaaUl
namespace Go.Proofs.Ytolfdncmlfnbdaa
open Go.RowKit

/-- Some row of numbers comes out. -/
def RowAny (W : World) (e : Ending) (w' : World) : Prop := ∃ A n c xs, e = .returned (.slice A n c) ∧ InI w' (.slice A n c) xs ∧ Ok W w'

set_option maxRecDepth 100000 in
set_option maxHeartbeats 2000000 in
theorem rowAny_w (b : Int) (W : World) : Calls Try.prog 61 #[.int .i64 b] W (RowAny W) := by
  go_enter Try.func61, Try.ntmps61
  go_wp2_with fail
  go_loopw [3, 4] (fun o i wr => ∃ (k : Nat) (xs : List Int) (A : Option Addr) (n c : Nat), k ≤ 4 ∧ i = .int .i64 k ∧ o = .slice A n c ∧ xs.length ≤ k ∧ OwnZ wr W.heap.size (.slice A n c) xs ∧ Ok W wr) (fun _ i _ => 4 - (intOf i).toNat)
  case atStart => exact ⟨0, [], none, 0, 0, Nat.zero_le _, rfl, rfl, Nat.le_refl _, OwnZ.nil _ _, Ok.refl _⟩
  case round =>
    obtain ⟨k, xs, A, n, c, hk, rfl, rfl, hxk, hown, hok⟩ := hrel
    have HO := Lib.hid hown
    have HK := Lib.hid hok
    have HXK := Lib.hid hxk
    clear hown hok hxk
    by_cases hlt : k < 4
    · have hi0 : (0 : Int) ≤ (k : Int) := Int.natCast_nonneg _
      have hi1 : (k : Int) < 4 := by omega
      have hd : decide ((k : Int) < 4) = true := decide_eq_true hi1
      have HNEW := Lib.hid (one_int wr ((k : Int) + 1))
      have HOW := Lib.hid (HO.out.al (.cells #[.int .i64 ((k : Int) + 1)] 3))
      have HKA : Hid (Ok W (wr.alloc (.cells #[.int .i64 ((k : Int) + 1)] 3))) := Lib.hid (HK.out.alloc _)
      obtain ⟨t, ht⟩ : ∃ t, (bits .and .i64 (b / 2 ^ k) 1 == 1) = t := ⟨_, rfl⟩
      cases t with
      | true =>
        go_wp2_with (at_builtin; go_must (refine wpList_appZ rfl (.tmp 15) (.tmp 18) rfl W.heap.size (.slice A n c) xs [(k : Int) + 1] (.slice (some ⟨wr.heap.size, 0, none⟩) 1 1) rfl rfl HOW.out HNEW.out (by have := HXK.out; simp; omega) HKA.out.size ?_; intro A' c' w2 hown2 hbel2; have HOWN2 := Lib.hid hown2; have HBEL2 : Hid (Ok W w2) := Lib.hid (Below.trans HKA.out hbel2); clear hown2 hbel2))
        go_roundw
        case rel => exact ⟨k + 1, xs ++ [(k : Int) + 1], A', _, c', by omega, by go_num, rfl, by have := HXK.out; simp; omega, HOWN2.out, HBEL2.out⟩
        case measure => simp [intOf]; omega
      | false =>
        go_wp2_with fail
        go_roundw
        case rel => exact ⟨k + 1, xs, A, n, c, by omega, by go_num, rfl, by have := HXK.out; omega, HO.out, HK.out⟩
        case measure => simp [intOf]; omega
    · have hke : k = 4 := by omega
      subst hke
      go_wp2_with fail
      go_ret
      exact ⟨A, n, c, xs, rfl, HO.out.ints (by have := HXK.out; omega), HK.out⟩
end Go.Proofs.Ytolfdncmlfnbdaa
