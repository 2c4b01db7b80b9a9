/- The look at how much there is: true just where lists and bytes together are more than 20000. -/
import Derived.Test.YticmpkpopfkhnaaDoorA
namespace Go.Proofs.YticmpkpopfkhnaaDoor
open Go.RowKit

/-- How much: the lists, and the bytes of the first k of them. -/
def tot (ll : List (List B8)) : Nat → Nat
  | 0 => ll.length
  | k + 1 => tot ll k + (ll.getD k []).length
theorem tot_mono (ll : List (List B8)) (k : Nat) : tot ll k ≤ tot ll (k + 1) := by rw [tot]; omega
theorem tot_le (ll : List (List B8)) (k j : Nat) : tot ll k ≤ tot ll (k + j) := by
  induction j with
  | zero => exact Nat.le_refl _
  | succ j ih => exact Nat.le_trans ih (tot_mono ll (k + j))
def SayB (b : Bool) (w : World) (e : Ending) (w' : World) : Prop := e = .returned (.bool b) ∧ w = w'

/-- A list of bytes, laid open. -/
theorem BytesIn.form {w : World} {v : Value} {xs : List B8} (h : BytesIn w v xs) : ∃ A c, v = .slice A xs.length c ∧ xs.length ≤ 140737488351232 := by
  rcases h with ⟨rfl, A, c, rfl, _⟩ | ⟨b, o, c, rfl, hm, _⟩
  · exact ⟨_, _, rfl, by simp⟩
  · exact ⟨_, _, rfl, hm⟩

set_option maxHeartbeats 1000000 in
theorem great_v (v : Value) (ll : List (List B8)) (W : World) (hr : RowsIn W v ll) :
    Calls Tryd.prog 7 #[v] W fun e w' => e = .returned (.bool (decide (20000 < tot ll ll.length))) ∧ W = w' := by
  rcases hr with ⟨rfl, A0, c0, rfl⟩ | ⟨b, o, c, rfl, hm, hc⟩
  · go_enter Tryd.func7, Tryd.ntmps7
    go_wp2_with fail
    refine wp_loop_rounds 1 ?_
    rw [rounds_succ]
    go_wp2_with fail
    go_ret
    exact ⟨rfl, rfl⟩
  · have HC := Lib.hid hc
    clear hc
    have HT0 : Hid (tot ll 0 = ll.length) := Lib.hid rfl
    generalize hn : ll.length = n at *
    have HN := Lib.hid hn
    clear hn
    go_enter Tryd.func7, Tryd.ntmps7
    go_wp2_with fail
    go_loop [3, 4] (fun x i => ∃ k : Nat, k ≤ n ∧ i = .int .i64 k ∧ x = .int .i64 (tot ll k) ∧ tot ll k ≤ 140737488400000) (fun _ i => n - (intOf i).toNat)
    case atStart => exact ⟨0, Nat.zero_le _, rfl, by rw [HT0.out], by rw [HT0.out]; omega⟩
    case round =>
      obtain ⟨k, hk, rfl, rfl, hkm⟩ := hrel
      by_cases hlt : k < n
      · by_cases hsm : tot ll k ≤ 20000
        · obtain ⟨x, hx, hbx⟩ := HC.out k hlt
          obtain ⟨A, c', rfl, hxm⟩ := hbx.form
          clear hbx
          have HS : Hid (tot ll (k + 1) = tot ll k + (ll.getD k []).length) := Lib.hid rfl
          generalize (ll.getD k []).length = m at *
          generalize tot ll k = t at *
          have hd1 : decide ((k : Int) < n) = true := decide_eq_true (by omega)
          have hd2 : decide ((t : Int) ≤ 20000) = true := decide_eq_true (by omega)
          go_wp2_with fail
          go_round
          case rel => exact ⟨k + 1, by omega, by go_num, by rw [HS.out]; go_num, by rw [HS.out]; omega⟩
          case measure => simp [intOf]; omega
        · have HF : Hid (20000 < tot ll n) := Lib.hid (by have := tot_le ll k (n - k); rw [show k + (n - k) = n from by omega] at this; omega)
          generalize tot ll k = t at *
          have hd1 : decide ((k : Int) < n) = true := decide_eq_true (by omega)
          have hd2 : decide ((t : Int) ≤ 20000) = false := decide_eq_false (by omega)
          go_wp2_with fail
          go_ret
          exact ⟨congrArg (fun b => Ending.returned (.bool b)) (by rw [decide_eq_true HF.out]; simp; omega), rfl⟩
      · have hke : k = n := by omega
        subst hke
        generalize ht : tot ll k = t at *
        have HT := Lib.hid ht
        clear ht
        go_wp2_with fail
        go_ret
        exact ⟨congrArg (fun b => Ending.returned (.bool b)) (by rw [HT.out, decide_eq_decide]; omega), rfl⟩
end Go.Proofs.YticmpkpopfkhnaaDoor
