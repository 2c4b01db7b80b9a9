/- The law DiskAppends: bytes that are the same, beginnings, the example. -/
import Derived.Test.YtfchjdhjbepocaaMp
namespace Go.Proofs.Ytfchjdhjbepocaa
open Go Go.RowKit

theorem Ok.drewN {w w' : World} (h : Ok w w') (n : Nat) : Ok w (w'.drewN n) := by
  obtain ⟨h1, h2, h3, h4, h5⟩ := h
  exact ⟨h1, h2, h3, h4, h5⟩
theorem same_cells {w : World} {v : Value} {xs : List B8} {A : Option Addr} {n c : Nat} (h : BytesIn w v xs) (hv : v = .slice A n c) (i : Nat) (hi : i < n) : n = xs.length ∧ ∃ b o, A = some ⟨b, o, none⟩ ∧ w.cell? ⟨b, o + i, none⟩ = some (.int .u8 (ub (xs.getD i 0#8))) := by
  rcases h with ⟨rfl, A', c', rfl, _⟩ | ⟨b, o, c', rfl, _, _, hc⟩
  · simp only [Value.slice.injEq] at hv; omega
  · simp only [Value.slice.injEq] at hv
    obtain ⟨rfl, rfl, rfl⟩ := hv
    exact ⟨rfl, b, o, rfl, hc i hi⟩

/-- Two lists of bytes: whether they are one. -/
def eqB (xs ys : List B8) : Bool := decide (xs = ys)
theorem take_succ_eq {xs ys : List B8} {k : Nat} (hk : xs.take k = ys.take k) (h1 : k < xs.length) (h2 : k < ys.length) (h : xs.getD k 0#8 = ys.getD k 0#8) : xs.take (k + 1) = ys.take (k + 1) := by
  rw [List.take_succ_eq_append_getElem h1, List.take_succ_eq_append_getElem h2, hk]
  simp [h1, h2] at h
  rw [h]
set_option maxRecDepth 100000 in
set_option maxHeartbeats 2000000 in
theorem sameBytes_any (va vb : Value) (xs ys : List B8) (W : World) (ha : BytesIn W va xs) (hb : BytesIn W vb ys) :
    Calls Try.prog 35 #[va, vb] W fun e w' => e = .returned (.bool (eqB xs ys)) ∧ Ok W w' := by
  obtain ⟨A, ca, rfl, hm⟩ := ha.form
  obtain ⟨B, cb, rfl, _⟩ := hb.form
  have HA := Lib.hid ha
  have HB := Lib.hid hb
  clear ha hb
  by_cases hlen : xs.length = ys.length
  · rw [← hlen]
    have HB' : Hid (BytesIn W (.slice B xs.length cb) ys) := Lib.hid (by rw [hlen]; exact HB.out)
    clear HB
    have HLEN := Lib.hid hlen
    clear hlen
    generalize hn : xs.length = n at *
    have HN := Lib.hid hn
    clear hn
    have hne : ((n : Int) != n) = false := by simp
    go_enter Try.func35, Try.ntmps35
    go_wp2_with fail
    go_loopw [5] (fun i wr => ∃ k : Nat, k ≤ n ∧ i = .int .i64 k ∧ Ok W wr ∧ xs.take k = ys.take k) (fun i _ => n - (intOf i).toNat)
    case atStart => exact ⟨0, Nat.zero_le _, rfl, Ok.refl _, rfl⟩
    case round =>
      obtain ⟨k, hk, rfl, hok, htk⟩ := hrel
      have HTK := Lib.hid htk
      clear htk
      by_cases hlt : k < n
      · obtain ⟨-, b, o, rfl, hc⟩ := same_cells HA.out rfl k hlt
        obtain ⟨-, b', o', rfl, hc'⟩ := same_cells HB'.out rfl k hlt
        have hx := hok.cell hc
        have hy := hok.cell hc'
        have HO := Lib.hid hok
        clear hc hc' hok
        have hi0 : (0 : Int) ≤ (k : Int) := Int.natCast_nonneg _
        have hi1 : (k : Int) < (n : Int) := by omega
        have HEQ := Lib.hid (ub_eq (xs.getD k 0#8) (ys.getD k 0#8))
        cases hyy : (ub (xs.getD k 0#8) == ub (ys.getD k 0#8)) with
        | true =>
          have HNX : Hid (xs.take (k + 1) = ys.take (k + 1)) := Lib.hid (take_succ_eq HTK.out (by rw [HN.out]; exact hlt) (by rw [← HLEN.out]; exact hlt) (by have h1 := HEQ.out; rw [hyy] at h1; exact eq_of_beq h1.symm))
          have hnn : (ub (xs.getD k 0#8) != ub (ys.getD k 0#8)) = false := by simp only [bne, hyy]; rfl
          generalize ub (xs.getD k 0#8) = p at *
          generalize ub (ys.getD k 0#8) = q at *
          go_wp2_with fail
          go_quiet (fail)
          go_wp2_with fail
          go_roundw
          case rel => exact ⟨k + 1, by omega, by go_num, HO.out.drewN _, HNX.out⟩
          case measure => simp [intOf]; omega
        | false =>
          have HNX : Hid (eqB xs ys = false) := Lib.hid (decide_eq_false (fun e => by subst e; simp at hyy))
          have hnn : (ub (xs.getD k 0#8) != ub (ys.getD k 0#8)) = true := by simp only [bne, hyy]; rfl
          generalize ub (xs.getD k 0#8) = p at *
          generalize ub (ys.getD k 0#8) = q at *
          go_wp2_with fail
          go_quiet (fail)
          go_wp2_with fail
          go_ret
          exact ⟨by rw [HNX.out]; rfl, HO.out.drewN _⟩
      · have hke : k = n := by omega
        subst hke
        have HE : Hid (eqB xs ys = true) := Lib.hid (decide_eq_true (by
          have h1 := HTK.out
          rwa [List.take_of_length_le (by rw [HN.out]; exact Nat.le_refl _), List.take_of_length_le (by rw [← HLEN.out]; exact Nat.le_refl _)] at h1))
        have HO := Lib.hid hok
        clear hok
        go_wp2_with fail
        go_ret
        exact ⟨by rw [HE.out]; rfl, HO.out⟩
  · have HE : Hid (eqB xs ys = false) := Lib.hid (decide_eq_false (fun e => hlen (by rw [e])))
    have hne : ((xs.length : Int) != (ys.length : Int)) = true := by simp only [bne, Bool.not_eq_true', beq_eq_false_iff_ne]; omega
    have hne2 : (xs.length != ys.length) = true := by simp only [bne, Bool.not_eq_true', beq_eq_false_iff_ne]; omega
    clear hlen
    go_enter Try.func35, Try.ntmps35
    go_wp2_with fail
    go_ret
    exact ⟨by rw [HE.out]; rfl, Ok.refl _⟩

def beginsB (xs ys : List B8) : Bool := decide (xs.length ≤ ys.length) && eqB xs (ys.take xs.length)
set_option maxRecDepth 100000 in
set_option maxHeartbeats 2000000 in
theorem begins_f (va vb : Value) (xs ys : List B8) (W : World) (ha : BytesIn W va xs) (hb : BytesIn W vb ys) :
    Calls Try.prog 34 #[va, vb] W (Ret W (.bool (beginsB xs ys))) := by
  obtain ⟨A, ca, rfl, hm⟩ := ha.form
  obtain ⟨B, cb, rfl, hm2⟩ := hb.form
  by_cases hle : xs.length ≤ ys.length
  · have HT : Hid (BytesIn W (.slice B xs.length cb) (ys.take xs.length)) := Lib.hid (by
      rcases hb with ⟨rfl, A', c', e, hA⟩ | ⟨b, o, c, e, hn, hm, hc⟩
      · have h0 : xs.length = 0 := by simpa using hle
        simp only [Value.slice.injEq] at e
        rw [h0]
        exact .inl ⟨by simp, B, cb, rfl, fun q => by rw [e.2.2]; exact hA (by rw [← e.1]; exact q)⟩
      · simp only [Value.slice.injEq] at e
        obtain ⟨rfl, -, rfl⟩ := e
        have hl : (ys.take xs.length).length = xs.length := by rw [List.length_take]; omega
        refine .inr ⟨b, o, cb, by rw [hl], by omega, by omega, fun i hi => ?_⟩
        rw [hl] at hi
        rw [hc i (by omega)]
        congr 3
        simp [List.getD_eq_getElem?_getD, hi])
    have hcap : ys.length ≤ cb := by
      rcases hb with ⟨rfl, A', c', e, hA⟩ | ⟨b, o, c, e, hn, hm, hc⟩
      · exact Nat.zero_le _
      · simp only [Value.slice.injEq] at e; omega
    have HSM := Lib.hid (sameBytes_any _ _ xs (ys.take xs.length) W ha HT.out)
    have HE : Hid (beginsB xs ys = eqB xs (ys.take xs.length)) := Lib.hid (by unfold beginsB; rw [decide_eq_true hle, Bool.true_and])
    have h1 : decide ((xs.length : Int) ≤ (ys.length : Int)) = true := decide_eq_true (by omega)
    have h2 : decide (xs.length ≤ ys.length) = true := decide_eq_true hle
    have h3 : (0 : Int) ≤ (xs.length : Int) := Int.natCast_nonneg _
    have h4 : (xs.length : Int) ≤ (cb : Int) := by omega
    clear ha hb hle hcap hm hm2
    generalize eqB xs (ys.take xs.length) = rb at *
    generalize xs.length = n at *
    generalize ys.length = m at *
    go_enter Try.func34, Try.ntmps34
    go_wp2_with fail
    refine HSM.out.mono ?_
    rintro _ w1 ⟨rfl, o1⟩
    have HO := Lib.hid o1
    clear o1
    go_wp2_with fail
    go_ret
    exact ⟨by rw [HE.out]; rfl, HO.out⟩
  · have HE : Hid (beginsB xs ys = false) := Lib.hid (by unfold beginsB; rw [decide_eq_false hle, Bool.false_and])
    have h1 : decide ((xs.length : Int) ≤ (ys.length : Int)) = false := decide_eq_false (by omega)
    have h2 : decide (xs.length ≤ ys.length) = false := decide_eq_false hle
    clear ha hb hle
    go_enter Try.func34, Try.ntmps34
    go_wp2_with fail
    go_ret
    exact ⟨by rw [HE.out]; rfl, Ok.refl _⟩
end Go.Proofs.Ytfchjdhjbepocaa
