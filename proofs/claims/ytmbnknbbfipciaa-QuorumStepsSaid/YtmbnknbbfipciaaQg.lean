/- Contracts of the law's own helpers: is it too great; have two sets one of a row in both; are two configurations the same. -/
import Derived.Test.YtmbnknbbfipciaaQf
namespace Go.Proofs.Ytmbnknbbfipciaa
open Go.RowKit

def greatB (c : Cfg) (s : List Int) : Bool := decide (40 < c.vs.length) || decide (40 < c.os.length) || decide (40 < c.ls.length) || decide (40 < c.ws.length) || decide (40 < s.length)

set_option maxRecDepth 100000 in
set_option maxHeartbeats 4000000 in
theorem great_q (v vs : Value) (c : Cfg) (s : List Int) (W : World) (h : CfgIn W v c) (hs : InI W vs s) :
    Calls Try.prog 23 #[v, vs] W fun e w' => e = .returned (.bool (greatB c s)) ∧ Ok W w' := by
  obtain ⟨A0, c0, A1, c1, A2, c2, A3, c3, rfl, h1, h2, h3, h4⟩ := h.forms
  obtain ⟨B, cb, rfl, _⟩ := hs.form
  clear h h1 h2 h3 h4 hs
  have HD : Hid (greatB c s = (decide (40 < c.vs.length) || decide (40 < c.os.length) || decide (40 < c.ls.length) || decide (40 < c.ws.length) || decide (40 < s.length))) := Lib.hid rfl
  have HOK0 : Hid (Ok W (W.alloc (.cells #[.slice A0 c.vs.length c0, .slice A1 c.os.length c1, .slice A2 c.ls.length c2, .slice A3 c.ws.length c3] 48))) := Lib.hid ((Ok.refl W).alloc _)
  generalize c.vs.length = n0 at *
  generalize c.os.length = n1 at *
  generalize c.ls.length = n2 at *
  generalize c.ws.length = n3 at *
  generalize s.length = n4 at *
  by_cases h0 : 40 < n0
  · have hd : decide (40 < n0) = true := decide_eq_true h0
    have hi : decide ((40 : Int) < (n0 : Int)) = true := decide_eq_true (by omega)
    rw [hd] at HD
    go_enter Try.func23, Try.ntmps23
    go_wp2_with fail
    go_ret
    exact ⟨by rw [HD.out]; simp, HOK0.out⟩
  have hd0 : decide (40 < n0) = false := decide_eq_false h0
  have hi0 : decide ((40 : Int) < (n0 : Int)) = false := decide_eq_false (by omega)
  rw [hd0] at HD
  by_cases h1 : 40 < n1
  · have hd : decide (40 < n1) = true := decide_eq_true h1
    have hi : decide ((40 : Int) < (n1 : Int)) = true := decide_eq_true (by omega)
    rw [hd] at HD
    go_enter Try.func23, Try.ntmps23
    go_wp2_with fail
    go_ret
    exact ⟨by rw [HD.out]; simp, HOK0.out⟩
  have hd1 : decide (40 < n1) = false := decide_eq_false h1
  have hi1 : decide ((40 : Int) < (n1 : Int)) = false := decide_eq_false (by omega)
  rw [hd1] at HD
  by_cases h2 : 40 < n2
  · have hd : decide (40 < n2) = true := decide_eq_true h2
    have hi : decide ((40 : Int) < (n2 : Int)) = true := decide_eq_true (by omega)
    rw [hd] at HD
    go_enter Try.func23, Try.ntmps23
    go_wp2_with fail
    go_ret
    exact ⟨by rw [HD.out]; simp, HOK0.out⟩
  have hd2 : decide (40 < n2) = false := decide_eq_false h2
  have hi2 : decide ((40 : Int) < (n2 : Int)) = false := decide_eq_false (by omega)
  rw [hd2] at HD
  by_cases h3 : 40 < n3
  · have hd : decide (40 < n3) = true := decide_eq_true h3
    have hi : decide ((40 : Int) < (n3 : Int)) = true := decide_eq_true (by omega)
    rw [hd] at HD
    go_enter Try.func23, Try.ntmps23
    go_wp2_with fail
    go_ret
    exact ⟨by rw [HD.out]; simp, HOK0.out⟩
  have hd3 : decide (40 < n3) = false := decide_eq_false h3
  have hi3 : decide ((40 : Int) < (n3 : Int)) = false := decide_eq_false (by omega)
  rw [hd3] at HD
  by_cases h4 : 40 < n4
  · have hd : decide (40 < n4) = true := decide_eq_true h4
    have hi : decide ((40 : Int) < (n4 : Int)) = true := decide_eq_true (by omega)
    rw [hd] at HD
    go_enter Try.func23, Try.ntmps23
    go_wp2_with fail
    go_ret
    exact ⟨by rw [HD.out]; simp, HOK0.out⟩
  have hd4 : decide (40 < n4) = false := decide_eq_false h4
  have hi4 : decide ((40 : Int) < (n4 : Int)) = false := decide_eq_false (by omega)
  rw [hd4] at HD
  go_enter Try.func23, Try.ntmps23
  go_wp2_with fail
  go_ret
  exact ⟨by rw [HD.out]; simp, HOK0.out⟩

theorem inB_take (x : Int) (l : List Int) (k : Nat) (h : k < l.length) : inB x (l.take (k + 1)) = (inB x (l.take k) || (l.getD k 0 == x)) := by
  rw [List.take_succ_eq_append_getElem h]
  have e : l.getD k 0 = l[k] := by simp [h]
  rw [e]
  generalize l.take k = t
  generalize l[k] = z
  unfold inB
  by_cases h1 : x ∈ t
  · simp [h1]
  · by_cases h2 : x = z
    · simp [h2]
    · have h3 : (z == x) = false := beq_eq_false_iff_ne.2 (fun e => h2 e.symm)
      simp [h1, h2, h3]
theorem bothB_take (l a b : List Int) (k : Nat) (h : k < l.length) : bothB (l.take (k + 1)) a b = (bothB (l.take k) a b || (inB (l.getD k 0) a && inB (l.getD k 0) b)) := by
  rw [List.take_succ_eq_append_getElem h]
  have e : l.getD k 0 = l[k] := by simp [h]
  rw [e]
  generalize l.take k = t
  generalize l[k] = z
  simp [bothB]
theorem bothB_mem (l a b : List Int) (k : Nat) (h : k < l.length) (h1 : inB (l.getD k 0) a = true) (h2 : inB (l.getD k 0) b = true) : bothB l a b = true := by
  rw [bothB, List.any_eq_true]
  exact ⟨l.getD k 0, getD_mem l k h, by rw [h1, h2]; rfl⟩

set_option maxRecDepth 100000 in
set_option maxHeartbeats 8000000 in
theorem both_q (vl va vb : Value) (l a b : List Int) (W : World) (hl : InI W vl l) (ha : InI W va a) (hb : InI W vb b) :
    Calls Try.prog 25 #[vl, va, vb] W fun e w' => e = .returned (.bool (bothB l a b)) ∧ Ok W w' := by
  obtain ⟨A0, c0, rfl, hm0⟩ := hl.form
  obtain ⟨A1, c1, rfl, hm1⟩ := ha.form
  obtain ⟨A2, c2, rfl, hm2⟩ := hb.form
  have HLL := Lib.hid hl
  have HLA := Lib.hid ha
  have HLB := Lib.hid hb
  clear hl ha hb
  generalize hn0 : l.length = n0 at *
  generalize hn1 : a.length = n1 at *
  generalize hn2 : b.length = n2 at *
  have HN0 := Lib.hid hn0
  have HN1 := Lib.hid hn1
  have HN2 := Lib.hid hn2
  clear hn0 hn1 hn2
  go_enter Try.func25, Try.ntmps25
  go_wp2_with fail
  go_loopw [7] (fun i wr => ∃ j : Nat, j ≤ n0 ∧ i = .int .i64 j ∧ Ok W wr ∧ bothB (l.take j) a b = false) (fun i _ => n0 - (intOf i).toNat)
  case atStart => exact ⟨0, Nat.zero_le _, rfl, Ok.refl _, rfl⟩
  case round =>
    obtain ⟨j, hj, rfl, hok, hbo⟩ := hrel
    have HO := Lib.hid hok
    clear hok
    by_cases hlt : j < n0
    · obtain ⟨b0, o0, rfl, hc⟩ := (HLL.out.at rfl j hlt).2
      have HCJ := Lib.hid hc
      have HT := Lib.hid (bothB_take l a b j (by rw [HN0.out]; exact hlt))
      have HM := Lib.hid (bothB_mem l a b j (by rw [HN0.out]; exact hlt))
      have HBO := Lib.hid hbo
      clear hbo hc
      generalize l.getD j 0 = y at *
      have hj0 : (0 : Int) ≤ (j : Int) := Int.natCast_nonneg _
      have hj1 : (j : Int) < (n0 : Int) := by omega
      go_wp2_with fail
      go_loopw [8, 10] (fun x i wr2 => ∃ k : Nat, k ≤ n1 ∧ i = .int .i64 k ∧ x = .bool (inB y (a.take k)) ∧ Ok W wr2) (fun _ i _ => n1 - (intOf i).toNat)
      case atStart => exact ⟨0, Nat.zero_le _, rfl, by simp [inB], HO.out⟩
      case round =>
        obtain ⟨k, hk, rfl, rfl, hok2⟩ := hrel
        have HO2 := Lib.hid hok2
        have hcj := hok2.cell HCJ.out
        clear hok2
        by_cases hlt2 : k < n1
        · obtain ⟨b1, o1, rfl, hc⟩ := (HLA.out.at rfl k hlt2).2
          have hck := HO2.out.cell hc
          have HTK := Lib.hid (inB_take y a k (by rw [HN1.out]; exact hlt2))
          clear hc
          generalize a.getD k 0 = z at *
          have hk0 : (0 : Int) ≤ (k : Int) := Int.natCast_nonneg _
          have hk1 : (k : Int) < (n1 : Int) := by omega
          cases hin : inB y (a.take k) with
          | true =>
            rw [hin] at HTK
            go_wp2_with fail
            go_quiet (fail)
            go_wp2_with fail
            go_roundw
            case rel => exact ⟨k + 1, by omega, by go_num, by rw [HTK.out]; rfl, HO2.out.drewN' _⟩
            case measure => simp [intOf]; omega
          | false =>
            rw [hin] at HTK
            go_wp2_with fail
            go_quiet (fail)
            go_wp2_with fail
            go_roundw
            case rel => exact ⟨k + 1, by omega, by go_num, by rw [HTK.out]; rfl, HO2.out.drewN' _⟩
            case measure => simp [intOf]; omega
        · have hke : k = n1 := by omega
          subst hke
          rw [show a.take k = a from List.take_of_length_le (by rw [HN1.out]; exact Nat.le_refl _)]
          clear hcj
          go_wp2_with fail
          go_loopw [9, 11] (fun x i wr3 => ∃ m : Nat, m ≤ n2 ∧ i = .int .i64 m ∧ x = .bool (inB y (b.take m)) ∧ Ok W wr3) (fun _ i _ => n2 - (intOf i).toNat)
          case atStart => exact ⟨0, Nat.zero_le _, rfl, by simp [inB], HO2.out⟩
          case round =>
            obtain ⟨m, hm, rfl, rfl, hok3⟩ := hrel
            have HO3 := Lib.hid hok3
            have hcj := hok3.cell HCJ.out
            clear hok3
            by_cases hlt3 : m < n2
            · obtain ⟨b1, o1, rfl, hc⟩ := (HLB.out.at rfl m hlt3).2
              have hck := HO3.out.cell hc
              have HTK := Lib.hid (inB_take y b m (by rw [HN2.out]; exact hlt3))
              clear hc
              generalize b.getD m 0 = z at *
              have hk0 : (0 : Int) ≤ (m : Int) := Int.natCast_nonneg _
              have hk1 : (m : Int) < (n2 : Int) := by omega
              cases hin : inB y (b.take m) with
              | true =>
                rw [hin] at HTK
                go_wp2_with fail
                go_quiet (fail)
                go_wp2_with fail
                go_roundw
                case rel => exact ⟨m + 1, by omega, by go_num, by rw [HTK.out]; rfl, HO3.out.drewN' _⟩
                case measure => simp [intOf]; omega
              | false =>
                rw [hin] at HTK
                go_wp2_with fail
                go_quiet (fail)
                go_wp2_with fail
                go_roundw
                case rel => exact ⟨m + 1, by omega, by go_num, by rw [HTK.out]; rfl, HO3.out.drewN' _⟩
                case measure => simp [intOf]; omega
            · have hme : m = n2 := by omega
              subst hme
              rw [show b.take m = b from List.take_of_length_le (by rw [HN2.out]; exact Nat.le_refl _)]
              clear hcj
              cases ha : inB y a with
              | false =>
                rw [ha, HBO.out] at HT
                go_wp2_with fail
                go_roundw
                case rel => exact ⟨j + 1, by omega, by go_num, HO3.out, by rw [HT.out]; rfl⟩
                case measure => simp [intOf]; omega
              | true =>
                cases hb : inB y b with
                | false =>
                  rw [ha, hb, HBO.out] at HT
                  go_wp2_with fail
                  go_roundw
                  case rel => exact ⟨j + 1, by omega, by go_num, HO3.out, by rw [HT.out]; rfl⟩
                  case measure => simp [intOf]; omega
                | true =>
                  have HMM := Lib.hid (HM.out ha hb)
                  go_wp2_with fail
                  go_ret
                  exact ⟨by rw [HMM.out]; rfl, HO3.out⟩
    · have hje : j = n0 := by omega
      subst hje
      have HB : Hid (bothB l a b = false) := Lib.hid (by rwa [List.take_of_length_le (by rw [HN0.out]; exact Nat.le_refl _)] at hbo)
      clear hbo
      go_wp2_with fail
      go_ret
      exact ⟨by rw [HB.out]; rfl, HO.out⟩
end Go.Proofs.Ytmbnknbbfipciaa
