/- The contract of the reader's texts; two lists of bytes looked at: whether they are the same. -/
import Derived.Test.YtmbnknbbfipciaaWe
import Derived.Laws.BytesArg
namespace Go.Proofs.Ytmbnknbbfipciaa
open Go.RowKit

/-- The text of these bytes. -/
def strS (l : List B8) : ByteArray := strOfNums (l.map ub)
theorem ofStr_strS (l : List B8) : ofStr (strS l) = l := by
  unfold ofStr strS
  rw [strOfNums_data, List.map_map, List.map_map]
  conv => rhs; rw [← List.map_id l]
  apply List.map_congr_left
  intro b _
  simp only [Function.comp, ub, id]
  have := b.isLt
  apply BitVec.eq_of_toNat_eq
  simp
theorem strS_ofStr (s : ByteArray) : strS (ofStr s) = s := by
  unfold ofStr strS strOfNums
  apply ByteArray.ext
  apply Array.toList_inj.1
  rw [List.map_map, List.map_map]
  simp only [List.toList_toArray]
  conv => rhs; rw [← List.map_id s.data.toList]
  apply List.map_congr_left
  intro b _
  simp only [Function.comp, ub, id]
  have := b.toNat_lt
  apply UInt8.toNat_inj.1
  simp
theorem strS_eq (l : List B8) (s : ByteArray) : strS l = s ↔ l = ofStr s :=
  ⟨fun h => by rw [← h, ofStr_strS], fun h => by rw [h, strS_ofStr]⟩

theorem conv_bytes {w : World} {V : Value} {bs : List B8} (h : BytesIn w V bs) : (convert 27 9 V).run Try.prog w = .ok (.string (strS bs)) w := by
  rcases h with ⟨rfl, A, c, rfl, hA⟩ | ⟨b, o, c, rfl, hn, hm, hc⟩
  · cases A with
    | none => exact run_convert_bytes_nil w 27 5 Try.underlying27 Try.underlying5 0 c 9 Try.underlying9
    | some a =>
      rw [run_convert_bytes_string w 27 9 5 _ 0 c Try.underlying27 Try.underlying5 Try.underlying9, run_bytesToString w a 0 c [] rfl]
      rfl
  · refine run_convert_bytes_arg w 27 5 Try.underlying27 Try.underlying5 b o bs.length c (bs.map ub) (by simp) (fun i hi => ?_) 9 Try.underlying9
    rw [hc i hi]
    simp [hi]

set_option maxRecDepth 100000 in
set_option maxHeartbeats 2000000 in
theorem text_r (W0 : World) (g : Nat) (w : World) (xs : List B8) (m : Nat) (hm : m ≤ 20000) (h : Rd W0 g w xs false) :
    Calls Try.prog 40 #[.pointer (some ⟨g, 0, none⟩), .int .i64 (m : Int)] w (RdQ W0 g (.string (strS (rowOf m xs).1)) (rowOf m xs).2.1 (rowOf m xs).2.2) := by
  have HR := Lib.hid h
  clear h
  go_enter Try.func40, Try.ntmps40
  go_wp2_with fail
  refine (dead_r W0 g w _ false HR.out).mono ?_
  rintro e w' ⟨rfl, rfl⟩
  go_wp2_with fail
  refine (prow_r W0 g w xs m hm HR.out).mono ?_
  rintro e w1 ⟨V, hV, rfl, hr1⟩
  generalize (rowOf m xs).1 = bs at *
  generalize (rowOf m xs).2.1 = ys at *
  generalize (rowOf m xs).2.2 = f at *
  have HR1 := Lib.hid hr1
  have hcv := conv_bytes (hr1.2.1.bytes hV)
  clear hV hr1
  go_wp2_with fail
  go_ret
  exact ⟨rfl, HR1.out⟩

/-- Two lists of bytes: whether they are one. -/
def eqB (xs ys : List B8) : Bool := decide (xs = ys)
theorem take_succ_eq {xs ys : List B8} {k : Nat} (hk : xs.take k = ys.take k) (h1 : k < xs.length) (h2 : k < ys.length) (h : xs.getD k 0#8 = ys.getD k 0#8) : xs.take (k + 1) = ys.take (k + 1) := by
  rw [List.take_succ_eq_append_getElem h1, List.take_succ_eq_append_getElem h2, hk]
  simp [h1, h2] at h
  rw [h]
set_option maxRecDepth 100000 in
set_option maxHeartbeats 2000000 in
theorem sameBytes_any (va vb : Value) (xs ys : List B8) (W : World) (ha : BytesIn W va xs) (hb : BytesIn W vb ys) :
    Calls Try.prog 21 #[va, vb] W fun e w' => e = .returned (.bool (eqB xs ys)) ∧ Ok W w' := by
  obtain ⟨A, ca, rfl, hm⟩ := ha.form
  obtain ⟨B, cb, rfl, _⟩ := hb.form
  have HA := Lib.hid ha
  have HB := Lib.hid hb
  clear ha hb
  by_cases hlen : xs.length = ys.length
  · rw [← hlen]
    have HB' : Hid (BytesIn W (.slice B xs.length cb) ys) := Lib.hid (by rw [hlen]; exact HB.out)
    clear HB
    have HLEN := Lib.hid hlen
    clear hlen
    generalize hn : xs.length = n at *
    have HN := Lib.hid hn
    clear hn
    have hne : ((n : Int) != n) = false := by simp
    go_enter Try.func21, Try.ntmps21
    go_wp2_with fail
    go_loopw [5] (fun i wr => ∃ k : Nat, k ≤ n ∧ i = .int .i64 k ∧ Ok W wr ∧ xs.take k = ys.take k) (fun i _ => n - (intOf i).toNat)
    case atStart => exact ⟨0, Nat.zero_le _, rfl, Ok.refl _, rfl⟩
    case round =>
      obtain ⟨k, hk, rfl, hok, htk⟩ := hrel
      have HTK := Lib.hid htk
      clear htk
      by_cases hlt : k < n
      · obtain ⟨-, b, o, rfl, hc⟩ := same_cells HA.out rfl k hlt
        obtain ⟨-, b', o', rfl, hc'⟩ := same_cells HB'.out rfl k hlt
        have hx := hok.cell hc
        have hy := hok.cell hc'
        have HO := Lib.hid hok
        clear hc hc' hok
        have hi0 : (0 : Int) ≤ (k : Int) := Int.natCast_nonneg _
        have hi1 : (k : Int) < (n : Int) := by omega
        have HEQ := Lib.hid (ub_eq (xs.getD k 0#8) (ys.getD k 0#8))
        cases hyy : (ub (xs.getD k 0#8) == ub (ys.getD k 0#8)) with
        | true =>
          have HNX : Hid (xs.take (k + 1) = ys.take (k + 1)) := Lib.hid (take_succ_eq HTK.out (by rw [HN.out]; exact hlt) (by rw [← HLEN.out]; exact hlt) (by have h1 := HEQ.out; rw [hyy] at h1; exact eq_of_beq h1.symm))
          have hnn : (ub (xs.getD k 0#8) != ub (ys.getD k 0#8)) = false := by simp only [bne, hyy]; rfl
          generalize ub (xs.getD k 0#8) = p at *
          generalize ub (ys.getD k 0#8) = q at *
          go_wp2_with fail
          go_quiet (fail)
          go_wp2_with fail
          go_roundw
          case rel => exact ⟨k + 1, by omega, by go_num, HO.out.drewN _, HNX.out⟩
          case measure => simp [intOf]; omega
        | false =>
          have HNX : Hid (eqB xs ys = false) := Lib.hid (decide_eq_false (fun e => by subst e; simp at hyy))
          have hnn : (ub (xs.getD k 0#8) != ub (ys.getD k 0#8)) = true := by simp only [bne, hyy]; rfl
          generalize ub (xs.getD k 0#8) = p at *
          generalize ub (ys.getD k 0#8) = q at *
          go_wp2_with fail
          go_quiet (fail)
          go_wp2_with fail
          go_ret
          exact ⟨by rw [HNX.out]; rfl, HO.out.drewN _⟩
      · have hke : k = n := by omega
        subst hke
        have HE : Hid (eqB xs ys = true) := Lib.hid (decide_eq_true (by
          have h1 := HTK.out
          rwa [List.take_of_length_le (by rw [HN.out]; exact Nat.le_refl _), List.take_of_length_le (by rw [← HLEN.out]; exact Nat.le_refl _)] at h1))
        have HO := Lib.hid hok
        clear hok
        go_wp2_with fail
        go_ret
        exact ⟨by rw [HE.out]; rfl, HO.out⟩
  · have HE : Hid (eqB xs ys = false) := Lib.hid (decide_eq_false (fun e => hlen (by rw [e])))
    have hne : ((xs.length : Int) != (ys.length : Int)) = true := by simp only [bne, Bool.not_eq_true', beq_eq_false_iff_ne]; omega
    have hne2 : (xs.length != ys.length) = true := by simp only [bne, Bool.not_eq_true', beq_eq_false_iff_ne]; omega
    clear hlen
    go_enter Try.func21, Try.ntmps21
    go_wp2_with fail
    go_ret
    exact ⟨by rw [HE.out]; rfl, Ok.refl _⟩
end Go.Proofs.Ytmbnknbbfipciaa
