/- The document's value of a number. -/
import Derived.Test.YthbbbjkgfdnkhaaDoorAc
import Derived.Laws.IdiomStrings
namespace Go.Proofs.YthbbbjkgfdnkhaaDoor
open Go.RowKit
theorem dig_cv (w : World) (x : Nat) (hx : x ≤ 255) : (convert 73 9 (.slice (some ⟨w.heap.size, 0, none⟩) 1 1)).run Tryd.prog (w.alloc (.cells #[.int .u8 (x : Int)] 5)) = .ok (.string ⟨#[UInt8.ofNat x]⟩) (w.alloc (.cells #[.int .u8 (x : Int)] 5)) := by
  have := run_convert_bytes_back (P := Tryd.prog) (w.alloc (.cells #[.int .u8 (x : Int)] 5)) 73 9 5 ⟨w.heap.size, 0, none⟩ 1 [UInt8.ofNat x] Tryd.underlying73 Tryd.underlying5 Tryd.underlying9 (fun j hj => by
    have h0 : j = 0 := by simpa using hj
    subst h0
    rw [Addr.add_lit, World.cell?_alloc_at _ _ _ _ rfl]
    show some (Value.int .u8 (x : Int)) = some (Value.int .u8 ((UInt8.ofNat x).toNat : Int))
    rw [UInt8.toNat_ofNat', Nat.mod_eq_of_lt (by omega)])
  exact this
theorem dig_cvi (w : World) (x : Int) (hx : 0 ≤ x ∧ x ≤ 255) : (convert 73 9 (.slice (some ⟨w.heap.size, 0, none⟩) 1 1)).run Tryd.prog (w.alloc (.cells #[.int .u8 x] 5)) = .ok (.string ⟨#[UInt8.ofNat x.toNat]⟩) (w.alloc (.cells #[.int .u8 x] 5)) := by
  obtain ⟨y, rfl⟩ : ∃ y : Nat, x = y := ⟨x.toNat, by omega⟩
  exact dig_cv w y (by omega)
theorem dec_len : ∀ (k u : Nat), u < 10 ^ (k + 1) → (Lib.decDigits u).length ≤ k + 1
  | 0, u, h => by rw [Lib.decDigits, dif_pos (by simpa using h)]; exact Nat.le_refl _
  | k + 1, u, h => by
    rw [Lib.decDigits]
    by_cases h2 : u < 10
    · rw [dif_pos h2]; simp
    · rw [dif_neg h2, List.length_append]
      have := dec_len k (u / 10) (Nat.div_lt_of_lt_mul (by rw [Nat.pow_succ, Nat.mul_comm] at h; exact h))
      simp only [List.length_cons, List.length_nil]
      omega
def decH (m : Nat) : Chs := if 10 ≤ m then Lib.decDigits (m / 10) else []
def digC (m : Nat) : UInt8 := UInt8.ofNat (48 + m % 10)
theorem dec_split (m : Nat) : Lib.decDigits m = decH m ++ [digC m] := by
  unfold decH digC
  rw [Lib.decDigits]
  by_cases h : m < 10
  · rw [dif_pos h, if_neg (by omega), Nat.mod_eq_of_lt h]; rfl
  · rw [dif_neg h, if_pos (by omega)]
theorem digC_eq (m : Nat) : UInt8.ofNat (48 + (m : Int) % 10).toNat = digC m := by
  unfold digC
  rw [show (48 + (m : Int) % 10).toNat = 48 + m % 10 by omega]
theorem str_app (c : UInt8) (t : Chs) : (⟨#[c]⟩ : ByteArray) ++ ⟨t.toArray⟩ = ⟨(c :: t).toArray⟩ := by
  apply ByteArray.ext
  simp
theorem itoa_pos (b : Nat) : Lib.itoa (b : Int) = Lib.decDigits b := by
  unfold Lib.itoa
  rw [if_neg (by omega)]
  rfl
theorem itoa_neg (b : Nat) (h : 0 < b) : Lib.itoa (-(b : Int)) = 45 :: Lib.decDigits b := by
  unfold Lib.itoa
  rw [if_pos (by omega), Int.natAbs_neg, Int.natAbs_natCast]
set_option maxRecDepth 100000 in
set_option maxHeartbeats 1000000 in
theorem rvalue_pos (n : Int) (h0 : 0 ≤ n) (h1 : n ≤ 9223372036854775807) (w : World) :
    Calls Tryd.prog 31 #[.int .i64 n] w (Ret w (.string (valueT n))) := by
  obtain ⟨b, hb⟩ : ∃ b : Nat, boundM n 1073741824 = b := ⟨(boundM n 1073741824).toNat, by unfold boundM; omega⟩
  have HV : Hid (valueT n = ⟨(Lib.decDigits b).toArray⟩) := Lib.hid (by unfold valueT; rw [hb, itoa_pos])
  have hmb : max (min n 1073741824) (-1073741824) = (b : Int) := by rw [← hb]; unfold boundM; omega
  have hbl : b ≤ 1073741824 := by have := boundM_in n 1073741824 (by decide); omega
  have HS := Lib.hid (dec_split b)
  clear hb
  generalize valueT n = v at *
  have dn : decide ((b : Int) < 0) = false := decide_eq_false (by omega)
  have hcv := dig_cvi w (48 + (b : Int) % 10) (by omega)
  rw [digC_eq] at hcv
  go_enter Tryd.func31, Tryd.ntmps31
  go_wp2_with fail
  clear hcv hmb dn h0 h1
  have HOK := Lib.hid ((Ok.refl w).alloc (.cells #[.int .u8 (48 + (b : Int) % 10)] 5))
  go_loopw [0, 3] (fun i s wr => ∃ (m : Nat) (t : Chs), i = .int .i64 m ∧ m ≤ 1073741824 ∧ s = .string ⟨t.toArray⟩ ∧ Lib.decDigits b = decH m ++ t ∧ Ok w wr) (fun i _ _ => (intOf i).toNat)
  case atStart => exact ⟨b, [digC b], rfl, hbl, rfl, HS.out, HOK.out⟩
  case round =>
    obtain ⟨m, t, rfl, hm, rfl, hd, hok⟩ := hrel
    have HD := Lib.hid hd
    have HO := Lib.hid hok
    clear hd hok HOK HS
    by_cases h10 : 10 ≤ m
    · have d1 : decide ((10 : Int) ≤ (m : Int)) = true := decide_eq_true (by omega)
      have d2 : decide (10 ≤ m) = true := decide_eq_true h10
      have HS2 := Lib.hid (dec_split (m / 10))
      have HH : Hid (decH m = Lib.decDigits (m / 10)) := Lib.hid (by unfold decH; rw [if_pos h10])
      have hq : ((m : Int) / 10) = ((m / 10 : Nat) : Int) := by omega
      obtain ⟨q, hqe⟩ : ∃ q, m / 10 = q := ⟨_, rfl⟩
      rw [hqe] at HS2 HH hq
      have hqm : q < m := by omega
      have hcv := dig_cvi wr (48 + (q : Int) % 10) (by omega)
      rw [digC_eq] at hcv
      have happ := str_app (digC q) t
      have HQ := Lib.hid hqe
      clear hqe
      have hlen : (1 : Nat) + t.length ≤ 9223372036854775807 := by
        have h2 := dec_len 9 b (by omega)
        rw [HD.out, List.length_append] at h2
        omega
      have hle : decide (9223372036854775807 < 1 + t.length) = false := decide_eq_false (by omega)
      have hle2 : ¬ (9223372036854775807 < 1 + t.length) := by omega
      go_wp2_with fail
      refine ⟨⟨q, digC q :: t, rfl, by omega, rfl, by rw [HD.out, HH.out, HS2.out, List.append_assoc]; rfl, HO.out.alloc _⟩, ?_⟩
      simp [intOf]; omega
    · have d1 : decide ((10 : Int) ≤ (m : Int)) = false := decide_eq_false (by omega)
      have d2 : decide (10 ≤ m) = false := decide_eq_false h10
      have HF : Hid (v = ⟨t.toArray⟩) := Lib.hid (by rw [HV.out, HD.out]; unfold decH; rw [if_neg h10]; rfl)
      go_wp2_with fail
      go_ret
      exact ⟨by rw [HF.out]; rfl, HO.out⟩
set_option maxRecDepth 100000 in
set_option maxHeartbeats 1000000 in
theorem rvalue_w (n : Int) (h0 : -9223372036854775808 ≤ n) (h1 : n ≤ 9223372036854775807) (w : World) :
    Calls Tryd.prog 31 #[.int .i64 n] w (Ret w (.string (valueT n))) := by
  by_cases hn : 0 ≤ n
  · exact rvalue_pos n hn h1 w
  obtain ⟨b, hb⟩ : ∃ b : Nat, boundM n 1073741824 = -(b : Int) := ⟨(-boundM n 1073741824).toNat, by unfold boundM; omega⟩
  have hb0 : 0 < b := by unfold boundM at hb; omega
  have hbl : b ≤ 1073741824 := by unfold boundM at hb; omega
  have hmb : max (min n 1073741824) (-1073741824) = -(b : Int) := by rw [← hb]; unfold boundM; omega
  have HV : Hid (valueT n = ⟨(45 :: Lib.decDigits b).toArray⟩) := Lib.hid (by unfold valueT; rw [hb, itoa_neg b hb0])
  have HP := Lib.hid (rvalue_pos (b : Int) (by omega) (by omega) w)
  have HVB : Hid (valueT (b : Int) = ⟨(Lib.decDigits b).toArray⟩) := Lib.hid (by unfold valueT; rw [show boundM (b : Int) 1073741824 = (b : Int) by unfold boundM; omega, itoa_pos])
  rw [HVB.out] at HP
  have happ := str_app 45 (Lib.decDigits b)
  have hdl := dec_len 9 b (by omega)
  generalize valueT n = v at *
  clear hb HVB
  generalize Lib.decDigits b = D at *
  have dn : decide (-(b : Int) < 0) = true := decide_eq_true (by omega)
  have hle2 : ¬ (9223372036854775807 < 1 + D.length) := by omega
  clear h0 h1 hn
  go_enter Tryd.func31, Tryd.ntmps31
  go_wp2_with fail
  (with_reducible refine HP.out.mono ?_)
  rintro _ w1 ⟨rfl, o1⟩
  have HO := Lib.hid o1
  clear o1
  go_wp2_with fail
  go_ret
  exact ⟨by rw [HV.out]; rfl, HO.out⟩
end Go.Proofs.YthbbbjkgfdnkhaaDoor
