/- Contracts of the reader's calls, and of a new reader. -/
import Derived.Test.YtebhcadolnjplaaGreatD
namespace Go.Proofs.YtebhcadolnjplaaGreat
open Go.RowKit

/-- A reader at block g: its bytes, which lie in memory as it was at W0, below it; whether it has failed. Nothing below block g has turned since W0. -/
def Rd (W0 : World) (g : Nat) (w : World) (xs : List B8) (failed : Bool) : Prop :=
  W0.heap.size ≤ g ∧ Ok W0 w ∧ (∃ v, BytesIn W0 v xs ∧ w.cell? ⟨g, 0, none⟩ = some v) ∧ w.cell? ⟨g, 1, none⟩ = some (.bool failed) ∧ w.cell? ⟨g, 2, none⟩ = some (.bool true) ∧
    w.frozen? ⟨g, 0, none⟩ = false ∧ w.frozen? ⟨g, 1, none⟩ = false
/-- At most block g has turned of what was there, and nothing is new. -/
def Only (g : Nat) (w w' : World) : Prop := w'.os = w.os ∧ w'.tape = w.tape ∧ w'.output = w.output ∧ w'.heap.size = w.heap.size ∧ ∀ k, k ≠ g → w'.heap[k]? = w.heap[k]?
theorem Only.refl (g : Nat) (w : World) : Only g w w := ⟨rfl, rfl, rfl, rfl, fun _ _ => rfl⟩
theorem Only.trans {g : Nat} {a b c : World} (h : Only g a b) (k : Only g b c) : Only g a c :=
  ⟨k.1.trans h.1, k.2.1.trans h.2.1, k.2.2.1.trans h.2.2.1, k.2.2.2.1.trans h.2.2.2.1, fun i hi => (k.2.2.2.2 i hi).trans (h.2.2.2.2 i hi)⟩
theorem Only.set {g : Nat} {a b : World} (h : Only g a b) (o : Nat) (v : Value) : Only g a (b.setCell ⟨g, o, none⟩ v) :=
  h.trans ⟨rfl, rfl, rfl, by simp [World.setCell], fun k hk => heap_setCell_other b ⟨g, o, none⟩ k v hk⟩
theorem Only.below {g : Nat} {a b : World} (h : Only g a b) {B : Nat} (hB : B ≤ g) : Below B a b :=
  ⟨h.1, h.2.1, h.2.2.1, Nat.le_of_eq h.2.2.2.1.symm, fun k hk => h.2.2.2.2 k (by omega)⟩

def RdPost (W0 : World) (g : Nat) (w : World) (res : Value) (ys : List B8) (failed : Bool) (e : Ending) (w' : World) : Prop :=
  e = .returned res ∧ Rd W0 g w' ys failed ∧ Only g w w'

theorem Rd.set {W0 : World} {g : Nat} {w : World} {xs ys : List B8} {f f' : Bool} {v : Value} (h : Rd W0 g w xs f) (hy : BytesIn W0 v ys) {w' : World} (ho : Only g w w')
    (h0 : w'.cell? ⟨g, 0, none⟩ = some v) (h1 : w'.cell? ⟨g, 1, none⟩ = some (.bool f')) (h2 : w'.cell? ⟨g, 2, none⟩ = some (.bool true)) (h3 : w'.frozen? ⟨g, 0, none⟩ = false) (h4 : w'.frozen? ⟨g, 1, none⟩ = false) :
    Rd W0 g w' ys f' :=
  ⟨h.1, Below.trans h.2.1 (ho.below h.1), ⟨v, hy, h0⟩, h1, h2, h3, h4⟩

set_option maxHeartbeats 400000 in
theorem fail_r (W0 : World) (g : Nat) (w : World) (xs : List B8) (f : Bool) (h : Rd W0 g w xs f) :
    Calls Tryz.prog 146 #[.pointer (some ⟨g, 0, none⟩)] w (RdPost W0 g w (.tuple #[]) [] true) := by
  have HR := Lib.hid h
  obtain ⟨_, _, ⟨v, _, h0⟩, h1, h2, h3, h4⟩ := h
  have HF : Hid (RdPost W0 g w (.tuple #[]) [] true (.returned (.tuple #[])) ((w.setCell ⟨g, 0, none⟩ (.slice none 0 0)).setCell ⟨g, 1, none⟩ (.bool true))) := Lib.hid
    ⟨rfl, HR.out.set (BytesIn.nil W0) (((Only.refl g w).set 0 _).set 1 _) (by go_simp) (by go_simp) (by go_simp) (by go_simp) (by go_simp), ((Only.refl g w).set 0 _).set 1 _⟩
  go_enter Tryz.func146, Tryz.ntmps146
  go_wp2
  go_end0
  exact HF.out

/-- What octet does at a list with a first byte. -/
theorem bytes_tail {w : World} {xs : List B8} {y : B8} {v : Value} (h : BytesIn w v (y :: xs)) : ∃ b o c, v = .slice (some ⟨b, o, none⟩) (xs.length + 1) c ∧ xs.length + 1 ≤ c ∧ w.cell? ⟨b, o, none⟩ = some (.int .u8 (ub y)) ∧
    (∀ A, (A = (if c = 1 then some (⟨b, o, none⟩ : Addr) else some ⟨b, o + 1, none⟩)) → BytesIn w (.slice A xs.length (c - 1)) xs) := by
  rcases h with ⟨h, _⟩ | ⟨b, o, c, rfl, hn, hm, hc⟩
  · cases h
  · simp only [List.length_cons] at hn hm hc
    refine ⟨b, o, c, rfl, hn, ?_, ?_⟩
    · have := hc 0 (by omega); simpa using this
    · rintro A rfl
      by_cases h1 : c = 1
      · subst h1
        rw [if_pos rfl]
        obtain rfl : xs = [] := List.length_eq_zero_iff.1 (by omega)
        exact .inl ⟨rfl, _, _, rfl, fun e => by cases e⟩
      · rw [if_neg h1]
        refine .inr ⟨b, o + 1, c - 1, rfl, by omega, by omega, fun i hi => ?_⟩
        have := hc (i + 1) (by omega)
        rw [show o + 1 + i = o + (i + 1) from by omega, this]
        simp

set_option maxHeartbeats 400000 in
theorem octet_none (W0 : World) (g : Nat) (w : World) (f : Bool) (h : Rd W0 g w [] f) :
    Calls Tryz.prog 145 #[.pointer (some ⟨g, 0, none⟩)] w (RdPost W0 g w (.int .u8 0) [] true) := by
  have HR := Lib.hid h
  obtain ⟨_, _, ⟨v, hv, h0⟩, h1, h2, h3, h4⟩ := h
  obtain ⟨A, c, rfl, _⟩ := hv.form
  clear hv
  simp only [List.length_nil] at h0
  go_enter Tryz.func145, Tryz.ntmps145
  go_wp2_with fail
  refine (fail_r W0 g w [] f HR.out).mono ?_
  rintro e w' ⟨rfl, hr, ho⟩
  have HR2 := Lib.hid hr
  have HO := Lib.hid ho
  clear hr ho
  go_wp2_with fail
  go_ret
  exact ⟨rfl, HR2.out, HO.out⟩

set_option maxHeartbeats 400000 in
theorem octet_some (W0 : World) (g : Nat) (w : World) (y : B8) (xs : List B8) (f : Bool) (h : Rd W0 g w (y :: xs) f) :
    Calls Tryz.prog 145 #[.pointer (some ⟨g, 0, none⟩)] w (RdPost W0 g w (.int .u8 (ub y)) xs f) := by
  have HR := Lib.hid h
  obtain ⟨hg, hok, ⟨v, hv, h0⟩, h1, h2, h3, h4⟩ := h
  have hlm : xs.length + 1 ≤ 140737488351232 := by
    obtain ⟨_, _, _, hl⟩ := hv.form
    simpa using hl
  obtain ⟨b, o, c, rfl, hc, hcell, htail⟩ := bytes_tail hv
  have hcell := hok.cell hcell
  have HT := Lib.hid htail
  have HF : Hid (∀ A c', BytesIn W0 (.slice A xs.length c') xs → RdPost W0 g w (.int .u8 (ub y)) xs f (.returned (.int .u8 (ub y))) (w.setCell ⟨g, 0, none⟩ (.slice A xs.length c'))) := Lib.hid fun A c' hA =>
    ⟨rfl, HR.out.set hA ((Only.refl g w).set 0 _) (by go_simp) (by go_simp) (by go_simp) (by go_simp) (by go_simp), (Only.refl g w).set 0 _⟩
  clear hok htail hv
  have hz : ((xs.length : Int) + 1 == 0) = false := by rw [beq_eq_false_iff_ne]; omega
  by_cases hc1 : c = 1
  · obtain rfl := hc1
    have hx0 : xs = [] := List.length_eq_zero_iff.1 (by omega)
    subst hx0
    have HB : Hid (BytesIn W0 (.slice (some ⟨b, o, none⟩) 0 0) []) := Lib.hid (by
      have := HT.out _ rfl
      rwa [if_pos rfl] at this)
    clear hz
    simp only [List.length_nil, Nat.zero_add] at h0
    go_enter Tryz.func145, Tryz.ntmps145
    go_wp2_with fail
    go_ret
    exact HF.out _ _ HB.out
  · have HB : Hid (BytesIn W0 (.slice (some ⟨b, o + 1, none⟩) xs.length (c - 1)) xs) := Lib.hid (by
      have := HT.out _ rfl
      rwa [if_neg hc1] at this)
    have hc2 : 1 < c := by omega
    go_enter Tryz.func145, Tryz.ntmps145
    go_wp2_with fail
    go_ret
    exact HF.out _ _ HB.out

theorem and127b (y : B8) : bits .and .u8 (ub y) 127 = ((y.toNat % 128 : Nat) : Int) := by
  have := bits_mask .u8 8 (by decide) wraps_u8 7 (by decide) (ub y) (ub_lo y) (ub_hi y)
  rw [show (2 : Int) ^ 7 - 1 = 127 from by decide] at this
  rw [this, ub]; simp
theorem or_shift (n m k : Nat) (hn : n < 128 ^ k) (hm : m < 128) (hk : k ≤ 8) : bits .or .i64 (n : Int) (((m * 128 ^ k : Nat)) : Int) = ((n + m * 128 ^ k : Nat) : Int) := by
  have hw : ∀ m : Int, 0 ≤ m → m < 2 ^ 63 → IntKind.i64.wrap m = m := fun m h0 h1 => by rw [IntKind.wrap_i64]; omega
  have h63 : (128 : Nat) ^ (k + 1) ≤ 2 ^ 63 := by
    have : (128 : Nat) ^ (k + 1) = 2 ^ (7 * (k + 1)) := by rw [Nat.pow_mul]
    rw [this]; exact Nat.pow_le_pow_right (by decide) (by omega)
  have hm2 : m * 128 ^ k + 128 ^ k ≤ 128 ^ (k + 1) := by
    have : (m + 1) * 128 ^ k ≤ 128 * 128 ^ k := Nat.mul_le_mul_right _ (by omega)
    rw [Nat.add_mul, Nat.one_mul] at this
    rw [Nat.pow_succ, Nat.mul_comm (128 ^ k) 128]; exact this
  have h1 := (bits_nat .i64 63 (by decide) hw n (m * 128 ^ k) (by omega) (by omega)).2
  rw [h1]
  have e : 128 ^ k = 2 ^ (7 * k) := by rw [Nat.pow_mul]
  have h2 := Nat.two_pow_add_eq_or_of_lt (i := 7 * k) (b := n) (by rw [← e]; exact hn) m
  rw [← e] at h2
  rw [Nat.or_comm, Nat.mul_comm m, ← h2, Nat.add_comm]
end Go.Proofs.YtebhcadolnjplaaGreat
namespace Go.Proofs.YtebhcadolnjplaaGreat
open Go.RowKit

def resN : Option (Nat × List B8) → Nat | some (n, _) => n | none => 0
def resL : Option (Nat × List B8) → List B8 | some (_, r) => r | none => []
def resF : Option (Nat × List B8) → Bool | some _ => false | none => true

theorem or_byte (n k : Nat) (y : B8) (hn : n < 128 ^ k) (hk : k ≤ 8) : bits .or .i64 (n : Int) (wrap64 ((y.toNat : Int) % 128 * 2 ^ (7 * k))) = ((n + y.toNat % 128 * 128 ^ k : Nat) : Int) := by
  have e : ((y.toNat : Int) % 128 * 2 ^ (7 * k)) = ((y.toNat % 128 * 128 ^ k : Nat) : Int) := by
    have : (128 : Nat) ^ k = 2 ^ (7 * k) := by rw [Nat.pow_mul]
    rw [this]; simp
  have hb : y.toNat % 128 * 128 ^ k < 2 ^ 63 := by
    have h1 : y.toNat % 128 * 128 ^ k ≤ 127 * 128 ^ 8 := Nat.mul_le_mul (by omega) (Nat.pow_le_pow_right (by decide) hk)
    exact Nat.lt_of_le_of_lt h1 (by decide)
  have hw : wrap64 ((y.toNat % 128 * 128 ^ k : Nat) : Int) = ((y.toNat % 128 * 128 ^ k : Nat) : Int) := IntWalk.wrap64_in _ ⟨by omega, by omega⟩
  rw [e, hw]
  exact or_shift n _ k hn (Nat.mod_lt _ (by decide)) hk
theorem or_zero (n : Nat) (h : n < 2 ^ 63) : bits .or .i64 (n : Int) 0 = n := by
  have hw : ∀ m : Int, 0 ≤ m → m < 2 ^ 63 → IntKind.i64.wrap m = m := fun m h0 h1 => by rw [IntKind.wrap_i64]; omega
  have := (bits_nat .i64 63 (by decide) hw n 0 h (by decide)).2
  simpa using this
theorem pow_le9 (k : Nat) (hk : k ≤ 9) : (128 : Nat) ^ k ≤ 2 ^ 63 := by
  have : (128 : Nat) ^ k = 2 ^ (7 * k) := by rw [Nat.pow_mul]
  rw [this]; exact Nat.pow_le_pow_right (by decide) (by omega)
theorem pow_step (n y k : Nat) (hn : n < 128 ^ k) : n + y % 128 * 128 ^ k < 128 ^ (k + 1) := by
  have : (y % 128 + 1) * 128 ^ k ≤ 128 * 128 ^ k := Nat.mul_le_mul_right _ (by omega)
  rw [Nat.add_mul, Nat.one_mul] at this
  rw [Nat.pow_succ, Nat.mul_comm (128 ^ k) 128]; omega

set_option maxRecDepth 100000 in
set_option maxHeartbeats 4000000 in
theorem number_r (W0 : World) (g : Nat) (W : World) (xs : List B8) (m : Nat) (hm : m ≤ 4611686018427387903) (h : Rd W0 g W xs false) :
    Calls Tryz.prog 131 #[.pointer (some ⟨g, 0, none⟩), .int .i64 (m : Int)] W (RdPost W0 g W (.int .i64 (resN (rd m xs) : Int)) (resL (rd m xs)) (resF (rd m xs))) := by
  have HR := Lib.hid h
  have H0 : Hid (rd m xs = rdF m 9 0 0 xs) := Lib.hid rfl
  clear h
  go_enter Tryz.func131, Tryz.ntmps131
  go_wp2_with fail
  go_loopw [5, 6] (fun x s wr => ∃ (k n : Nat) (ys : List B8), s = .int .i64 ((7 * k : Nat) : Int) ∧ x = .int .i64 (n : Int) ∧ k ≤ 9 ∧ n < 128 ^ k ∧ Rd W0 g wr ys false ∧ Only g W wr ∧ rd m xs = rdF m (9 - k) k n ys) (fun _ s _ => 63 - (intOf s).toNat)
  case atStart => exact ⟨0, 0, xs, rfl, rfl, by omega, by decide, HR.out, Only.refl _ _, H0.out⟩
  case round =>
    obtain ⟨k, n, ys, rfl, rfl, hk, hn, hr, ho, he⟩ := hrel
    have HRR := Lib.hid hr
    have HO := Lib.hid ho
    have HE := Lib.hid he
    have HNK := Lib.hid hn
    clear hr ho he hn
    by_cases hlt : k < 9
    · have hd0 : decide (((7 * k : Nat) : Int) < 63) = true := decide_eq_true (by omega)
      have hd0' : decide (7 * (k : Int) < 63) = true := decide_eq_true (by omega)
      cases ys with
      | nil =>
        have HE : Hid (rd m xs = none) := Lib.hid (by rw [HE.out, show 9 - k = (8 - k) + 1 from by omega]; rfl)
        go_wp2_with fail
        refine (octet_none W0 g _ false HRR.out).mono ?_
        rintro e w2 ⟨rfl, hr2, ho2⟩
        have hf := hr2.2.2.2.1
        have HR2 := Lib.hid hr2
        have HO2 := Lib.hid ho2
        clear hr2 ho2
        have ha : bits .and .u8 0 127 = 0 := by decide
        have hor := or_zero n (Nat.lt_of_lt_of_le HNK.out (pow_le9 k hk))
        have hw0 : wrap64 0 = 0 := IntWalk.wrap64_in 0 ⟨by decide, by decide⟩
        go_wp2_with fail
        refine (fail_r W0 g _ _ _ HR2.out).mono ?_
        rintro e w3 ⟨rfl, hr3, ho3⟩
        have HFIN : Hid (RdPost W0 g W (.int .i64 0) [] true (.returned (.int .i64 0)) w3) := Lib.hid ⟨rfl, hr3, (HO.out.trans HO2.out).trans ho3⟩
        clear hr3 ho3
        go_wp2_with fail
        go_ret
        rw [HE.out]
        exact HFIN.out
      | cons y r =>
        go_wp2_with fail
        refine (octet_some W0 g _ y r false HRR.out).mono ?_
        rintro e w2 ⟨rfl, hr2, ho2⟩
        have HR2 := Lib.hid hr2
        have HO2 := Lib.hid ho2
        clear hr2 ho2
        have ha := and127b y
        have hor := or_byte n k y HNK.out (by omega)
        have HST := Lib.hid (pow_step n y.toNat k HNK.out)
        have hbig : n + y.toNat % 128 * 128 ^ k < 9223372036854775808 := Nat.lt_of_lt_of_le HST.out (Nat.le_trans (pow_le9 (k + 1) (by omega)) (by decide))
        have HRD : Hid (rdF m (9 - k) k n (y :: r) = if 127 < y.toNat then rdF m (8 - k) (k + 1) (n + y.toNat % 128 * 128 ^ k) r else if (y.toNat = 0 ∧ 0 < k) ∨ m < n + y.toNat % 128 * 128 ^ k then none else some (n + y.toNat % 128 * 128 ^ k, r)) := Lib.hid (by
          rw [show 9 - k = (8 - k) + 1 from by omega]; rfl)
        have HBIG := Lib.hid hbig
        clear hbig
        generalize hN : n + y.toNat % 128 * 128 ^ k = N at *
        have HNN := Lib.hid hN
        clear hN
        by_cases hy : 127 < y.toNat
        · have hd1 : decide ((127 : Int) < ub y) = true := decide_eq_true (by unfold ub; omega)
          have HE2 : Hid (rd m xs = rdF m (9 - (k + 1)) (k + 1) N r) := Lib.hid (by rw [HE.out, HRD.out, if_pos hy, show 9 - (k + 1) = 8 - k from by omega])
          clear hy
          go_wp2_with fail
          go_roundw
          case rel => exact ⟨k + 1, N, r, by congr 1, rfl, by omega, HST.out, HR2.out, HO.out.trans HO2.out, HE2.out⟩
          case measure => simp [intOf]; omega
        · have hd1 : decide ((127 : Int) < ub y) = false := decide_eq_false (by unfold ub; omega)
          have hf := HR2.out.2.2.2.1
          have HE := Lib.hid (HE.out.trans (HRD.out.trans (if_neg hy)))
          by_cases hz : y.toNat = 0 ∧ 0 < k
          · have HE : Hid (rd m xs = none) := Lib.hid (by rw [HE.out, if_pos (.inl hz)])
            have hz0 : (ub y == 0) = true := by rw [beq_iff_eq]; unfold ub; omega
            have hz1 : decide ((0 : Int) < ((7 * k : Nat) : Int)) = true := decide_eq_true (by omega)
            have hz2 : decide ((0 : Int) < 7 * (k : Int)) = true := decide_eq_true (by omega)
            clear hy hz
            go_wp2_with fail
            refine (fail_r W0 g _ _ _ HR2.out).mono ?_
            rintro e w3 ⟨rfl, hr3, ho3⟩
            have HFIN : Hid (RdPost W0 g W (.int .i64 0) [] true (.returned (.int .i64 0)) w3) := Lib.hid ⟨rfl, hr3, (HO.out.trans HO2.out).trans ho3⟩
            clear hr3 ho3
            go_wp2_with fail
            go_ret
            rw [HE.out]
            exact HFIN.out
          · by_cases hy0' : y.toNat = 0
            · have hz0 : (ub y == 0) = true := by rw [beq_iff_eq]; unfold ub; omega
              have hz1 : decide ((0 : Int) < ((7 * k : Nat) : Int)) = false := decide_eq_false (by omega)
              have hz2 : decide ((0 : Int) < 7 * (k : Int)) = false := decide_eq_false (by omega)
              clear hy hy0'
              by_cases hb1 : 4611686018427387903 < N
              · have HE : Hid (rd m xs = none) := Lib.hid (by rw [HE.out, if_pos (.inr (by omega))])
                have hd2 : decide ((4611686018427387903 : Int) < (N : Int)) = true := decide_eq_true (by omega)
                clear hb1
                go_wp2_with fail
                refine (fail_r W0 g _ _ _ HR2.out).mono ?_
                rintro e w3 ⟨rfl, hr3, ho3⟩
                have HFIN : Hid (RdPost W0 g W (.int .i64 0) [] true (.returned (.int .i64 0)) w3) := Lib.hid ⟨rfl, hr3, (HO.out.trans HO2.out).trans ho3⟩
                clear hr3 ho3
                go_wp2_with fail
                go_ret
                rw [HE.out]
                exact HFIN.out
              · have hd2 : decide ((4611686018427387903 : Int) < (N : Int)) = false := decide_eq_false (by omega)
                clear hb1
                by_cases hb2 : m < N
                · have HE : Hid (rd m xs = none) := Lib.hid (by rw [HE.out, if_pos (.inr hb2)])
                  have hd3 : decide (m < N) = true := decide_eq_true hb2
                  clear hb2
                  go_wp2_with fail
                  refine (fail_r W0 g _ _ _ HR2.out).mono ?_
                  rintro e w3 ⟨rfl, hr3, ho3⟩
                  have HFIN : Hid (RdPost W0 g W (.int .i64 0) [] true (.returned (.int .i64 0)) w3) := Lib.hid ⟨rfl, hr3, (HO.out.trans HO2.out).trans ho3⟩
                  clear hr3 ho3
                  go_wp2_with fail
                  go_ret
                  rw [HE.out]
                  exact HFIN.out
                · have HE : Hid (rd m xs = some (N, r)) := Lib.hid (by rw [HE.out, if_neg (by rintro (h | h); exact hz h; exact hb2 h)])
                  have hd3 : decide (m < N) = false := decide_eq_false hb2
                  clear hb2
                  go_wp2_with fail
                  go_ret
                  rw [HE.out]
                  exact ⟨rfl, HR2.out, HO.out.trans HO2.out⟩
            · have hz0 : (ub y == 0) = false := by rw [beq_eq_false_iff_ne]; unfold ub; omega
              clear hy hy0'
              by_cases hb1 : 4611686018427387903 < N
              · have HE : Hid (rd m xs = none) := Lib.hid (by rw [HE.out, if_pos (.inr (by omega))])
                have hd2 : decide ((4611686018427387903 : Int) < (N : Int)) = true := decide_eq_true (by omega)
                clear hb1
                go_wp2_with fail
                refine (fail_r W0 g _ _ _ HR2.out).mono ?_
                rintro e w3 ⟨rfl, hr3, ho3⟩
                have HFIN : Hid (RdPost W0 g W (.int .i64 0) [] true (.returned (.int .i64 0)) w3) := Lib.hid ⟨rfl, hr3, (HO.out.trans HO2.out).trans ho3⟩
                clear hr3 ho3
                go_wp2_with fail
                go_ret
                rw [HE.out]
                exact HFIN.out
              · have hd2 : decide ((4611686018427387903 : Int) < (N : Int)) = false := decide_eq_false (by omega)
                clear hb1
                by_cases hb2 : m < N
                · have HE : Hid (rd m xs = none) := Lib.hid (by rw [HE.out, if_pos (.inr hb2)])
                  have hd3 : decide (m < N) = true := decide_eq_true hb2
                  clear hb2
                  go_wp2_with fail
                  refine (fail_r W0 g _ _ _ HR2.out).mono ?_
                  rintro e w3 ⟨rfl, hr3, ho3⟩
                  have HFIN : Hid (RdPost W0 g W (.int .i64 0) [] true (.returned (.int .i64 0)) w3) := Lib.hid ⟨rfl, hr3, (HO.out.trans HO2.out).trans ho3⟩
                  clear hr3 ho3
                  go_wp2_with fail
                  go_ret
                  rw [HE.out]
                  exact HFIN.out
                · have HE : Hid (rd m xs = some (N, r)) := Lib.hid (by rw [HE.out, if_neg (by rintro (h | h); exact hz h; exact hb2 h)])
                  have hd3 : decide (m < N) = false := decide_eq_false hb2
                  clear hb2
                  go_wp2_with fail
                  go_ret
                  rw [HE.out]
                  exact ⟨rfl, HR2.out, HO.out.trans HO2.out⟩
    · have hke : k = 9 := by omega
      subst hke
      have HE : Hid (rd m xs = none) := Lib.hid (by rw [HE.out]; rfl)
      have HR2 := HRR
      have HO2 : Hid (Only g wr wr) := Lib.hid (Only.refl g wr)
      go_wp2_with fail
      refine (fail_r W0 g _ _ _ HR2.out).mono ?_
      rintro e w3 ⟨rfl, hr3, ho3⟩
      have HFIN : Hid (RdPost W0 g W (.int .i64 0) [] true (.returned (.int .i64 0)) w3) := Lib.hid ⟨rfl, hr3, (HO.out.trans HO2.out).trans ho3⟩
      clear hr3 ho3
      go_wp2_with fail
      go_ret
      rw [HE.out]
      exact HFIN.out
end Go.Proofs.YtebhcadolnjplaaGreat
namespace Go.Proofs.YtebhcadolnjplaaGreat
open Go.RowKit

set_option maxHeartbeats 400000 in
theorem dead_r (W0 : World) (g : Nat) (w : World) (xs : List B8) (f : Bool) (h : Rd W0 g w xs f) :
    Calls Tryz.prog 89 #[.pointer (some ⟨g, 0, none⟩)] w fun e w' => e = .returned (.bool f) ∧ w = w' := by
  have h1 := h.2.2.2.1
  have h2 := h.2.2.2.2.1
  clear h
  go_enter Tryz.func89, Tryz.ntmps89
  go_wp2
  go_ret
  exact ⟨rfl, rfl⟩

set_option maxHeartbeats 400000 in
theorem left_r (W0 : World) (g : Nat) (w : World) (xs : List B8) (f : Bool) (h : Rd W0 g w xs f) (hf : f = true → xs = []) :
    Calls Tryz.prog 43 #[.pointer (some ⟨g, 0, none⟩)] w fun e w' => e = .returned (.int .i64 (xs.length : Int)) ∧ w = w' := by
  have HR := Lib.hid h
  obtain ⟨v, hv, h0⟩ := h.2.2.1
  have hform := hv.form
  clear hv h
  cases f with
  | true =>
    obtain rfl := hf rfl
    clear hform h0 hf
    go_enter Tryz.func43, Tryz.ntmps43
    go_wp2_with fail
    refine (dead_r W0 g w _ true HR.out).mono ?_
    rintro e w' ⟨rfl, rfl⟩
    go_wp2_with fail
    go_ret
    exact ⟨rfl, rfl⟩
  | false =>
    obtain ⟨A, c, rfl, _⟩ := hform
    clear hf
    go_enter Tryz.func43, Tryz.ntmps43
    go_wp2_with fail
    refine (dead_r W0 g w _ false HR.out).mono ?_
    rintro e w' ⟨rfl, rfl⟩
    go_wp2_with fail
    go_ret
    exact ⟨rfl, rfl⟩

/-- What End tells. -/
def endOf (xs : List B8) (f : Bool) : Int := if f || decide (0 < xs.length) then 4 else 0
set_option maxHeartbeats 400000 in
theorem Number_r (W0 : World) (g : Nat) (w : World) (xs : List B8) (m : Nat) (hm : m ≤ 4611686018427387903) (h : Rd W0 g w xs false) :
    Calls Tryz.prog 84 #[.pointer (some ⟨g, 0, none⟩), .int .i64 (m : Int)] w (RdPost W0 g w (.int .i64 (resN (rd m xs) : Int)) (resL (rd m xs)) (resF (rd m xs))) := by
  have HR := Lib.hid h
  clear h
  go_enter Tryz.func84, Tryz.ntmps84
  go_wp2_with fail
  refine (dead_r W0 g w _ false HR.out).mono ?_
  rintro e w' ⟨rfl, rfl⟩
  go_wp2_with fail
  refine (number_r W0 g w xs m hm HR.out).mono ?_
  rintro e w' ⟨rfl, hr, ho⟩
  have HR2 := Lib.hid hr
  have HO := Lib.hid ho
  clear hr ho
  go_wp2_with fail
  go_ret
  exact ⟨rfl, HR2.out, HO.out⟩

def NewRd (W : World) (xs : List B8) (e : Ending) (w' : World) : Prop :=
  ∃ W0 g, e = .returned (.pointer (some ⟨g, 0, none⟩)) ∧ Rd W0 g w' xs false ∧ Ok W W0 ∧ g + 1 = w'.heap.size
set_option maxRecDepth 100000 in
set_option maxHeartbeats 1000000 in
theorem newReader_r (W : World) (v : Value) (xs : List B8) (h : BytesIn W v xs) (_hx : xs.length ≤ 140737488350000) :
    Calls Tryz.prog 40 #[v] W (NewRd W xs) := by
  obtain ⟨A, c, rfl, _⟩ := h.form
  have HB := Lib.hid h
  have HON : Hid (OwnN W W.heap.size (.slice none 0 0) []) := Lib.hid (World.ownsRow_nil _ _ _ _)
  clear h
  go_enter Tryz.func40, Tryz.ntmps40
  go_wp2_with (at_builtin; go_must (refine wpList_app rfl (.const (.slice none 0 0)) (.tmp 3) rfl W.heap.size (.slice none 0 0) [] xs (.slice A xs.length c) rfl rfl HON.out HB.out (by simp; omega) (Nat.le_refl _) ?_; intro A' c' w2 hown2 hbel2; simp only [List.nil_append, List.length_nil, Nat.zero_add] at hown2 ⊢; have HOWN2 := Lib.hid hown2; have HBEL2 := Lib.hid hbel2; clear hown2 hbel2))
  go_ret
  refine ⟨w2, w2.heap.size, rfl, ⟨Nat.le_refl _, (Ok.refl w2).alloc _, ⟨_, HOWN2.out.bytes (by omega), ?_⟩, ?_, ?_, World.frozen?_alloc_at _ _ _ _ rfl, World.frozen?_alloc_at _ _ _ _ rfl⟩, HBEL2.out, by simp⟩
  all_goals (rw [World.cell?_alloc_at _ _ _ _ rfl]; rfl)
end Go.Proofs.YtebhcadolnjplaaGreat
