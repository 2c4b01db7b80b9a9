/- Contracts of the reader of bytes: what each call tells, and where the reader stands behind it, is what the plain mathematics says. -/
import Derived.Test.YtnjaiiifafbbjaaD
namespace Go.Proofs.Ytnjaiiifafbbjaa
open Go.RowKit

/-- A reader at block g: its bytes, which lie in memory as it was at W0, below it; whether it has failed. Nothing below block g has turned since W0. -/
def Rd (W0 : World) (g : Nat) (w : World) (xs : List B8) (failed : Bool) : Prop :=
  W0.heap.size ≤ g ∧ Ok W0 w ∧ (∃ v, BytesIn W0 v xs ∧ w.cell? ⟨g, 0, none⟩ = some v) ∧ w.cell? ⟨g, 1, none⟩ = some (.bool failed) ∧ w.cell? ⟨g, 2, none⟩ = some (.bool true) ∧
    w.frozen? ⟨g, 0, none⟩ = false ∧ w.frozen? ⟨g, 1, none⟩ = false
/-- At most block g has turned of what was there, and nothing is new. -/
def Only (g : Nat) (w w' : World) : Prop := w'.os = w.os ∧ w'.tape = w.tape ∧ w'.output = w.output ∧ w'.heap.size = w.heap.size ∧ ∀ k, k ≠ g → w'.heap[k]? = w.heap[k]?
theorem Only.refl (g : Nat) (w : World) : Only g w w := ⟨rfl, rfl, rfl, rfl, fun _ _ => rfl⟩
theorem Only.trans {g : Nat} {a b c : World} (h : Only g a b) (k : Only g b c) : Only g a c :=
  ⟨k.1.trans h.1, k.2.1.trans h.2.1, k.2.2.1.trans h.2.2.1, k.2.2.2.1.trans h.2.2.2.1, fun i hi => (k.2.2.2.2 i hi).trans (h.2.2.2.2 i hi)⟩
theorem Only.set {g : Nat} {a b : World} (h : Only g a b) (o : Nat) (v : Value) : Only g a (b.setCell ⟨g, o, none⟩ v) :=
  h.trans ⟨rfl, rfl, rfl, by simp [World.setCell], fun k hk => heap_setCell_other b ⟨g, o, none⟩ k v hk⟩
theorem Only.below {g : Nat} {a b : World} (h : Only g a b) {B : Nat} (hB : B ≤ g) : Below B a b :=
  ⟨h.1, h.2.1, h.2.2.1, Nat.le_of_eq h.2.2.2.1.symm, fun k hk => h.2.2.2.2 k (by omega)⟩

def RdPost (W0 : World) (g : Nat) (w : World) (res : Value) (ys : List B8) (failed : Bool) (e : Ending) (w' : World) : Prop :=
  e = .returned res ∧ Rd W0 g w' ys failed ∧ Only g w w'

theorem Rd.set {W0 : World} {g : Nat} {w : World} {xs ys : List B8} {f f' : Bool} {v : Value} (h : Rd W0 g w xs f) (hy : BytesIn W0 v ys) {w' : World} (ho : Only g w w')
    (h0 : w'.cell? ⟨g, 0, none⟩ = some v) (h1 : w'.cell? ⟨g, 1, none⟩ = some (.bool f')) (h2 : w'.cell? ⟨g, 2, none⟩ = some (.bool true)) (h3 : w'.frozen? ⟨g, 0, none⟩ = false) (h4 : w'.frozen? ⟨g, 1, none⟩ = false) :
    Rd W0 g w' ys f' :=
  ⟨h.1, Below.trans h.2.1 (ho.below h.1), ⟨v, hy, h0⟩, h1, h2, h3, h4⟩

set_option maxHeartbeats 400000 in
theorem fail_r (W0 : World) (g : Nat) (w : World) (xs : List B8) (f : Bool) (h : Rd W0 g w xs f) :
    Calls Try.prog 141 #[.pointer (some ⟨g, 0, none⟩)] w (RdPost W0 g w (.tuple #[]) [] true) := by
  have HR := Lib.hid h
  obtain ⟨_, _, ⟨v, _, h0⟩, h1, h2, h3, h4⟩ := h
  have HF : Hid (RdPost W0 g w (.tuple #[]) [] true (.returned (.tuple #[])) ((w.setCell ⟨g, 0, none⟩ (.slice none 0 0)).setCell ⟨g, 1, none⟩ (.bool true))) := Lib.hid
    ⟨rfl, HR.out.set (BytesIn.nil W0) (((Only.refl g w).set 0 _).set 1 _) (by go_simp) (by go_simp) (by go_simp) (by go_simp) (by go_simp), ((Only.refl g w).set 0 _).set 1 _⟩
  go_enter Try.func141, Try.ntmps141
  go_wp2
  go_end0
  exact HF.out

/-- What octet does at a list with a first byte. -/
theorem bytes_tail {w : World} {xs : List B8} {y : B8} {v : Value} (h : BytesIn w v (y :: xs)) : ∃ b o c, v = .slice (some ⟨b, o, none⟩) (xs.length + 1) c ∧ xs.length + 1 ≤ c ∧ w.cell? ⟨b, o, none⟩ = some (.int .u8 (ub y)) ∧
    (∀ A, (A = (if c = 1 then some (⟨b, o, none⟩ : Addr) else some ⟨b, o + 1, none⟩)) → BytesIn w (.slice A xs.length (c - 1)) xs) := by
  rcases h with ⟨h, _⟩ | ⟨b, o, c, rfl, hn, hm, hc⟩
  · cases h
  · simp only [List.length_cons] at hn hm hc
    refine ⟨b, o, c, rfl, hn, ?_, ?_⟩
    · have := hc 0 (by omega); simpa using this
    · rintro A rfl
      by_cases h1 : c = 1
      · subst h1
        rw [if_pos rfl]
        obtain rfl : xs = [] := List.length_eq_zero_iff.1 (by omega)
        exact .inl ⟨rfl, _, _, rfl, fun e => by cases e⟩
      · rw [if_neg h1]
        refine .inr ⟨b, o + 1, c - 1, rfl, by omega, by omega, fun i hi => ?_⟩
        have := hc (i + 1) (by omega)
        rw [show o + 1 + i = o + (i + 1) from by omega, this]
        simp

set_option maxHeartbeats 400000 in
theorem octet_none (W0 : World) (g : Nat) (w : World) (f : Bool) (h : Rd W0 g w [] f) :
    Calls Try.prog 140 #[.pointer (some ⟨g, 0, none⟩)] w (RdPost W0 g w (.int .u8 0) [] true) := by
  have HR := Lib.hid h
  obtain ⟨_, _, ⟨v, hv, h0⟩, h1, h2, h3, h4⟩ := h
  obtain ⟨A, c, rfl, _⟩ := hv.form
  clear hv
  simp only [List.length_nil] at h0
  go_enter Try.func140, Try.ntmps140
  go_wp2_with fail
  refine (fail_r W0 g w [] f HR.out).mono ?_
  rintro e w' ⟨rfl, hr, ho⟩
  have HR2 := Lib.hid hr
  have HO := Lib.hid ho
  clear hr ho
  go_wp2_with fail
  go_ret
  exact ⟨rfl, HR2.out, HO.out⟩

set_option maxHeartbeats 400000 in
theorem octet_some (W0 : World) (g : Nat) (w : World) (y : B8) (xs : List B8) (f : Bool) (h : Rd W0 g w (y :: xs) f) :
    Calls Try.prog 140 #[.pointer (some ⟨g, 0, none⟩)] w (RdPost W0 g w (.int .u8 (ub y)) xs f) := by
  have HR := Lib.hid h
  obtain ⟨hg, hok, ⟨v, hv, h0⟩, h1, h2, h3, h4⟩ := h
  have hlm : xs.length + 1 ≤ 140737488351232 := by
    obtain ⟨_, _, _, hl⟩ := hv.form
    simpa using hl
  obtain ⟨b, o, c, rfl, hc, hcell, htail⟩ := bytes_tail hv
  have hcell := hok.cell hcell
  have HT := Lib.hid htail
  have HF : Hid (∀ A c', BytesIn W0 (.slice A xs.length c') xs → RdPost W0 g w (.int .u8 (ub y)) xs f (.returned (.int .u8 (ub y))) (w.setCell ⟨g, 0, none⟩ (.slice A xs.length c'))) := Lib.hid fun A c' hA =>
    ⟨rfl, HR.out.set hA ((Only.refl g w).set 0 _) (by go_simp) (by go_simp) (by go_simp) (by go_simp) (by go_simp), (Only.refl g w).set 0 _⟩
  clear hok htail hv
  have hz : ((xs.length : Int) + 1 == 0) = false := by rw [beq_eq_false_iff_ne]; omega
  by_cases hc1 : c = 1
  · obtain rfl := hc1
    have hx0 : xs = [] := List.length_eq_zero_iff.1 (by omega)
    subst hx0
    have HB : Hid (BytesIn W0 (.slice (some ⟨b, o, none⟩) 0 0) []) := Lib.hid (by
      have := HT.out _ rfl
      rwa [if_pos rfl] at this)
    clear hz
    simp only [List.length_nil, Nat.zero_add] at h0
    go_enter Try.func140, Try.ntmps140
    go_wp2_with fail
    go_ret
    exact HF.out _ _ HB.out
  · have HB : Hid (BytesIn W0 (.slice (some ⟨b, o + 1, none⟩) xs.length (c - 1)) xs) := Lib.hid (by
      have := HT.out _ rfl
      rwa [if_neg hc1] at this)
    have hc2 : 1 < c := by omega
    go_enter Try.func140, Try.ntmps140
    go_wp2_with fail
    go_ret
    exact HF.out _ _ HB.out

theorem and127b (y : B8) : bits .and .u8 (ub y) 127 = ((y.toNat % 128 : Nat) : Int) := by
  have := bits_mask .u8 8 (by decide) wraps_u8 7 (by decide) (ub y) (ub_lo y) (ub_hi y)
  rw [show (2 : Int) ^ 7 - 1 = 127 from by decide] at this
  rw [this, ub]; simp
theorem or_shift (n m k : Nat) (hn : n < 128 ^ k) (hm : m < 128) (hk : k ≤ 8) : bits .or .i64 (n : Int) (((m * 128 ^ k : Nat)) : Int) = ((n + m * 128 ^ k : Nat) : Int) := by
  have hw : ∀ m : Int, 0 ≤ m → m < 2 ^ 63 → IntKind.i64.wrap m = m := fun m h0 h1 => by rw [IntKind.wrap_i64]; omega
  have h63 : (128 : Nat) ^ (k + 1) ≤ 2 ^ 63 := by
    have : (128 : Nat) ^ (k + 1) = 2 ^ (7 * (k + 1)) := by rw [Nat.pow_mul]
    rw [this]; exact Nat.pow_le_pow_right (by decide) (by omega)
  have hm2 : m * 128 ^ k + 128 ^ k ≤ 128 ^ (k + 1) := by
    have : (m + 1) * 128 ^ k ≤ 128 * 128 ^ k := Nat.mul_le_mul_right _ (by omega)
    rw [Nat.add_mul, Nat.one_mul] at this
    rw [Nat.pow_succ, Nat.mul_comm (128 ^ k) 128]; exact this
  have h1 := (bits_nat .i64 63 (by decide) hw n (m * 128 ^ k) (by omega) (by omega)).2
  rw [h1]
  have e : 128 ^ k = 2 ^ (7 * k) := by rw [Nat.pow_mul]
  have h2 := Nat.two_pow_add_eq_or_of_lt (i := 7 * k) (b := n) (by rw [← e]; exact hn) m
  rw [← e] at h2
  rw [Nat.or_comm, Nat.mul_comm m, ← h2, Nat.add_comm]
end Go.Proofs.Ytnjaiiifafbbjaa
