/- Rows: what is written is read; plain mathematics. -/
import Derived.Test.YtebhcadolnjplaaGreatTe
namespace Go.Proofs.YtebhcadolnjplaaGreat
open Go.RowKit

theorem rowB_key {r : Rw} (h : rowB r = true) : keyB r.key = true := by
  unfold rowB at h
  rw [Bool.and_eq_true] at h
  exact h.1
theorem rdF_fwd (m : Nat) (r : List B8) : ∀ (f k n d : Nat), d < 128 ^ f → (0 < k → 0 < d) → (0 < f ∨ 0 < k) → n + d * 128 ^ k ≤ m →
    rdF m f k n (encF f d ++ r) = some (n + d * 128 ^ k, r) := by
  intro f
  induction f with
  | zero => intro k n d hd hk h; simp at hd; omega
  | succ f ih =>
    intro k n d hd hk _ hm
    by_cases hl : 127 < d
    · rw [encF, if_pos hl]
      have hb : (BitVec.ofNat 8 (d % 128 + 128)).toNat = d % 128 + 128 := by rw [BitVec.toNat_ofNat]; omega
      rw [List.cons_append, rdF, hb, if_pos (by omega)]
      have e : (d % 128 + 128) % 128 = d % 128 := by omega
      have hq : n + d % 128 * 128 ^ k + d / 128 * 128 ^ (k + 1) = n + d * 128 ^ k := by
        rw [Nat.pow_succ, ← Nat.mul_assoc, Nat.mul_right_comm, Nat.add_assoc, ← Nat.add_mul, Nat.mod_add_div' d 128]
      rw [e, ih (k + 1) _ (d / 128) (by rw [Nat.pow_succ] at hd; exact Nat.div_lt_of_lt_mul (by rw [Nat.mul_comm]; exact hd)) (fun _ => by omega) (.inr (by omega)) (by rw [hq]; exact hm), hq]
    · rw [encF, if_neg hl]
      have hb : (BitVec.ofNat 8 d).toNat = d := by rw [BitVec.toNat_ofNat]; omega
      rw [List.cons_append, List.nil_append, rdF, hb, if_neg hl]
      have e : d % 128 = d := by omega
      rw [e, if_neg]
      intro h
      rcases h with ⟨h1, h2⟩ | h
      · have := hk h2; omega
      · omega
theorem rd_fwd (m d : Nat) (r : List B8) (hd : d ≤ 4611686018427387903) (hm : d ≤ m) : rd m (enc d ++ r) = some (d, r) := by
  have := rdF_fwd m r 9 0 0 d (by omega) (fun h => by omega) (.inl (by omega)) (by omega)
  simpa [rd, enc] using this

/-- A thing that is written. -/
inductive Item where
  | num (n : Int) | flag (b : Bool) | txt (l : List B8) | row (l : List B8)

def goodB (n : Int) : Bool := decide (0 ≤ n) && decide (n ≤ 4611686018427387903)
theorem num_fwd (m d : Nat) (r : List B8) (hd : d ≤ 4611686018427387903) (hm : d ≤ m) : numM m (enc d ++ r) false = (d, r, false) := by
  unfold numM
  rw [rd_fwd m d r hd hm]
  rfl
theorem row_fwd (m : Nat) (s : Str) (r : List B8) (hs : s.size ≤ m) (hm : m ≤ 1000000) : rowM m (encT s ++ r) false = (ofStr s, r, false) := by
  have h := num_fwd m s.size (ofStr s ++ r) (by omega) hs
  unfold rowM encT
  rw [List.append_assoc, h]
  have hl := ofStr_len s
  simp only [Bool.false_eq_true, if_false, List.length_append, hl]
  rw [if_neg (by omega)]
  simp only [List.take_append_of_le_length (Nat.le_of_eq hl.symm), List.drop_append_of_le_length (Nat.le_of_eq hl.symm)]
  rw [List.take_of_length_le (by omega), List.drop_of_length_le (by omega), List.nil_append]
theorem toStr_ofStr (s : Str) : toStr (ofStr s) = s := by
  unfold toStr ofStr
  rw [List.map_map]
  have : ((fun b : B8 => UInt8.ofNat b.toNat) ∘ fun b : UInt8 => BitVec.ofNat 8 b.toNat) = id := by
    funext b
    have := b.toNat_lt
    simp
  rw [this, List.map_id]
theorem encT2 (a b : Str) (r : List B8) : encsT [a, b] ++ r = encT a ++ (encT b ++ r) := by simp [encsT]
theorem rowB_sz {r : Rw} (h : rowB r = true) : r.key.size ≤ 20 ∧ r.val.size ≤ 20 := by
  unfold rowB keyB at h
  simp only [Bool.and_eq_true, decide_eq_true_eq] at h
  exact ⟨h.1.1.2, h.2⟩
theorem rd_rows (r : List B8) : ∀ (l2 l1 : List Rw) (a : Str), (∀ x, x ∈ l2 → rowB x = true) → Rises l2 → (∀ x, x ∈ l2 → ltB a x.key = true) → rdRows l2.length l1 a (encR l2 ++ r) false = some (l1 ++ l2, r, false)
  | [], l1, a, _, _, _ => by simp [rdRows, encR]
  | x :: l2, l1, a, hb, hr, ha => by
    have hx := hb x (List.mem_cons_self ..)
    have hz := rowB_sz hx
    have hax := ha x (List.mem_cons_self ..)
    obtain ⟨h1, h2⟩ := rises_cons hr
    have e : encR (x :: l2) ++ r = encT x.key ++ (encT x.val ++ (encR l2 ++ r)) := by
      rw [← encT2]
      simp [encR]
    rw [e, List.length_cons, rdRows, row_fwd 20 x.key _ hz.1 (by decide)]
    simp only []
    rw [row_fwd 20 x.val _ hz.2 (by decide)]
    simp only [toStr_ofStr]
    rw [if_pos (by rw [show (⟨x.key, x.val⟩ : Rw) = x from rfl, hx, hax]; rfl)]
    exact (rd_rows r l2 (l1 ++ [x]) x.key (fun y hy => hb y (List.mem_cons_of_mem _ hy)) h2 h1).trans (by simp)
theorem first_key {l : List Rw} (h : ∀ x, x ∈ l → rowB x = true) (x : Rw) (hx : x ∈ l) : ltB ⟨#[]⟩ x.key = true := by
  have hk := rowB_key (h x hx)
  unfold keyB at hk
  simp only [Bool.and_eq_true, decide_eq_true_eq] at hk
  have h1 := hk.1.1
  have e : (⟨#[]⟩ : Str).toList = [] := toList_none
  cases hl : ltB ⟨#[]⟩ x.key with
  | true => rfl
  | false =>
    exfalso
    unfold ltB at hl
    rw [e, toList_data] at hl
    have hsz : x.key.data.toList.length = x.key.size := rfl
    cases hd : x.key.data.toList with
    | nil => rw [hd] at hsz; simp at hsz; omega
    | cons a t => rw [hd] at hl; simp [Op.bytesLess] at hl
theorem read_back (l : List Rw) (h : ∀ x, x ∈ l → rowB x = true) (hr : Rises l) (n : Nat) (hn : l.length = n) (h4 : n ≤ 400) (r : List B8) : readM (encsI [(n : Int)] ++ encR l ++ r) = some (l, r) := by
  have e : encsI [(n : Int)] = enc n := by simp [encsI, encI, badN_nat n (by omega)]
  unfold readM
  rw [e, List.append_assoc, num_fwd 400 n _ (by omega) h4]
  simp only []
  rw [← hn, rd_rows r l [] ⟨#[]⟩ h hr (first_key h)]
  rfl
end Go.Proofs.YtebhcadolnjplaaGreat
