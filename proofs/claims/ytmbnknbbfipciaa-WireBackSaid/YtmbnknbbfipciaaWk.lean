/- What the law counts, and how long what is written can be: plain mathematics. -/
import Derived.Test.YtmbnknbbfipciaaWj
namespace Go.Proofs.Ytmbnknbbfipciaa

def tsum (l : List ByteArray) (k : Nat) : Nat := ((l.take k).map ByteArray.size).sum
def rsum (l : List (List B8)) (k : Nat) : Nat := ((l.take k).map List.length).sum
theorem tsum_succ (l : List ByteArray) (k : Nat) (h : k < l.length) : tsum l (k + 1) = tsum l k + (l.getD k { data := #[] }).size := by
  unfold tsum; rw [List.take_succ_eq_append_getElem h, List.map_append, List.sum_append]; simp [h]
theorem rsum_succ (l : List (List B8)) (k : Nat) (h : k < l.length) : rsum l (k + 1) = rsum l k + (l.getD k []).length := by
  unfold rsum; rw [List.take_succ_eq_append_getElem h, List.map_append, List.sum_append]; simp [h]
theorem tsum_le (l : List ByteArray) : ∀ (d k : Nat), k + d ≤ l.length → tsum l k ≤ tsum l (k + d)
  | 0, k, _ => Nat.le_refl _
  | d + 1, k, h => Nat.le_trans (tsum_le l d k (by omega)) (by rw [← Nat.add_assoc, tsum_succ l (k + d) (by omega)]; omega)
theorem rsum_le (l : List (List B8)) : ∀ (d k : Nat), k + d ≤ l.length → rsum l k ≤ rsum l (k + d)
  | 0, k, _ => Nat.le_refl _
  | d + 1, k, h => Nat.le_trans (rsum_le l d k (by omega)) (by rw [← Nat.add_assoc, rsum_succ l (k + d) (by omega)]; omega)
theorem size_le_tsum (l : List ByteArray) (k : Nat) (h : k < l.length) : (l.getD k { data := #[] }).size ≤ tsum l l.length := by
  have h1 := tsum_succ l k h
  have h2 := tsum_le l (l.length - (k + 1)) (k + 1) (by omega)
  rw [show k + 1 + (l.length - (k + 1)) = l.length by omega] at h2
  omega
theorem len_le_rsum (l : List (List B8)) (k : Nat) (h : k < l.length) : (l.getD k []).length ≤ rsum l l.length := by
  have h1 := rsum_succ l k h
  have h2 := rsum_le l (l.length - (k + 1)) (k + 1) (by omega)
  rw [show k + 1 + (l.length - (k + 1)) = l.length by omega] at h2
  omega

def badI : Item → Bool
  | .num n => !goodB n
  | _ => false
def spoil (l : List Item) : Bool := l.any badI
theorem spoil_append (a b : List Item) : spoil (a ++ b) = (spoil a || spoil b) := by simp [spoil]
theorem spoil_iff (nums : List Int) (flags : List Bool) (txts rows : List (List B8)) (N : Nat) (hN : nums.length ≤ N) :
    spoil (itemsTo nums flags txts rows N) = true ↔ ∃ k, k < nums.length ∧ goodB (nums.getD k 0) = false := by
  constructor
  · intro h
    unfold spoil at h
    rw [List.any_eq_true] at h
    obtain ⟨it, hi, hb⟩ := h
    simp only [itemsTo, List.mem_flatMap] at hi
    obtain ⟨i, _, hi⟩ := hi
    simp only [itemsAt, List.mem_append, List.mem_map, Option.mem_toList] at hi
    rcases hi with ((⟨x, hx, rfl⟩ | ⟨x, hx, rfl⟩) | ⟨x, hx, rfl⟩) | ⟨x, hx, rfl⟩
    · cases hb
    · cases hb
    · have hl : i < nums.length := by
        rcases Nat.lt_or_ge i nums.length with h | h
        · exact h
        · rw [List.getElem?_eq_none h] at hx; cases hx
      refine ⟨i, hl, ?_⟩
      have : nums.getD i 0 = x := by simp [List.getD, hx]
      rw [this]
      simpa [badI] using hb
    · cases hb
  · rintro ⟨k, hk, hb⟩
    unfold spoil
    rw [List.any_eq_true]
    refine ⟨.num (nums.getD k 0), ?_, by simp only [badI, hb]; rfl⟩
    simp only [itemsTo, List.mem_flatMap]
    refine ⟨k, by simp; omega, ?_⟩
    simp only [itemsAt, List.mem_append, List.mem_map, Option.mem_toList]
    exact .inl (.inr ⟨_, by simp [hk], rfl⟩)

theorem rowPart_spoil (rows : List (List B8)) (k : Nat) : spoil (rowPart rows k) = false := by
  unfold rowPart spoil; cases rows[k]? <;> simp [badI]
theorem flagPart_spoil (flags : List Bool) (k : Nat) : spoil (flagPart flags k) = false := by
  unfold flagPart spoil; cases flags[k]? <;> simp [badI]
theorem txtPart_spoil (txts : List (List B8)) (k : Nat) : spoil (txtPart txts k) = false := by
  unfold txtPart spoil; cases txts[k]? <;> simp [badI]
theorem readsB_all (its : List Item) (h : ∀ it ∈ its, it.ok) : readsB its (encAll its) = true := by
  have := runI_fwd its [] h
  rw [List.append_nil] at this
  simp [readsB, this]
theorem readsB_short (its : List Item) (h : ∀ it ∈ its, it.ok) (xs : List B8) (hl : xs.length < (encAll its).length) : readsB its xs = false := by
  rw [Bool.eq_false_iff]
  intro he
  simp only [readsB, Bool.and_eq_true, decide_eq_true_eq, Bool.not_eq_true'] at he
  obtain ⟨⟨h1, h2⟩, h3⟩ := he
  have := runI_bwd its xs [] h (Prod.ext (List.length_eq_zero_iff.1 h2) (Prod.ext h3 h1))
  rw [this] at hl
  simp at hl
end Go.Proofs.Ytmbnknbbfipciaa
