/- Numbers as bytes, as plain mathematics: what is written of a number, and what is read of bytes; what was read, written again, are the same bytes. No program is imported. -/
namespace Go.Proofs.Ytolfdncmlfnbdaa

abbrev B8 := BitVec 8

/-- What is written of a number. -/
def encF : Nat → Nat → List B8
  | 0, n => [BitVec.ofNat 8 n]
  | f + 1, n => if 127 < n then BitVec.ofNat 8 (n % 128 + 128) :: encF f (n / 128) else [BitVec.ofNat 8 n]
def enc (n : Nat) : List B8 := encF 9 n
def encs (l : List Nat) : List B8 := (l.map enc).flatten

/-- What is read of bytes: the number, and the bytes behind it. -/
def rdF (m : Nat) : Nat → Nat → Nat → List B8 → Option (Nat × List B8)
  | 0, _, _, _ => none
  | _ + 1, _, _, [] => none
  | f + 1, k, n, y :: r =>
    if 127 < y.toNat then rdF m f (k + 1) (n + y.toNat % 128 * 128 ^ k) r
    else if (y.toNat = 0 ∧ 0 < k) ∨ m < n + y.toNat % 128 * 128 ^ k then none
    else some (n + y.toNat % 128 * 128 ^ k, r)
def rd (m : Nat) (xs : List B8) : Option (Nat × List B8) := rdF m 9 0 0 xs

theorem rdF_le (m f k n : Nat) (xs r : List B8) (N : Nat) (h : rdF m f k n xs = some (N, r)) : N ≤ m ∧ r.length < xs.length := by
  induction f generalizing k n xs with
  | zero => cases h
  | succ f ih =>
    cases xs with
    | nil => cases h
    | cons y xs =>
      rw [rdF] at h
      split at h
      · have := ih _ _ _ h
        exact ⟨this.1, by simp only [List.length_cons]; omega⟩
      · split at h
        · cases h
        · rename_i h2
          simp only [Option.some.injEq, Prod.mk.injEq] at h
          obtain ⟨rfl, rfl⟩ := h
          refine ⟨?_, by simp⟩
          have := fun e => h2 (.inr e)
          omega

theorem rdF_enc (m f k n : Nat) (xs r : List B8) (N : Nat) (h : rdF m f k n xs = some (N, r)) :
    ∃ d, N = n + d * 128 ^ k ∧ xs = encF f d ++ r ∧ (0 < k → 0 < d) := by
  induction f generalizing k n xs with
  | zero => cases h
  | succ f ih =>
    cases xs with
    | nil => cases h
    | cons y xs =>
      have hy := y.isLt
      rw [rdF] at h
      split at h
      · rename_i h1
        obtain ⟨d, e1, e2, e3⟩ := ih _ _ _ h
        have hd := e3 (by omega)
        refine ⟨y.toNat % 128 + d * 128, ?_, ?_, fun _ => by omega⟩
        · rw [e1, Nat.pow_succ, Nat.add_mul, Nat.add_assoc, Nat.mul_assoc, Nat.mul_comm (128 ^ k) 128]
        · rw [encF, if_pos (by omega), e2]
          have a1 : (y.toNat % 128 + d * 128) % 128 + 128 = y.toNat := by omega
          have a2 : (y.toNat % 128 + d * 128) / 128 = d := by omega
          rw [a1, a2]
          simp
      · rename_i h1
        split at h
        · cases h
        · rename_i h2
          simp only [Option.some.injEq, Prod.mk.injEq] at h
          obtain ⟨rfl, rfl⟩ := h
          refine ⟨y.toNat, ?_, ?_, fun hk => ?_⟩
          · rw [Nat.mod_eq_of_lt (show y.toNat < 128 by omega)]
          · rw [encF, if_neg h1]; simp
          · have := fun e => h2 (.inl e)
            omega
theorem rd_enc (m : Nat) (xs r : List B8) (N : Nat) (h : rd m xs = some (N, r)) : xs = enc N ++ r ∧ N ≤ m ∧ r.length < xs.length := by
  obtain ⟨d, e1, e2, _⟩ := rdF_enc m 9 0 0 xs r N h
  have hl := rdF_le m 9 0 0 xs r N h
  obtain rfl : N = d := by omega
  exact ⟨e2, hl⟩
theorem encF_len (f n : Nat) : (encF f n).length ≤ f + 1 := by
  induction f generalizing n with
  | zero => simp [encF]
  | succ f ih => rw [encF]; split
                 · have := ih (n / 128); simp only [List.length_cons]; omega
                 · simp
theorem enc_len (n : Nat) : (enc n).length ≤ 10 := encF_len 9 n
theorem encs_snoc (l : List Nat) (n : Nat) : encs (l ++ [n]) = encs l ++ enc n := by simp [encs]
theorem encs_take (l : List Nat) (k : Nat) (h : k < l.length) : encs (l.take (k + 1)) = encs (l.take k) ++ enc (l.getD k 0) := by
  rw [List.take_succ_eq_append_getElem h, encs_snoc]; simp [h]
end Go.Proofs.Ytolfdncmlfnbdaa
