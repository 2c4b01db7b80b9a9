/- Checksums as plain mathematics, by way of the table of bytes. -/
import Derived.Test.YticmpkpopfkhnaaDoorT
namespace Go.Proofs.YticmpkpopfkhnaaDoor

theorem tv_eq (b : B8) : tv b.toNat = Ln 8 (b.setWidth 32) := by
  rw [tv, fd_eq, show (0#8).setWidth 32 = 0#32 from rfl, BitVec.xor_zero]
  congr 1
  apply BitVec.eq_of_toNat_eq
  rw [BitVec.toNat_ofNat, BitVec.toNat_setWidth]

theorem fd_table (r : B32) (b : B8) : fd r b = (r >>> 8) ^^^ tv (r.setWidth 8 ^^^ b).toNat := by
  rw [fd_eq, tv_eq]
  have hm : ∀ i, i < 32 → (4294967040 : Nat).testBit i = decide (8 ≤ i) := by
    have : ∀ i : Fin 32, (4294967040 : Nat).testBit i.1 = decide (8 ≤ i.1) := by decide +kernel
    exact fun i hi => this ⟨i, hi⟩
  have e : r ^^^ b.setWidth 32 = (r &&& 4294967040#32) ^^^ (r.setWidth 8 ^^^ b).setWidth 32 := by
    apply BitVec.eq_of_getLsbD_eq
    intro i hi
    simp only [BitVec.getLsbD_xor, BitVec.getLsbD_and, BitVec.getLsbD_ofNat, BitVec.getLsbD_setWidth, hi, decide_true, Bool.true_and, hm i hi]
    by_cases h8 : i < 8
    · simp [h8, Nat.not_le.2 h8]
    · simp [h8, Nat.not_lt.1 h8]
  have hlow : Ln 8 (r &&& 4294967040#32) = r >>> 8 := by
    rw [Ln_even]
    · apply BitVec.eq_of_getLsbD_eq
      intro i hi
      simp only [BitVec.getLsbD_ushiftRight, BitVec.getLsbD_and, BitVec.getLsbD_ofNat]
      by_cases h : 8 + i < 32
      · simp [h, hm _ h]
      · simp [h]; exact BitVec.getLsbD_of_ge _ _ (by omega)
    · intro i hi
      simp only [BitVec.getLsbD_and, BitVec.getLsbD_ofNat, hm i (by omega)]
      simp; omega
  rw [e, Ln_xor, hlow]

theorem more_two (s : B32) (a b : List B8) : more s [a, b] = more s [a ++ b] := by simp [more, fdss, fds_append]
theorem more_behind (a b : List B8) : more (more 0#32 [a]) [b] = more 0#32 [a ++ b] := by simp [more, fdss, fds_append]
theorem more_cut (s : B32) (a : List B8) (k : Nat) : more s [a.take k, [], a.drop k] = more s [a] := by
  have h : fds (~~~s) a = fds (fds (~~~s) (a.take k)) (a.drop k) := by rw [← fds_append, List.take_append_drop]
  simp only [more, fdss, List.foldl_cons, List.foldl_nil, h]; rfl
theorem more_none (s : B32) : more s [] = s := by simp [more, fdss]
theorem more_rest (a b : List B8) : ~~~ fds (~~~ more 0#32 [a]) b = more 0#32 [a ++ b] := by simp [more, fdss, fds_append]
end Go.Proofs.YticmpkpopfkhnaaDoor
