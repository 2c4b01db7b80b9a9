/- Checksums as plain mathematics: what four bits, a byte, bytes, parts of bytes make of a register of 32 bits; no program is imported. -/
namespace Go.Proofs.YtpebnlddmjfomaaDoor

abbrev B32 := BitVec 32
abbrev B8 := BitVec 8

/-- The table of the program's text. -/
def tabL : List B32 := [0#32, 498536548#32, 997073096#32, 651767980#32, 1994146192#32, 1802195444#32, 1303535960#32, 1342533948#32, 3988292384#32, 4027552580#32, 3604390888#32, 3412177804#32, 2607071920#32, 2262029012#32, 2685067896#32, 3183342108#32]
def T (k : Nat) : B32 := tabL.getD k 0#32
/-- Four zero bits. -/
def zs (v : B32) : B32 := v >>> 4 ^^^ T (v.toNat % 16)
/-- A byte. -/
def fd (v : B32) (b : B8) : B32 := zs (zs (v ^^^ b.setWidth 32))
def fds (v : B32) (l : List B8) : B32 := l.foldl fd v
def fdss (v : B32) (ll : List (List B8)) : B32 := ll.foldl fds v
def more (s : B32) (ll : List (List B8)) : B32 := ~~~ fdss (~~~ s) ll

/-- A bit, by definition. -/
def L (v : B32) : B32 := if v.getLsbD 0 then (v >>> 1) ^^^ 3988292384#32 else v >>> 1
def bit (r d : B32) : B32 := if (r &&& 1#32) ^^^ d = 1#32 then (r >>> 1) ^^^ 3988292384#32 else r >>> 1
def bitOf (b : B8) (i : Nat) : B32 := (b >>> i).setWidth 32 &&& 1#32
def rfeed (r : B32) (b : B8) : Nat → B32
  | 0 => r
  | i + 1 => bit (rfeed r b i) (bitOf b i)

theorem fds_append (v : B32) (a b : List B8) : fds v (a ++ b) = fds (fds v a) b := by simp [fds]
theorem fdss_flat (v : B32) (ll : List (List B8)) : fdss v ll = fds v ll.flatten := by
  induction ll generalizing v with
  | nil => rfl
  | cons a ll ih => simp only [fdss, List.foldl_cons, List.flatten_cons, fds_append] at *; exact ih _

/- The bit step is linear. -/
theorem L_xor (a b : B32) : L (a ^^^ b) = L a ^^^ L b := by
  unfold L
  have h : (a ^^^ b).getLsbD 0 = (a.getLsbD 0 ^^ b.getLsbD 0) := by simp
  rw [h]
  have e : ∀ x y p : B32, x ^^^ y = (x ^^^ p) ^^^ (y ^^^ p) := fun x y p => by
    rw [BitVec.xor_assoc, BitVec.xor_comm p, BitVec.xor_assoc, BitVec.xor_self, BitVec.xor_zero]
  cases a.getLsbD 0 <;> cases b.getLsbD 0
  · simp [BitVec.ushiftRight_xor_distrib]
  · simp only [BitVec.ushiftRight_xor_distrib, Bool.false_xor, if_true, Bool.false_eq_true, if_false]; rw [BitVec.xor_assoc]
  · simp only [BitVec.ushiftRight_xor_distrib, Bool.true_xor, Bool.not_false, if_true, Bool.false_eq_true, if_false]; rw [BitVec.xor_assoc, BitVec.xor_assoc, BitVec.xor_comm (b >>> 1)]
  · simp only [BitVec.ushiftRight_xor_distrib, Bool.xor_self, if_true, Bool.false_eq_true, if_false]; exact e _ _ _
theorem L_even (v : B32) (h : v.getLsbD 0 = false) : L v = v >>> 1 := by unfold L; rw [h]; rfl

def Ln : Nat → B32 → B32
  | 0, v => v
  | n + 1, v => Ln n (L v)
theorem Ln_xor (n : Nat) (a b : B32) : Ln n (a ^^^ b) = Ln n a ^^^ Ln n b := by
  induction n generalizing a b with
  | zero => rfl
  | succ n ih => simp only [Ln, L_xor, ih]
theorem Ln_add (m n : Nat) (v : B32) : Ln (m + n) v = Ln n (Ln m v) := by
  induction m generalizing v with
  | zero => simp [Ln]
  | succ m ih => rw [Nat.add_right_comm]; simp only [Ln, ih]
theorem Ln_even (n : Nat) (v : B32) (h : ∀ i, i < n → v.getLsbD i = false) : Ln n v = v >>> n := by
  induction n generalizing v with
  | zero => simp [Ln]
  | succ n ih =>
    rw [Ln, L_even v (h 0 (by omega)), ih]
    · rw [← BitVec.shiftRight_add]; congr 1; omega
    · intro i hi; simp; have := h (1 + i) (by omega); simpa [BitVec.getLsbD] using this
theorem low_small (k : Nat) (hk : k < 16) : Ln 4 (BitVec.ofNat 32 k) = T k := by
  have : ∀ k : Fin 16, Ln 4 (BitVec.ofNat 32 k.1) = T k.1 := by decide +kernel
  exact this ⟨k, hk⟩
theorem zs_eq (v : B32) : zs v = Ln 4 v := by
  have e : v = (v &&& 4294967280#32) ^^^ BitVec.ofNat 32 (v.toNat % 16) := by
    apply BitVec.eq_of_getLsbD_eq
    intro i hi
    simp only [BitVec.getLsbD_xor, BitVec.getLsbD_and, BitVec.getLsbD_ofNat, hi, decide_true, Bool.true_and]
    have h16 : (v.toNat % 16).testBit i = (decide (i < 4) && v.toNat.testBit i) := by
      have := Nat.testBit_mod_two_pow v.toNat 4 i
      simpa using this
    rw [h16]
    have hm : (4294967280 : Nat).testBit i = decide (4 ≤ i) := by
      have : ∀ i : Fin 32, (4294967280 : Nat).testBit i.1 = decide (4 ≤ i.1) := by decide +kernel
      exact this ⟨i, hi⟩
    rw [hm]
    by_cases h4 : i < 4
    · simp [h4, Nat.not_le.2 h4, BitVec.getLsbD]
    · simp [h4, Nat.not_lt.1 h4]
  have hlow : Ln 4 (v &&& 4294967280#32) = v >>> 4 := by
    rw [Ln_even]
    · apply BitVec.eq_of_getLsbD_eq
      intro i hi
      simp only [BitVec.getLsbD_ushiftRight, BitVec.getLsbD_and, BitVec.getLsbD_ofNat]
      by_cases h : 4 + i < 32
      · have hm : (4294967280 : Nat).testBit (4 + i) = true := by
          have : ∀ i : Fin 32, (4294967280 : Nat).testBit i.1 = decide (4 ≤ i.1) := by decide +kernel
          rw [this ⟨4 + i, h⟩]; simp
        simp [h, hm]
      · simp [h]; exact BitVec.getLsbD_of_ge _ _ (by omega)
    · intro i hi
      simp only [BitVec.getLsbD_and, BitVec.getLsbD_ofNat]
      have hm : (4294967280 : Nat).testBit i = false := by
        have : ∀ i : Fin 4, (4294967280 : Nat).testBit i.1 = false := by decide +kernel
        exact this ⟨i, hi⟩
      simp [hm]
  rw [zs]
  conv => rhs; rw [e, Ln_xor, hlow, low_small _ (Nat.mod_lt _ (by decide))]
theorem fd_eq (v : B32) (b : B8) : fd v b = Ln 8 (v ^^^ b.setWidth 32) := by
  rw [fd, zs_eq, zs_eq, ← Ln_add]
theorem bit_eq (r d : B32) (hd : d = 0#32 ∨ d = 1#32) : bit r d = L (r ^^^ d) := by
  have h1 : ((r &&& 1#32) ^^^ d = 1#32) ↔ (r ^^^ d).getLsbD 0 = true := by
    have hr : r &&& 1#32 = if r.getLsbD 0 then 1#32 else 0#32 := by
      apply BitVec.eq_of_getLsbD_eq
      intro i hi
      by_cases h0 : i = 0
      · subst h0; cases h : r.getLsbD 0 <;> (have h' := h; simp at h'; simp [h'])
      · have : (1#32).getLsbD i = false := by
          rw [BitVec.getLsbD_one]; simp [h0]
        cases h : r.getLsbD 0 <;> simp [this]
    rw [hr]
    rcases hd with rfl | rfl <;> cases h : r.getLsbD 0 <;> (have h' := h; simp at h'; simp [h'])
  have h2 : (r ^^^ d) >>> 1 = r >>> 1 := by
    rw [BitVec.ushiftRight_xor_distrib]
    rcases hd with rfl | rfl
    · simp
    · rw [show (1#32 >>> 1) = 0#32 from by decide, BitVec.xor_zero]
  unfold bit L
  rw [h2]
  by_cases h : (r ^^^ d).getLsbD 0 = true
  · rw [if_pos (h1.2 h), if_pos h]
  · rw [if_neg (fun e => h (h1.1 e)), if_neg h]
theorem bitOf_cases (b : B8) (i : Nat) : bitOf b i = 0#32 ∨ bitOf b i = 1#32 := by
  unfold bitOf
  generalize (b >>> i).setWidth 32 = x
  have hr : x &&& 1#32 = if x.getLsbD 0 then 1#32 else 0#32 := by
    apply BitVec.eq_of_getLsbD_eq
    intro i hi
    by_cases h0 : i = 0
    · subst h0; cases h : x.getLsbD 0 <;> (have h' := h; simp at h'; simp [h'])
    · have : (1#32).getLsbD i = false := by
        rw [BitVec.getLsbD_one]; simp [h0]
      cases h : x.getLsbD 0 <;> simp [this]
  rw [hr]; cases x.getLsbD 0 <;> simp
/-- The byte's bits from the i-th on, at their places. -/
theorem rfeed_eq (r : B32) (b : B8) (n : Nat) (hn : n ≤ 8) : rfeed r b n ^^^ (b.setWidth 32 >>> n) = Ln n (r ^^^ b.setWidth 32) := by
  induction n with
  | zero => simp [rfeed, Ln]
  | succ n ih =>
    have ih := ih (by omega)
    have e : Ln (n + 1) (r ^^^ b.setWidth 32) = L (Ln n (r ^^^ b.setWidth 32)) := by rw [Ln_add]; rfl
    rw [e, ← ih, rfeed, bit_eq _ _ (bitOf_cases b n)]
    have hs : b.setWidth 32 >>> n = bitOf b n ^^^ (b.setWidth 32 >>> n &&& 4294967294#32) := by
      apply BitVec.eq_of_getLsbD_eq
      intro i hi
      unfold bitOf
      simp only [BitVec.getLsbD_xor, BitVec.getLsbD_and, BitVec.getLsbD_setWidth, BitVec.getLsbD_ushiftRight, BitVec.getLsbD_ofNat, hi, decide_true, Bool.true_and]
      have hm : (4294967294 : Nat).testBit i = decide (1 ≤ i) := by
        have : ∀ i : Fin 32, (4294967294 : Nat).testBit i.1 = decide (1 ≤ i.1) := by decide +kernel
        exact this ⟨i, hi⟩
      rw [hm]
      by_cases h0 : i = 0
      · subst h0; simp; intro h; have := BitVec.lt_of_getLsbD h; omega
      · have h1 : (1 : Nat).testBit i = false := by
          have : ∀ i : Fin 32, i.1 ≠ 0 → (1 : Nat).testBit i.1 = false := by decide +kernel
          exact this ⟨i, hi⟩ h0
        by_cases h2 : n + i < 32
        · simp [h1, Nat.one_le_iff_ne_zero.2 h0, h2]
        · simp [h1, Nat.one_le_iff_ne_zero.2 h0, h2]
    have he : L (b.setWidth 32 >>> n &&& 4294967294#32) = b.setWidth 32 >>> (n + 1) := by
      rw [L_even]
      · apply BitVec.eq_of_getLsbD_eq
        intro i hi
        simp only [BitVec.getLsbD_ushiftRight, BitVec.getLsbD_and, BitVec.getLsbD_ofNat, BitVec.getLsbD_setWidth]
        by_cases h : 1 + i < 32
        · have hm : (4294967294 : Nat).testBit (1 + i) = true := by
            have : ∀ i : Fin 32, (4294967294 : Nat).testBit i.1 = decide (1 ≤ i.1) := by decide +kernel
            rw [this ⟨1 + i, h⟩]; simp
          have : n + (1 + i) = n + 1 + i := by omega
          simp [h, hm, this]
        · have h3 : ¬ (n + 1 + i < 32) := by omega
          simp [h, h3]
      · simp
    conv => rhs; rw [hs, ← BitVec.xor_assoc, L_xor, he]
theorem rfeed8 (r : B32) (b : B8) : rfeed r b 8 = fd r b := by
  have h := rfeed_eq r b 8 (by omega)
  have z : b.setWidth 32 >>> 8 = 0#32 := by
    apply BitVec.eq_of_getLsbD_eq
    intro i hi
    simp [BitVec.getLsbD_setWidth]
  rw [z, BitVec.xor_zero] at h
  rw [h, fd_eq]
end Go.Proofs.YtpebnlddmjfomaaDoor
