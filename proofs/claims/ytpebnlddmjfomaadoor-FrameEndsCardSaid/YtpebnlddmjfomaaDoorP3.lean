/- Checksums as plain mathematics: bytes in which a bit is turned, two bits near each other, or some of 32 that follow each other, come to another register. -/
import Derived.Test.YtpebnlddmjfomaaDoorP4
namespace Go.Proofs.YtpebnlddmjfomaaDoor

/-- The i-th bit of bytes. -/
def bitAt (l : List B8) (i : Nat) : Bool := (l.getD (i / 8) 0#8).getLsbD (i % 8)
def one (b : Bool) : B32 := if b then 1#32 else 0#32
/-- Bits, fed one by one. -/
def fb (r : B32) (β : Nat → Bool) : Nat → B32
  | 0 => r
  | n + 1 => L (fb r β n ^^^ one (β n))

theorem one_xor (a b : Bool) : one (a ^^ b) = one a ^^^ one b := by cases a <;> cases b <;> rfl
theorem xor4 (a b c d : B32) : (a ^^^ b) ^^^ (c ^^^ d) = (a ^^^ c) ^^^ (b ^^^ d) := by ac_rfl
theorem fb_xor (r s : B32) (β γ : Nat → Bool) (n : Nat) : fb (r ^^^ s) (fun i => β i ^^ γ i) n = fb r β n ^^^ fb s γ n := by
  induction n with
  | zero => rfl
  | succ n ih => simp only [fb, ih, one_xor]; rw [xor4, L_xor]
theorem fb_congr (r : B32) (β γ : Nat → Bool) (n : Nat) (h : ∀ i, i < n → β i = γ i) : fb r β n = fb r γ n := by
  induction n with
  | zero => rfl
  | succ n ih => rw [fb, fb, ih (fun i hi => h i (by omega)), h n (by omega)]
theorem fb_add (r : B32) (β : Nat → Bool) (m n : Nat) : fb r β (m + n) = fb (fb r β m) (fun i => β (m + i)) n := by
  induction n with
  | zero => rfl
  | succ n ih => rw [← Nat.add_assoc, fb, fb, ih]
theorem L_zero : L 0#32 = 0#32 := by decide
theorem fb_none (r : B32) (β : Nat → Bool) (n : Nat) (h : ∀ i, i < n → β i = false) : fb r β n = Ln n r := by
  induction n with
  | zero => rfl
  | succ n ih =>
    rw [fb, ih (fun i hi => h i (by omega)), h n (by omega), Ln_add]
    show L (_ ^^^ 0#32) = _
    rw [BitVec.xor_zero]; rfl
theorem Ln_zero (n : Nat) : Ln n 0#32 = 0#32 := by
  induction n with
  | zero => rfl
  | succ n ih => rw [Ln, L_zero, ih]
theorem L_ne (v : B32) (h : v ≠ 0#32) : L v ≠ 0#32 := by
  intro e
  unfold L at e
  cases h0 : v.getLsbD 0 with
  | true =>
    rw [h0, if_pos rfl] at e
    have h1 := congrArg (fun x : B32 => x.getLsbD 31) e
    simp only [BitVec.getLsbD_xor, BitVec.getLsbD_ushiftRight] at h1
    rw [BitVec.getLsbD_of_ge v (1 + 31) (by omega), show (3988292384#32 : B32).getLsbD 31 = true from by decide, show (0#32 : B32).getLsbD 31 = false from by decide] at h1
    cases h1
  | false =>
    rw [h0] at e
    apply h
    apply BitVec.eq_of_getLsbD_eq
    intro i hi
    cases i with
    | zero => rw [h0]; rfl
    | succ i =>
      have h1 := congrArg (fun x : B32 => x.getLsbD i) e
      simp only [Bool.false_eq_true, if_false, BitVec.getLsbD_ushiftRight] at h1
      rw [Nat.add_comm i 1, h1]; simp
theorem Ln_ne (n : Nat) (v : B32) (h : v ≠ 0#32) : Ln n v ≠ 0#32 := by
  induction n generalizing v with
  | zero => exact h
  | succ n ih => exact ih _ (L_ne v h)

/-- Bytes are their bits. -/
theorem rfeed_fb (r : B32) (b : B8) (n : Nat) (β : Nat → Bool) (h : ∀ i, i < n → β i = b.getLsbD i) : rfeed r b n = fb r β n := by
  induction n with
  | zero => rfl
  | succ n ih =>
    rw [rfeed, fb, ih (fun i hi => h i (by omega)), bit_eq _ _ (bitOf_cases b n), h n (by omega)]
    congr 2
    unfold bitOf one
    apply BitVec.eq_of_getLsbD_eq
    intro i hi
    simp only [BitVec.getLsbD_and, BitVec.getLsbD_setWidth, BitVec.getLsbD_ushiftRight, hi, decide_true, Bool.true_and]
    by_cases h0 : i = 0
    · subst h0; cases hb : b.getLsbD n <;> simp
    · have h1 : (1#32 : B32).getLsbD i = false := by rw [BitVec.getLsbD_one]; simp [h0]
      rw [h1]
      cases hb : b.getLsbD n <;> simp [h0]
theorem fds_fb (r : B32) (l : List B8) : fds r l = fb r (bitAt l) (8 * l.length) := by
  induction l generalizing r with
  | nil => rfl
  | cons b l ih =>
    have h : fds r (b :: l) = fds (fd r b) l := rfl
    rw [h, ih, ← rfeed8, rfeed_fb r b 8 (bitAt (b :: l)) (fun i hi => by simp [bitAt, show i / 8 = 0 by omega, show i % 8 = i by omega])]
    rw [List.length_cons, Nat.mul_add, Nat.add_comm (8 * l.length), fb_add]
    apply fb_congr
    intro i _
    simp [bitAt, show (8 + i) / 8 = i / 8 + 1 by omega]

/-- A bit is turned. -/
def flip (l : List B8) (i : Nat) : List B8 := l.set (i / 8) (l.getD (i / 8) 0#8 ^^^ (1#8 <<< (i % 8)))
theorem flip_length (l : List B8) (i : Nat) : (flip l i).length = l.length := by simp [flip]
theorem bitAt_flip (l : List B8) (i j : Nat) (hi : i < 8 * l.length) : bitAt (flip l i) j = (bitAt l j ^^ decide (j = i)) := by
  unfold bitAt flip
  by_cases h : j / 8 = i / 8
  · rw [← h]
    have hl : j / 8 < l.length := by omega
    rw [List.getD_eq_getElem?_getD, List.getElem?_set_self hl]
    simp only [Option.getD_some, BitVec.getLsbD_xor]
    congr 1
    by_cases e : j = i
    · subst e; simp; omega
    · have e2 : j % 8 ≠ i % 8 := by omega
      simp only [e, decide_false, BitVec.getLsbD_shiftLeft]
      by_cases h3 : j % 8 < i % 8
      · simp [h3]
      · have : j % 8 - i % 8 ≠ 0 := by omega
        have h1 : (1#8 : B8).getLsbD (j % 8 - i % 8) = false := by rw [BitVec.getLsbD_one]; simp [this]
        simp [h1]
  · have e : j ≠ i := fun e => h (by rw [e])
    rw [List.getD_eq_getElem?_getD, List.getElem?_set_ne (fun x => h x.symm)]
    simp [e]

theorem diff (r : B32) (l l' : List B8) (δ : Nat → Bool) (hl : l'.length = l.length) (h : ∀ i, i < 8 * l.length → bitAt l' i = (bitAt l i ^^ δ i)) (hn : fb 0#32 δ (8 * l.length) ≠ 0#32) : fds r l' ≠ fds r l := by
  intro e
  rw [fds_fb, fds_fb, hl, fb_congr r _ _ _ h] at e
  have := fb_xor r 0#32 (bitAt l) δ (8 * l.length)
  rw [BitVec.xor_zero, e] at this
  apply hn
  have h2 := congrArg (fun x => fb r (bitAt l) (8 * l.length) ^^^ x) this
  simp only [BitVec.xor_self, ← BitVec.xor_assoc, BitVec.zero_xor] at h2
  exact h2.symm

/-- From bit k on, at most 32 bits, as a number x. -/
theorem fb_word (x : B32) (δ : Nat → Bool) (n : Nat) (hn : n ≤ 32) (h : ∀ i, i < n → δ i = x.getLsbD i) : fb 0#32 δ n ^^^ (x >>> n) = Ln n x := by
  induction n with
  | zero => simp [fb, Ln]
  | succ n ih =>
    have ih := ih (by omega) (fun i hi => h i (by omega))
    rw [Ln_add, ← ih, fb, h n (by omega)]
    have hs : x >>> n = one (x.getLsbD n) ^^^ (x >>> n &&& 4294967294#32) := by
      apply BitVec.eq_of_getLsbD_eq
      intro i hi
      have hm : (4294967294 : Nat).testBit i = decide (1 ≤ i) := by
        have : ∀ i : Fin 32, (4294967294 : Nat).testBit i.1 = decide (1 ≤ i.1) := by decide +kernel
        exact this ⟨i, hi⟩
      simp only [BitVec.getLsbD_xor, BitVec.getLsbD_and, BitVec.getLsbD_ushiftRight, BitVec.getLsbD_ofNat, hi, decide_true, Bool.true_and, hm]
      unfold one
      by_cases h0 : i = 0
      · subst h0; cases hb : x.getLsbD n <;> simp
      · have h1 : (1#32 : B32).getLsbD i = false := by rw [BitVec.getLsbD_one]; simp [h0]
        cases hb : x.getLsbD n <;> simp [h1, Nat.one_le_iff_ne_zero.2 h0]
    have he : L (x >>> n &&& 4294967294#32) = x >>> (n + 1) := by
      rw [L_even]
      · apply BitVec.eq_of_getLsbD_eq
        intro i hi
        simp only [BitVec.getLsbD_ushiftRight, BitVec.getLsbD_and, BitVec.getLsbD_ofNat]
        by_cases h : 1 + i < 32
        · have hm : (4294967294 : Nat).testBit (1 + i) = true := by
            have : ∀ i : Fin 32, (4294967294 : Nat).testBit i.1 = decide (1 ≤ i.1) := by decide +kernel
            rw [this ⟨1 + i, h⟩]; simp
          have : n + (1 + i) = n + 1 + i := by omega
          simp [h, hm, this]
        · have : x.getLsbD (n + 1 + i) = false := BitVec.getLsbD_of_ge _ _ (by omega)
          simp [h, this]
      · simp
    show _ = L (_)
    conv => rhs; rw [hs, ← BitVec.xor_assoc, L_xor, he]

theorem burst_ne (x : B32) (δ : Nat → Bool) (k n m : Nat) (hm : m ≤ 32) (hkm : k + m ≤ n) (hx : x ≠ 0#32) (hs : x >>> m = 0#32)
    (h0 : ∀ i, i < k → δ i = false) (h1 : ∀ i, i < m → δ (k + i) = x.getLsbD i) (h2 : ∀ i, k + m ≤ i → i < n → δ i = false) : fb 0#32 δ n ≠ 0#32 := by
  obtain ⟨q, rfl⟩ : ∃ q, n = k + m + q := ⟨n - (k + m), by omega⟩
  rw [fb_add, fb_add, fb_none 0#32 δ k h0, Ln_zero]
  have hw := fb_word x (fun i => δ (k + i)) m hm h1
  rw [hs, BitVec.xor_zero] at hw
  rw [hw, fb_none _ _ q (fun i hi => h2 _ (by omega) (by omega))]
  exact Ln_ne _ _ (Ln_ne _ _ hx)

theorem LN_eq (v : B32) : LN v.toNat = (L v).toNat := by
  have h0 : v.getLsbD 0 = decide (v.toNat % 2 = 1) := by
    rw [BitVec.getLsbD, Nat.testBit_zero]
  unfold LN L
  by_cases h : v.toNat % 2 = 1
  · rw [h0, if_pos h, if_pos (decide_eq_true h), BitVec.toNat_xor, BitVec.toNat_ushiftRight, Nat.shiftRight_eq_div_pow]; rfl
  · rw [h0, if_neg h, if_neg (by simp [h]), BitVec.toNat_ushiftRight, Nat.shiftRight_eq_div_pow]
theorem never_ne (n : Nat) (v : B32) (h : never n v.toNat = true) (i : Nat) (hi : i < n) : Ln (i + 1) v ≠ 1#32 := by
  induction n generalizing v i with
  | zero => omega
  | succ n ih =>
    rw [never, LN_eq] at h
    cases hb : ((L v).toNat == 1) with
    | true => rw [hb] at h; cases h
    | false =>
      rw [hb] at h
      have hne : L v ≠ 1#32 := fun e => by rw [e] at hb; simp at hb
      cases i with
      | zero => exact hne
      | succ i =>
        have := ih (L v) h i (by omega)
        exact this
theorem one_back (d : Nat) (h1 : 1 ≤ d) (h2 : d ≤ 32767) : Ln d 1#32 ≠ 1#32 := by
  have := never_ne 32767 1#32 never_ok (d - 1) (by omega)
  rwa [show d - 1 + 1 = d by omega] at this

theorem turned_one (r : B32) (l : List B8) (k : Nat) (hk : k < 8 * l.length) : fds r (flip l k) ≠ fds r l :=
  diff r l _ (fun j => decide (j = k)) (flip_length l k) (fun j _ => bitAt_flip l k j hk)
    (burst_ne 1#32 _ k _ 1 (by omega) (by omega) (by decide) (by decide) (fun i hi => by simp; omega) (fun i hi => by
      obtain rfl : i = 0 := by omega
      simp) (fun i h1 _ => by simp; omega))

theorem turned_two (r : B32) (l : List B8) (k m : Nat) (hkm : k < m) (hm : m < 8 * l.length) (hd : m - k ≤ 32767) : fds r (flip (flip l k) m) ≠ fds r l := by
  refine diff r l _ (fun j => decide (j = k) ^^ decide (j = m)) (by rw [flip_length, flip_length]) (fun j _ => ?_) ?_
  · rw [bitAt_flip _ m j (by rw [flip_length]; exact hm), bitAt_flip l k j (by omega), Bool.xor_assoc]
  · obtain ⟨d, rfl⟩ : ∃ d, m = k + (d + 1) := ⟨m - k - 1, by omega⟩
    obtain ⟨q, hq⟩ : ∃ q, 8 * l.length = k + (d + 1) + 1 + q := ⟨8 * l.length - (k + (d + 1) + 1), by omega⟩
    rw [hq, fb_add, fb, fb_add, fb_none 0#32 _ k (fun i hi => by simp; omega), Ln_zero]
    rw [show d + 1 = 1 + d from by omega, fb_add, fb_none _ _ d (fun i hi => by simp; omega), fb_none _ _ q (fun i hi => by simp; omega)]
    have e1 : fb 0#32 (fun i => decide (k + i = k) ^^ decide (k + i = k + (1 + d))) 1 = Ln 1 1#32 := by
      simp [fb, one, Ln]
    rw [e1, ← Ln_add]
    have e2 : one (decide (k + (1 + d) = k) ^^ decide (k + (1 + d) = k + (1 + d))) = 1#32 := by simp [one]
    rw [e2]
    refine Ln_ne _ _ (L_ne _ fun e => one_back (1 + d) (by omega) (by omega) ?_)
    have := congrArg (fun x => x ^^^ 1#32) e
    simpa [BitVec.xor_assoc] using this

/-- Those of 32 bits from bit k on that the pattern names are turned, the first i of them. -/
def burstTo (l : List B8) (k : Nat) (x : B32) : Nat → List B8
  | 0 => l
  | i + 1 => if x.getLsbD i then flip (burstTo l k x i) (k + i) else burstTo l k x i
theorem burstTo_length (l : List B8) (k : Nat) (x : B32) (i : Nat) : (burstTo l k x i).length = l.length := by
  induction i with
  | zero => rfl
  | succ i ih => rw [burstTo]; split <;> simp [flip_length, ih]
theorem bitAt_burst (l : List B8) (k : Nat) (x : B32) (i j : Nat) (hk : k + i ≤ 8 * l.length) : bitAt (burstTo l k x i) j = (bitAt l j ^^ (decide (k ≤ j) && decide (j < k + i) && x.getLsbD (j - k))) := by
  induction i with
  | zero =>
    have : (decide (k ≤ j) && decide (j < k + 0)) = false := by simp
    rw [burstTo, this]; simp
  | succ i ih =>
    have ih := ih (by omega)
    rw [burstTo]
    by_cases hb : x.getLsbD i = true
    · rw [if_pos hb, bitAt_flip _ _ _ (by rw [burstTo_length]; omega), ih, Bool.xor_assoc]
      congr 1
      by_cases e : j = k + i
      · subst e
        have h1 : (decide (k ≤ k + i) && decide (k + i < k + i)) = false := by simp
        have h2 : (decide (k ≤ k + i) && decide (k + i < k + (i + 1))) = true := by simp
        rw [h1, h2, show k + i - k = i by omega, hb]; simp
      · have h1 : (decide (j < k + i)) = decide (j < k + (i + 1)) := by rw [decide_eq_decide]; omega
        rw [h1]; simp [e]
    · have hb' : x.getLsbD i = false := by simpa using hb
      rw [if_neg hb, ih]
      congr 1
      by_cases e : j = k + i
      · subst e
        rw [show k + i - k = i by omega, hb']; simp
      · have h1 : (decide (j < k + i)) = decide (j < k + (i + 1)) := by rw [decide_eq_decide]; omega
        rw [h1]

/-- Is one of the first i bits named? -/
def anyTo (x : B32) : Nat → Bool
  | 0 => false
  | i + 1 => anyTo x i || x.getLsbD i
theorem anyTo_ne (x : B32) (i : Nat) (h : anyTo x i = true) : ∃ j, j < i ∧ x.getLsbD j = true := by
  induction i with
  | zero => cases h
  | succ i ih =>
    rw [anyTo, Bool.or_eq_true] at h
    rcases h with h | h
    · obtain ⟨j, hj, e⟩ := ih h; exact ⟨j, by omega, e⟩
    · exact ⟨i, by omega, h⟩
theorem turned_burst (r : B32) (l : List B8) (k m : Nat) (x : B32) (hm : m ≤ 32) (hk : k + m ≤ 8 * l.length) (h : anyTo x m = true) : fds r (burstTo l k x m) ≠ fds r l := by
  obtain ⟨j, hj, hb⟩ := anyTo_ne x m h
  -- the pattern's first m bits alone
  let y : B32 := BitVec.ofNat 32 (x.toNat % 2 ^ m)
  have hy : ∀ i, i < 32 → y.getLsbD i = (decide (i < m) && x.getLsbD i) := fun i hi => by
    show (BitVec.ofNat 32 (x.toNat % 2 ^ m)).getLsbD i = _
    rw [BitVec.getLsbD_ofNat, Nat.testBit_mod_two_pow]
    simp [hi, BitVec.getLsbD]
  refine diff r l _ (fun j => decide (k ≤ j) && decide (j < k + m) && x.getLsbD (j - k)) (burstTo_length l k x m) (fun i _ => bitAt_burst l k x m i hk) ?_
  refine burst_ne y _ k _ m hm hk ?_ ?_ ?_ ?_ ?_
  · intro e
    have := hy j (by omega)
    rw [e, hb] at this
    simp [hj] at this
  · apply BitVec.eq_of_getLsbD_eq
    intro i hi
    rw [BitVec.getLsbD_ushiftRight]
    by_cases h32 : m + i < 32
    · rw [hy _ h32, decide_eq_false (by omega)]; simp
    · rw [BitVec.getLsbD_of_ge _ _ (by omega)]; simp
  · intro i hi; simp; omega
  · intro i hi
    rw [hy i (by omega)]
    simp [hi]
  · intro i h1 _; simp; omega
end Go.Proofs.YtpebnlddmjfomaaDoor
