/- Keys and spans, as plain mathematics: the order of texts; what has a key; what is within. No program is imported. -/
import GoSem.Op.String
import Derived.Laws.Strings
namespace Go.Proofs.YtebhcadolnjplaaGreat

theorem u8_lt (a b : UInt8) : (a < b) = (a.toNat < b.toNat) := by simp [UInt8.lt_iff_toNat_lt]
theorem less_irrefl : ∀ l : List UInt8, Op.bytesLess l l = false
  | [] => rfl
  | a :: l => by
    rw [Op.bytesLess, less_irrefl l]
    simp
theorem less_trans : ∀ a b c : List UInt8, Op.bytesLess a b = true → Op.bytesLess b c = true → Op.bytesLess a c = true
  | a, [], _, h, _ => by cases a <;> cases h
  | a, b :: bs, [], _, h => by cases h
  | [], b :: bs, c :: cs, _, _ => rfl
  | a :: as, b :: bs, c :: cs, h1, h2 => by
    simp only [Op.bytesLess, Bool.or_eq_true, Bool.and_eq_true, decide_eq_true_eq, beq_iff_eq] at h1 h2 ⊢
    rcases h1 with h1 | ⟨rfl, h1⟩
    · rcases h2 with h2 | ⟨rfl, _⟩
      · exact .inl (by rw [u8_lt] at *; omega)
      · exact .inl h1
    · rcases h2 with h2 | ⟨rfl, h2⟩
      · exact .inl h2
      · exact .inr ⟨rfl, less_trans as bs cs h1 h2⟩
theorem less_total : ∀ a b : List UInt8, Op.bytesLess a b = false → Op.bytesLess b a = false → a = b
  | [], [], _, _ => rfl
  | [], b :: bs, h, _ => by cases h
  | a :: as, [], _, h => by cases h
  | a :: as, b :: bs, h1, h2 => by
    simp only [Op.bytesLess, Bool.or_eq_false_iff, Bool.and_eq_false_imp, decide_eq_false_iff_not, beq_iff_eq] at h1 h2
    have e : a = b := by
      have h3 := h1.1
      have h4 := h2.1
      rw [u8_lt] at h3 h4
      exact UInt8.toNat_inj.1 (by omega)
    subst e
    rw [less_total as bs (h1.2 rfl) (h2.2 rfl)]

theorem toList_data (s : ByteArray) : s.toList = s.data.toList := Go.ByteArray.toList_eq s
theorem toList_none : (ByteArray.mk #[]).toList = [] := by rw [toList_data]
theorem str_ext {a b : ByteArray} (h : a.toList = b.toList) : a = b := by
  rw [toList_data, toList_data] at h
  cases a; cases b
  congr 1
  exact Array.toList_inj.1 h

abbrev Str := ByteArray
def ltB (a b : Str) : Bool := Op.bytesLess a.toList b.toList
theorem ltB_irrefl (a : Str) : ltB a a = false := less_irrefl _
theorem ltB_trans {a b c : Str} (h1 : ltB a b = true) (h2 : ltB b c = true) : ltB a c = true := less_trans _ _ _ h1 h2
theorem ltB_total {a b : Str} (h1 : ltB a b = false) (h2 : ltB b a = false) : a = b := str_ext (less_total _ _ h1 h2)
/-- Not below is an order. -/
theorem geB_trans {a b c : Str} (h1 : ltB a b = false) (h2 : ltB b c = false) : ltB a c = false := by
  cases h : ltB a c with
  | false => rfl
  | true =>
    cases h3 : ltB b a with
    | true => rw [ltB_trans h3 h] at h2; cases h2
    | false => rw [ltB_total h1 h3] at h; rw [h] at h2; cases h2
theorem ltB_of_lt_ge {a b c : Str} (h1 : ltB a b = true) (h2 : ltB c b = false) : ltB a c = true := by
  cases h : ltB a c with
  | true => rfl
  | false =>
    cases h3 : ltB b c with
    | true => rw [ltB_trans h1 h3] at h; cases h
    | false => rw [ltB_total h2 h3] at h; rw [h] at h1; cases h1
theorem ltB_of_ge_lt {a b c : Str} (h1 : ltB b a = false) (h2 : ltB b c = true) : ltB a c = true := by
  cases h : ltB a c with
  | true => rfl
  | false =>
    cases h3 : ltB a b with
    | true => rw [ltB_trans h3 h2] at h; cases h
    | false => rw [ltB_total h3 h1] at h; rw [h] at h2; cases h2

def noB (s : Str) : Bool := s.toList == []
theorem noB_iff (s : Str) : noB s = true ↔ s = { data := #[] } := by
  unfold noB
  rw [beq_iff_eq]
  constructor
  · intro h; exact str_ext (h.trans toList_none.symm)
  · rintro rfl; exact toList_none
def letterB (c : UInt8) : Bool := (decide (97 ≤ c.toNat) && decide (c.toNat ≤ 122)) || (decide (48 ≤ c.toNat) && decide (c.toNat ≤ 57))
def keyB (s : Str) : Bool := decide (1 ≤ s.size) && decide (s.size ≤ 20) && s.data.toList.all letterB

structure Sp where
  lo : Str
  hi : Str
def aboveB (h t : Str) : Bool := noB h || ltB t h
def inB (h o : Str) : Bool := noB o || (!noB h && !ltB o h)
def rightB (s : Sp) : Bool := (noB s.lo || keyB s.lo) && (noB s.hi || keyB s.hi) && aboveB s.hi s.lo
def hasB (s : Sp) (k : Str) : Bool := rightB s && keyB k && !ltB k s.lo && aboveB s.hi k
def withinB (i s : Sp) : Bool := rightB i && rightB s && !ltB i.lo s.lo && inB i.hi s.hi
def meetM (a b : Sp) : Sp := ⟨if ltB a.lo b.lo then b.lo else a.lo, if inB b.hi a.hi then b.hi else a.hi⟩
def meetB (a b : Sp) : Option Sp := if rightB a && rightB b && rightB (meetM a b) then some (meetM a b) else none
def allS : Sp := ⟨{ data := #[] }, { data := #[] }⟩

theorem noB_lt (s t : Str) (h : noB t = true) : ltB s t = false := by
  rw [(noB_iff t).1 h]
  unfold ltB
  rw [toList_none]
  cases s.toList <;> rfl
theorem aboveB_in {h o t : Str} (h1 : aboveB h t = true) (h2 : inB h o = true) : aboveB o t = true := by
  simp only [aboveB, inB, Bool.or_eq_true, Bool.and_eq_true, Bool.not_eq_true'] at *
  rcases h2 with h2 | ⟨h2, h3⟩
  · exact .inl h2
  · rcases h1 with h1 | h1
    · rw [h1] at h2; cases h2
    · exact .inr (ltB_of_lt_ge h1 h3)
theorem inB_trans {a b c : Str} (h1 : inB a b = true) (h2 : inB b c = true) : inB a c = true := by
  simp only [inB, Bool.or_eq_true, Bool.and_eq_true, Bool.not_eq_true'] at *
  rcases h2 with h2 | ⟨h2, h3⟩
  · exact .inl h2
  · rcases h1 with h1 | ⟨h1, h4⟩
    · rw [h1] at h2; cases h2
    · exact .inr ⟨h1, geB_trans h3 h4⟩
theorem inB_refl (a : Str) : inB a a = true := by
  unfold inB
  cases h : noB a <;> simp [ltB_irrefl]
theorem inB_anti {a b : Str} (h1 : inB a b = true) (h2 : inB b a = true) : a = b := by
  simp only [inB, Bool.or_eq_true, Bool.and_eq_true, Bool.not_eq_true'] at *
  rcases h1 with h1 | ⟨h1, h3⟩
  · rcases h2 with h2 | ⟨h2, h4⟩
    · rw [(noB_iff a).1 h2, (noB_iff b).1 h1]
    · rw [h1] at h2; cases h2
  · rcases h2 with h2 | ⟨h2, h4⟩
    · rw [h2] at h1; cases h1
    · exact ltB_total h4 h3
theorem within_has {a b : Sp} {k : Str} (h : withinB a b = true) (hk : hasB a k = true) : hasB b k = true := by
  simp only [withinB, hasB, Bool.and_eq_true, Bool.not_eq_true'] at *
  obtain ⟨⟨⟨_, hb⟩, hlo⟩, hhi⟩ := h
  obtain ⟨⟨⟨_, hkk⟩, hkl⟩, hkh⟩ := hk
  exact ⟨⟨⟨hb, hkk⟩, geB_trans hkl hlo⟩, aboveB_in hkh hhi⟩
theorem within_trans {a b c : Sp} (h1 : withinB a b = true) (h2 : withinB b c = true) : withinB a c = true := by
  simp only [withinB, Bool.and_eq_true, Bool.not_eq_true'] at *
  exact ⟨⟨⟨h1.1.1.1, h2.1.1.2⟩, geB_trans h1.1.2 h2.1.2⟩, inB_trans h1.2 h2.2⟩
theorem within_anti {a b : Sp} (h1 : withinB a b = true) (h2 : withinB b a = true) : a = b := by
  simp only [withinB, Bool.and_eq_true, Bool.not_eq_true'] at *
  obtain ⟨al, ah⟩ := a
  obtain ⟨bl, bh⟩ := b
  rw [show al = bl from ltB_total h1.1.2 h2.1.2, show ah = bh from inB_anti h1.2 h2.2]
theorem within_self (a : Sp) : withinB a a = rightB a := by
  unfold withinB
  rw [ltB_irrefl, inB_refl]
  cases rightB a <;> rfl
theorem right_all : rightB allS = true := by decide +kernel
theorem within_all (a : Sp) (h : rightB a = true) : withinB a allS = true := by
  have h1 : noB allS.lo = true := by decide +kernel
  have h2 : noB allS.hi = true := by decide +kernel
  unfold withinB
  rw [h, right_all, noB_lt a.lo _ h1, inB, h2]
  rfl
theorem meet_within {a b m : Sp} (h : meetB a b = some m) : withinB m a = true ∧ withinB m b = true := by
  unfold meetB at h
  split at h
  · rename_i hr
    simp only [Bool.and_eq_true] at hr
    obtain ⟨⟨ha, hb⟩, hm⟩ := hr
    simp only [Option.some.injEq] at h
    subst h
    have h3 : inB b.hi a.hi = true ∨ inB a.hi b.hi = true := by
      simp only [inB, Bool.or_eq_true, Bool.and_eq_true, Bool.not_eq_true']
      cases h1 : noB a.hi with
      | true => simp
      | false =>
        cases h2 : noB b.hi with
        | true => simp
        | false =>
          cases h3 : ltB a.hi b.hi with
          | false => simp
          | true =>
            cases h4 : ltB b.hi a.hi with
            | false => simp
            | true => have := ltB_trans h3 h4; rw [ltB_irrefl] at this; cases this
    have hlo1 : ltB (meetM a b).lo a.lo = false := by
      unfold meetM
      simp only
      split
      · rename_i h1
        cases h2 : ltB b.lo a.lo with
        | false => rfl
        | true => have := ltB_trans h1 h2; rw [ltB_irrefl] at this; cases this
      · exact ltB_irrefl _
    have hlo2 : ltB (meetM a b).lo b.lo = false := by
      unfold meetM
      simp only
      split
      · exact ltB_irrefl _
      · rename_i h1; exact Bool.eq_false_iff.2 h1
    have hhi1 : inB (meetM a b).hi a.hi = true := by
      unfold meetM
      simp only
      split
      · assumption
      · exact inB_refl _
    have hhi2 : inB (meetM a b).hi b.hi = true := by
      unfold meetM
      simp only
      split
      · exact inB_refl _
      · rename_i h1; exact h3.resolve_left h1
    unfold withinB
    rw [hm, ha, hb, hlo1, hlo2, hhi1, hhi2]
    exact ⟨rfl, rfl⟩
  · cases h
end Go.Proofs.YtebhcadolnjplaaGreat
