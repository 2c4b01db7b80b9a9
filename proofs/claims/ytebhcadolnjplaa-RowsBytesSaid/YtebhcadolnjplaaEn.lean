/- Cuts, as mathematics: the pieces of a right span are right, within it, and of its keys each has just one piece; of all keys they are parted; what two spans meet in has just the keys that both have. -/
import Derived.Test.YtebhcadolnjplaaXk
namespace Go.Proofs.Ytebhcadolnjplaa

def cnt (ps : List Sp) (k : Str) : Nat := ps.countP fun p => hasB p k
theorem ltB_asymm {a b : Str} (h : ltB a b = true) : ltB b a = false := by
  cases h2 : ltB b a with
  | false => rfl
  | true => have := ltB_trans h h2; rw [ltB_irrefl] at this; cases this
theorem has_parts {s : Sp} {k : Str} (h : hasB s k = true) : rightB s = true ∧ keyB k = true ∧ ltB k s.lo = false ∧ aboveB s.hi k = true := by
  simp only [hasB, Bool.and_eq_true, Bool.not_eq_true'] at h
  exact ⟨h.1.1.1, h.1.1.2, h.1.2, h.2⟩
theorem has_of {s : Sp} {k : Str} (h1 : rightB s = true) (h2 : keyB k = true) (h3 : ltB k s.lo = false) (h4 : aboveB s.hi k = true) : hasB s k = true := by
  simp [hasB, h1, h2, h3, h4]
theorem right_parts {s : Sp} (h : rightB s = true) : (noB s.lo || keyB s.lo) = true ∧ (noB s.hi || keyB s.hi) = true ∧ aboveB s.hi s.lo = true := by
  simp only [rightB, Bool.and_eq_true] at h
  exact ⟨h.1.1, h.1.2, h.2⟩
theorem right_of {s : Sp} (h1 : (noB s.lo || keyB s.lo) = true) (h2 : (noB s.hi || keyB s.hi) = true) (h3 : aboveB s.hi s.lo = true) : rightB s = true := by
  unfold rightB
  rw [h1, h2, h3]; rfl
/-- Where a piece begins: at the span's own beginning, or at a key that the span has. -/
def At (s : Sp) (lo : Str) : Prop := lo = s.lo ∨ hasB s lo = true
theorem At.parts {s : Sp} {lo : Str} (hs : rightB s = true) (h : At s lo) : (noB lo || keyB lo) = true ∧ ltB lo s.lo = false ∧ aboveB s.hi lo = true := by
  rcases h with rfl | h
  · obtain ⟨h1, _, h3⟩ := right_parts hs
    exact ⟨h1, ltB_irrefl _, h3⟩
  · obtain ⟨_, h2, h3, h4⟩ := has_parts h
    exact ⟨by rw [h2, Bool.or_true], h3, h4⟩
theorem piece {s : Sp} {lo kk : Str} (hs : rightB s = true) (h : At s lo) (hk : hasB s kk = true) (hl : ltB lo kk = true) : noB kk = false ∧ rightB ⟨lo, kk⟩ = true ∧ withinB ⟨lo, kk⟩ s = true := by
  obtain ⟨a1, a2, _⟩ := h.parts hs
  obtain ⟨_, k2, _, k4⟩ := has_parts hk
  have hn : noB kk = false := by
    cases h : noB kk with
    | false => rfl
    | true => rw [noB_lt lo kk h] at hl; cases hl
  have hr : rightB ⟨lo, kk⟩ = true := right_of a1 (by rw [k2, Bool.or_true]) (by simp [aboveB, hl])
  refine ⟨hn, hr, ?_⟩
  have hi : inB kk s.hi = true := by
    simp only [aboveB, Bool.or_eq_true] at k4
    simp only [inB, hn, Bool.or_eq_true, Bool.and_eq_true, Bool.not_eq_true', Bool.not_false, true_and]
    rcases k4 with k4 | k4
    · exact .inl k4
    · exact .inr (ltB_asymm k4)
  simp [withinB, hr, hs, a2, hi]
theorem last {s : Sp} {lo : Str} (hs : rightB s = true) (h : At s lo) : rightB ⟨lo, s.hi⟩ = true ∧ withinB ⟨lo, s.hi⟩ s = true := by
  obtain ⟨a1, a2, a3⟩ := h.parts hs
  have hr : rightB ⟨lo, s.hi⟩ = true := right_of a1 (right_parts hs).2.1 a3
  exact ⟨hr, by simp [withinB, hr, hs, a2, inB_refl]⟩
/-- What holds while a right span is cut. -/
structure Inv (s : Sp) (st : List Sp × Str) : Prop where
  at' : At s st.2
  within : ∀ p ∈ st.1, withinB p s = true
  cnt : ∀ k, hasB s k = true → cnt st.1 k = if ltB k st.2 = true then 1 else 0
  parts : ∀ rest, rest ≠ [] → partsGo s.lo (st.1 ++ rest) = partsGo st.2 rest
theorem inv_step {s : Sp} (hs : rightB s = true) {st : List Sp × Str} (h : Inv s st) (kk : Str) : Inv s (cutStep s st kk) := by
  unfold cutStep
  split
  · rename_i hc
    simp only [Bool.and_eq_true] at hc
    obtain ⟨hk, hl⟩ := hc
    obtain ⟨hn, hr, hw⟩ := piece hs h.at' hk hl
    refine ⟨.inr hk, ?_, ?_, ?_⟩
    · intro p hp
      rcases List.mem_append.1 hp with hp | hp
      · exact h.within p hp
      · rw [List.mem_singleton.1 hp]; exact hw
    · intro k hks
      have hkk := (has_parts hks).2.1
      have hp : hasB ⟨st.2, kk⟩ k = (!ltB k st.2 && ltB k kk) := by simp [hasB, hr, hkk, aboveB, hn]
      show (st.1 ++ [_]).countP _ = _
      rw [List.countP_append, show st.1.countP (fun p => hasB p k) = _ from h.cnt k hks, List.countP_singleton, hp]
      cases h1 : ltB k st.2 with
      | true => simp [ltB_trans h1 hl]
      | false => cases h2 : ltB k kk <;> simp
    · intro rest hne
      rw [List.append_assoc, h.parts _ (by simp)]
      have he : rest.isEmpty = false := by cases rest with
        | nil => exact absurd rfl hne
        | cons a l => rfl
      simp [partsGo, hr, hn, he]
  · exact h
theorem inv_all {s : Sp} (hs : rightB s = true) (ks : List Str) : Inv s (cutSt s ks) := by
  have h : ∀ (ks : List Str) (st : List Sp × Str), Inv s st → Inv s (ks.foldl (cutStep s) st) := by
    intro ks
    induction ks with
    | nil => exact fun _ h => h
    | cons k ks ih => exact fun st h => ih _ (inv_step hs h k)
  refine h ks _ ⟨.inl rfl, fun p hp => by simp at hp, fun k hk => ?_, fun rest _ => rfl⟩
  rw [(has_parts hk).2.2.1]; rfl
theorem cut_within (s : Sp) (ks : List Str) : ∀ p ∈ cutM s ks, withinB p s = true ∧ rightB p = true := by
  intro p hp
  unfold cutM at hp
  split at hp
  · rename_i hs
    have h := inv_all hs ks
    have hw : withinB p s = true := by
      rcases List.mem_append.1 hp with hp | hp
      · exact h.within p hp
      · rw [List.mem_singleton.1 hp]; exact (last hs h.at').2
    refine ⟨hw, ?_⟩
    simp only [withinB, Bool.and_eq_true] at hw
    exact hw.1.1.1
  · simp at hp
theorem cut_cnt (s : Sp) (ks : List Str) (k : Str) : cnt (cutM s ks) k = if hasB s k = true then 1 else 0 := by
  cases hk : hasB s k with
  | true =>
    have hs := (has_parts hk).1
    have h := inv_all hs ks
    obtain ⟨hr, _⟩ := last hs h.at'
    have hp : hasB ⟨(cutSt s ks).2, s.hi⟩ k = !ltB k (cutSt s ks).2 := by
      simp [hasB, hr, (has_parts hk).2.1, (has_parts hk).2.2.2]
    rw [cutM, if_pos hs]
    show (_ ++ [_]).countP _ = _
    rw [List.countP_append, show (cutSt s ks).1.countP (fun p => hasB p k) = _ from h.cnt k hk, List.countP_singleton, hp]
    cases ltB k (cutSt s ks).2 <;> simp
  | false =>
    rw [if_neg (by simp)]
    refine List.countP_eq_zero.2 fun p hp hh => ?_
    rw [within_has (cut_within s ks p hp).1 hh] at hk
    cases hk
theorem cut_parts (ks : List Str) : partsM (cutM allS ks) = true := by
  have hs := right_all
  have h := inv_all hs ks
  have hn : noB allS.hi = true := by decide +kernel
  obtain ⟨hr, _⟩ := last hs h.at'
  have e : partsGo ⟨#[]⟩ (cutM allS ks) = true := by
    rw [cutM, if_pos hs]
    show partsGo allS.lo _ = true
    rw [h.parts _ (by simp)]
    simp [partsGo, hr, hn]
  rw [partsM, e, Bool.and_true, cutM, if_pos hs]
  simp
theorem cut_some (s : Sp) (ks : List Str) (hs : rightB s = true) : (cutM s ks).length ≠ 0 := by
  rw [cutM, if_pos hs]; simp
theorem meet_has {a b : Sp} {k : Str} (ha : hasB a k = true) (hb : hasB b k = true) : ∃ m, meetB a b = some m ∧ hasB m k = true := by
  obtain ⟨a1, a2, a3, a4⟩ := has_parts ha
  obtain ⟨b1, _, b3, b4⟩ := has_parts hb
  have hlo : ltB k (meetM a b).lo = false ∧ (noB (meetM a b).lo || keyB (meetM a b).lo) = true := by
    unfold meetM
    simp only
    split
    · exact ⟨b3, (right_parts b1).1⟩
    · exact ⟨a3, (right_parts a1).1⟩
  have hhi : aboveB (meetM a b).hi k = true ∧ (noB (meetM a b).hi || keyB (meetM a b).hi) = true := by
    unfold meetM
    simp only
    split
    · exact ⟨b4, (right_parts b1).2.1⟩
    · exact ⟨a4, (right_parts a1).2.1⟩
  have hr : rightB (meetM a b) = true := by
    refine right_of hlo.2 hhi.2 ?_
    have h := hhi.1
    simp only [aboveB, Bool.or_eq_true] at h ⊢
    rcases h with h | h
    · exact .inl h
    · exact .inr (ltB_of_ge_lt hlo.1 h)
  exact ⟨meetM a b, by simp [meetB, a1, b1, hr], has_of hr a2 hlo.1 hhi.1⟩
theorem meet_none {a b : Sp} {k : Str} (h : meetB a b = none) : (hasB a k && hasB b k) = false := by
  cases ha : hasB a k with
  | false => rfl
  | true =>
    cases hb : hasB b k with
    | false => rfl
    | true =>
      obtain ⟨m, hm, _⟩ := meet_has ha hb
      rw [h] at hm; cases hm
theorem meet_some {a b m : Sp} {k : Str} (h : meetB a b = some m) : hasB m k = (hasB a k && hasB b k) := by
  obtain ⟨h1, h2⟩ := meet_within h
  cases hm : hasB m k with
  | true => rw [within_has h1 hm, within_has h2 hm]; rfl
  | false =>
    cases ha : hasB a k with
    | false => rfl
    | true =>
      cases hb : hasB b k with
      | false => rfl
      | true =>
        obtain ⟨m', hm', hk⟩ := meet_has ha hb
        rw [h] at hm'
        cases hm'
        rw [hk] at hm; cases hm
end Go.Proofs.Ytebhcadolnjplaa
