/- One cut behind the other comes to the same pieces as the cuts, sorted. -/
import Derived.Test.YtdabdkedgigjdaaGreatN
import Derived.Sort.Walk0
namespace Go.Proofs.YtdabdkedgigjdaaGreat

/-- The pieces of a stretch, cut at these keys. -/
def pieces (lo hi : Str) : List Str → List Sp
  | [] => [⟨lo, hi⟩]
  | c :: cs => ⟨lo, c⟩ :: pieces c hi cs
/-- One cut more, in the first piece that has the key. -/
def insM (k : Str) : List Sp → List Sp
  | [] => []
  | x :: out => if hasB x k && !(k.toList == x.lo.toList) then ⟨x.lo, k⟩ :: ⟨k, x.hi⟩ :: out else x :: insM k out
def rcutM (s : Sp) (ks : List Str) : List Sp := if rightB s then ks.foldl (fun out k => insM k out) [s] else []
def insC (k : Str) : List Str → List Str
  | [] => [k]
  | c :: cs => if ltB k c then k :: c :: cs else if k.toList == c.toList then c :: cs else c :: insC k cs
/-- Keys that rise, from lo on, all in what ends at hi. -/
def Chain (s : Sp) (lo : Str) : List Str → Prop
  | [] => At s lo
  | c :: cs => At s lo ∧ hasB s c = true ∧ ltB lo c = true ∧ Chain s c cs
theorem eq_iff (a b : Str) : (a.toList == b.toList) = decide (a = b) := by
  by_cases h : a = b
  · subst h; simp
  · have : ¬ a.toList = b.toList := fun e => h (str_ext e)
    simp [h, this]
theorem Chain.at' {s : Sp} {lo : Str} {cs : List Str} (h : Chain s lo cs) : At s lo := by
  cases cs with
  | nil => exact h
  | cons c cs => exact h.1
theorem ins_same {s : Sp} {k : Str} : ∀ (cs : List Str) (lo : Str), Chain s lo cs → ltB k lo = true ∨ k = lo → insM k (pieces lo s.hi cs) = pieces lo s.hi cs := by
  intro cs
  induction cs with
  | nil =>
    intro lo _ h
    have : (hasB ⟨lo, s.hi⟩ k && !(k.toList == lo.toList)) = false := by
      rcases h with h | rfl
      · simp [hasB, h]
      · simp
    rw [pieces, insM, if_neg (by rw [this]; simp)]
    rfl
  | cons c cs ih =>
    intro lo h hl
    obtain ⟨ha, hc, hlc, hch⟩ := h
    have h1 : (hasB ⟨lo, c⟩ k && !(k.toList == lo.toList)) = false := by
      rcases hl with h | rfl
      · simp [hasB, h]
      · simp
    have h2 : ltB k c = true := by
      rcases hl with h | rfl
      · exact ltB_trans h hlc
      · exact hlc
    rw [pieces, insM, if_neg (by rw [h1]; simp), ih c hch (.inl h2)]
theorem ins_pieces {s : Sp} (hs : rightB s = true) {k : Str} (hk : hasB s k = true) : ∀ (cs : List Str) (lo : Str), Chain s lo cs → ltB lo k = true → insM k (pieces lo s.hi cs) = pieces lo s.hi (insC k cs) ∧ Chain s lo (insC k cs) := by
  intro cs
  induction cs with
  | nil =>
    intro lo h hl
    obtain ⟨hr, _⟩ := last hs h
    obtain ⟨_, h2, _, h4⟩ := has_parts hk
    have : (hasB ⟨lo, s.hi⟩ k && !(k.toList == lo.toList)) = true := by
      rw [eq_iff]
      simp only [hasB, hr, h2, ltB_asymm hl, h4, Bool.and_eq_true, Bool.not_eq_true', decide_eq_false_iff_not]
      refine ⟨by simp, ?_⟩
      rintro rfl
      rw [ltB_irrefl] at hl; cases hl
    rw [pieces, insM, if_pos this]
    exact ⟨rfl, h, hk, hl, .inr hk⟩
  | cons c cs ih =>
    intro lo h hl
    obtain ⟨ha, hc, hlc, hch⟩ := h
    obtain ⟨hn, hr, _⟩ := piece hs ha hc hlc
    obtain ⟨_, h2, _, h4⟩ := has_parts hk
    have hne : (k.toList == lo.toList) = false := by
      rw [eq_iff, decide_eq_false_iff_not]
      rintro rfl
      rw [ltB_irrefl] at hl; cases hl
    cases hkc : ltB k c with
    | true =>
      have : (hasB ⟨lo, c⟩ k && !(k.toList == lo.toList)) = true := by
        rw [hne]
        simp [hasB, hr, h2, ltB_asymm hl, aboveB, hkc]
      rw [pieces, insM, if_pos this, insC, if_pos hkc]
      exact ⟨rfl, ha, hk, hl, .inr hk, hc, hkc, hch⟩
    | false =>
      have : (hasB ⟨lo, c⟩ k && !(k.toList == lo.toList)) = false := by simp [hasB, aboveB, hkc, hn]
      rw [pieces, insM, if_neg (by rw [this]; simp), insC, if_neg (by rw [hkc]; simp)]
      cases he : (k.toList == c.toList) with
      | true =>
        rw [eq_iff, decide_eq_true_eq] at he
        subst he
        rw [if_pos rfl, ins_same cs k hch (.inr rfl)]
        exact ⟨rfl, ha, hc, hlc, hch⟩
      | false =>
        rw [eq_iff, decide_eq_false_iff_not] at he
        rw [if_neg (by simp)]
        have hck : ltB c k = true := by
          cases h : ltB c k with
          | true => rfl
          | false => exact absurd (ltB_total hkc h) he
        obtain ⟨i1, i2⟩ := ih c hch hck
        rw [i1]
        exact ⟨rfl, ha, hc, hlc, i2⟩
/-- What is not in any piece changes nothing. -/
theorem ins_not {k : Str} : ∀ ps : List Sp, (∀ p ∈ ps, hasB p k = false) → insM k ps = ps := by
  intro ps
  induction ps with
  | nil => intro _; rfl
  | cons x ps ih =>
    intro h
    rw [insM, if_neg (by rw [h x (by simp)]; simp), ih fun p hp => h p (by simp [hp])]
theorem pieces_within {s : Sp} (hs : rightB s = true) : ∀ (cs : List Str) (lo : Str), Chain s lo cs → ∀ p ∈ pieces lo s.hi cs, withinB p s = true := by
  intro cs
  induction cs with
  | nil => intro lo h p hp; rw [pieces, List.mem_singleton] at hp; subst hp; exact (last hs h).2
  | cons c cs ih =>
    intro lo h p hp
    obtain ⟨ha, hc, hlc, hch⟩ := h
    rw [pieces, List.mem_cons] at hp
    rcases hp with rfl | hp
    · exact (piece hs ha hc hlc).2.2
    · exact ih c hch p hp
/-- The cuts that one cut more leaves. -/
def addC (s : Sp) (cs : List Str) (k : Str) : List Str := if hasB s k && ltB s.lo k then insC k cs else cs
theorem rcut_eq {s : Sp} (hs : rightB s = true) : ∀ (ks : List Str) (cs : List Str), Chain s s.lo cs →
    ks.foldl (fun out k => insM k out) (pieces s.lo s.hi cs) = pieces s.lo s.hi (ks.foldl (addC s) cs) ∧ Chain s s.lo (ks.foldl (addC s) cs) := by
  intro ks
  induction ks with
  | nil => intro cs h; exact ⟨rfl, h⟩
  | cons k ks ih =>
    intro cs h
    rw [List.foldl_cons, List.foldl_cons]
    cases hk : hasB s k with
    | false =>
      have e : insM k (pieces s.lo s.hi cs) = pieces s.lo s.hi cs := ins_not _ fun p hp => by
        cases hh : hasB p k with
        | false => rfl
        | true => rw [within_has (pieces_within hs cs _ h p hp) hh] at hk; cases hk
      rw [e, show addC s cs k = cs by simp [addC, hk]]
      exact ih cs h
    | true =>
      cases hl : ltB s.lo k with
      | true =>
        obtain ⟨h1, h2⟩ := ins_pieces hs hk cs _ h hl
        rw [h1, show addC s cs k = insC k cs by simp [addC, hk, hl]]
        exact ih _ h2
      | false =>
        have he : k = s.lo := ltB_total (has_parts hk).2.2.1 hl
        rw [ins_same cs _ h (.inr he), show addC s cs k = cs by simp [addC, hk, hl]]
        exact ih cs h
/-- The cuts of a list that rises. -/
def cuts (s : Sp) (lo : Str) : List Str → List Str
  | [] => []
  | k :: ks => if hasB s k && ltB lo k then k :: cuts s k ks else cuts s lo ks
theorem cut_cuts (s : Sp) : ∀ (ks : List Str) (acc : List Sp) (lo : Str),
    (ks.foldl (cutStep s) (acc, lo)).1 ++ [⟨(ks.foldl (cutStep s) (acc, lo)).2, s.hi⟩] = acc ++ pieces lo s.hi (cuts s lo ks) := by
  intro ks
  induction ks with
  | nil => intro acc lo; rfl
  | cons k ks ih =>
    intro acc lo
    rw [List.foldl_cons, cuts]
    cases h : hasB s k && ltB lo k with
    | true =>
      have e : cutStep s (acc, lo) k = (acc ++ [⟨lo, k⟩], k) := by simp only [cutStep, h, if_true]
      rw [e, ih, if_pos rfl, pieces]
      simp
    | false =>
      have e : cutStep s (acc, lo) k = (acc, lo) := by simp only [cutStep, h]; simp
      rw [e, ih, if_neg (by simp)]
def Rise (lo : Str) (l : List Str) : Prop := (∀ x ∈ l, ltB lo x = true) ∧ l.Pairwise fun a b => ltB a b = true
theorem rise_eq : ∀ (l m : List Str), l.Pairwise (fun a b => ltB a b = true) → m.Pairwise (fun a b => ltB a b = true) → (∀ x, x ∈ l ↔ x ∈ m) → l = m := by
  intro l
  induction l with
  | nil =>
    intro m _ _ h
    cases m with
    | nil => rfl
    | cons b m => exact absurd ((h b).2 (by simp)) (by simp)
  | cons a l ih =>
    intro m hl hm h
    cases m with
    | nil => exact absurd ((h a).1 (by simp)) (by simp)
    | cons b m =>
      rw [List.pairwise_cons] at hl hm
      have e : a = b := by
        rcases List.mem_cons.1 ((h a).1 (by simp)) with e | e
        · exact e
        · rcases List.mem_cons.1 ((h b).2 (by simp)) with e2 | e2
          · exact e2.symm
          · have h1 := hm.1 a e
            have h2 := hl.1 b e2
            have := ltB_trans h1 h2
            rw [ltB_irrefl] at this; cases this
      subst e
      refine congrArg (a :: ·) (ih m hl.2 hm.2 fun x => ?_)
      constructor
      · intro hx
        rcases List.mem_cons.1 ((h x).1 (by simp [hx])) with rfl | e
        · have := hl.1 x hx
          rw [ltB_irrefl] at this; cases this
        · exact e
      · intro hx
        rcases List.mem_cons.1 ((h x).2 (by simp [hx])) with rfl | e
        · have := hm.1 x hx
          rw [ltB_irrefl] at this; cases this
        · exact e
theorem chain_rise {s : Sp} : ∀ (cs : List Str) (lo : Str), Chain s lo cs → (∀ x ∈ cs, ltB lo x = true) ∧ cs.Pairwise fun a b => ltB a b = true := by
  intro cs
  induction cs with
  | nil => intro lo _; simp
  | cons c cs ih =>
    intro lo h
    obtain ⟨_, _, hlc, hch⟩ := h
    obtain ⟨h1, h2⟩ := ih c hch
    refine ⟨fun x hx => ?_, List.pairwise_cons.2 ⟨h1, h2⟩⟩
    rcases List.mem_cons.1 hx with rfl | hx
    · exact hlc
    · exact ltB_trans hlc (h1 x hx)
theorem insC_mem (k x : Str) : ∀ cs : List Str, x ∈ insC k cs ↔ x = k ∨ x ∈ cs := by
  intro cs
  induction cs with
  | nil => simp [insC]
  | cons c cs ih =>
    rw [insC]
    split
    · simp
    · split
      · rename_i he
        rw [eq_iff, decide_eq_true_eq] at he
        subst he
        simp
      · simp only [List.mem_cons, ih]
        constructor
        · rintro (h | h | h) <;> simp [h]
        · rintro (h | h | h) <;> simp [h]
theorem add_mem {s : Sp} (x : Str) : ∀ (ks cs : List Str), x ∈ ks.foldl (addC s) cs ↔ (x ∈ cs ∨ (x ∈ ks ∧ hasB s x = true ∧ ltB s.lo x = true)) := by
  intro ks
  induction ks with
  | nil => intro cs; simp
  | cons k ks ih =>
    intro cs
    rw [List.foldl_cons, ih]
    unfold addC
    split
    · rename_i h
      rw [Bool.and_eq_true] at h
      rw [insC_mem]
      simp only [List.mem_cons]
      constructor
      · rintro ((rfl | h1) | h1)
        · exact .inr ⟨.inl rfl, h⟩
        · exact .inl h1
        · exact .inr ⟨.inr h1.1, h1.2⟩
      · rintro (h1 | ⟨rfl | h1, h2⟩)
        · exact .inl (.inr h1)
        · exact .inl (.inl rfl)
        · exact .inr ⟨h1, h2⟩
    · rename_i h
      simp only [List.mem_cons]
      constructor
      · rintro (h1 | h1)
        · exact .inl h1
        · exact .inr ⟨.inr h1.1, h1.2⟩
      · rintro (h1 | ⟨rfl | h1, h2⟩)
        · exact .inl h1
        · exact absurd (by rw [h2.1, h2.2]; rfl) h
        · exact .inr ⟨h1, h2⟩
theorem cuts_mem {s : Sp} (x : Str) : ∀ (ks : List Str) (lo : Str), ks.Pairwise (fun a b => ltB b a = false) →
    (x ∈ cuts s lo ks ↔ (x ∈ ks ∧ hasB s x = true ∧ ltB lo x = true)) := by
  intro ks
  induction ks with
  | nil => intro lo _; simp [cuts]
  | cons k ks ih =>
    intro lo h
    rw [List.pairwise_cons] at h
    rw [cuts]
    split
    · rename_i hc
      rw [Bool.and_eq_true] at hc
      rw [List.mem_cons, ih k h.2, List.mem_cons]
      constructor
      · rintro (rfl | ⟨h1, h2, h3⟩)
        · exact ⟨.inl rfl, hc⟩
        · exact ⟨.inr h1, h2, ltB_trans hc.2 h3⟩
      · rintro ⟨rfl | h1, h2, h3⟩
        · exact .inl rfl
        · cases hkx : ltB k x with
          | true => exact .inr ⟨h1, h2, rfl⟩
          | false => exact .inl (ltB_total (h.1 x h1) hkx)
    · rename_i hc
      rw [ih lo h.2, List.mem_cons]
      constructor
      · rintro ⟨h1, h2⟩; exact ⟨.inr h1, h2⟩
      · rintro ⟨rfl | h1, h2, h3⟩
        · exact absurd (by rw [h2, h3]; rfl) hc
        · exact ⟨h1, h2, h3⟩
theorem cuts_rise {s : Sp} : ∀ (ks : List Str) (lo : Str), (∀ x ∈ cuts s lo ks, ltB lo x = true) ∧ (cuts s lo ks).Pairwise fun a b => ltB a b = true := by
  intro ks
  induction ks with
  | nil => intro lo; simp [cuts]
  | cons k ks ih =>
    intro lo
    rw [cuts]
    split
    · rename_i hc
      rw [Bool.and_eq_true] at hc
      obtain ⟨h1, h2⟩ := ih k
      refine ⟨fun x hx => ?_, List.pairwise_cons.2 ⟨h1, h2⟩⟩
      rcases List.mem_cons.1 hx with rfl | hx
      · exact hc.2
      · exact ltB_trans hc.2 (h1 x hx)
    · exact ih lo
theorem ltB_eq (a b : Str) : ltB a b = decide (a.data.toList < b.data.toList) := by
  unfold ltB
  rw [bytesLess_eq, toList_data, toList_data]
theorem sorted_rise (ks : List Str) : (sortS ks).Pairwise fun a b => ltB b a = false := by
  unfold sortS
  rw [List.pairwise_map]
  refine (List.pairwise_mergeSort (le := fun x y => decide (x ≤ y)) ?_ ?_ _).imp ?_
  · intro a b c h1 h2
    simp only [decide_eq_true_eq] at *
    exact List.le_trans h1 h2
  · intro a b
    simp only [Bool.or_eq_true, decide_eq_true_eq]
    exact List.le_total a b
  · intro a b h
    rw [ltB_eq]
    simp only [decide_eq_true_eq, decide_eq_false_iff_not] at *
    exact List.not_lt.2 h
theorem rcut_cut (s : Sp) (ks : List Str) : rcutM s ks = cutM s (sortS ks) := by
  unfold rcutM cutM
  cases hs : rightB s with
  | false => simp
  | true =>
    rw [if_pos rfl, if_pos rfl]
    obtain ⟨h1, h2⟩ := rcut_eq hs ks [] (.inl rfl)
    have h3 := cut_cuts s (sortS ks) [] s.lo
    unfold cutSt
    rw [h3, List.nil_append]
    refine h1.trans ?_
    congr 1
    refine rise_eq _ _ (chain_rise _ _ h2).2 (cuts_rise _ _).2 fun x => ?_
    rw [add_mem, cuts_mem x _ _ (sorted_rise ks), (sortS_perm ks).mem_iff]
    simp
end Go.Proofs.YtdabdkedgigjdaaGreat
