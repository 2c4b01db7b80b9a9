/- Turned shares, as mathematics: what is turned is right; each key is in one share; who has what. -/
import Derived.Test.YtdabdkedgigjdaaGreatSi
namespace Go.Proofs.YtdabdkedgigjdaaGreat

theorem not_lt_no {k t : Str} (h : noB t = true) : ltB k t = false := noB_lt k t h
/-- Of parted spans each key from where they begin has just one. -/
theorem parts_cnt : ∀ (ps : List Sp) (lo : Str), ps ≠ [] → partsGo lo ps = true → ∀ k, keyB k = true → cnt ps k = if ltB k lo = true then 0 else 1
  | [], _, h, _, _, _ => absurd rfl h
  | s :: r, lo, _, h, k, hk => by
    simp only [partsGo, Bool.and_eq_true, beq_iff_eq] at h
    obtain ⟨⟨⟨h1, h2⟩, h3⟩, h4⟩ := h
    have hlo : s.lo = lo := str_ext h2
    have hs : hasB s k = (!ltB k lo && aboveB s.hi k) := by simp [hasB, h1, hk, hlo]
    have hc : cnt (s :: r) k = cnt r k + if hasB s k = true then 1 else 0 := by unfold cnt; rw [List.countP_cons]
    rw [hc, hs]
    cases hr : r with
    | nil =>
      rw [hr] at h3
      have h3' : noB s.hi = true := h3
      have ha : aboveB s.hi k = true := by simp [aboveB, h3']
      rw [ha]
      cases ltB k lo <;> simp [cnt]
    | cons q r' =>
      rw [hr] at h3 h4
      have h3' : noB s.hi = false := h3
      have ih := parts_cnt (q :: r') s.hi (by simp) h4 k hk
      have ha : aboveB s.hi k = ltB k s.hi := by simp [aboveB, h3']
      rw [ih, ha]
      cases hl : ltB k lo with
      | true =>
        have h5 := (right_parts h1).2.2
        simp only [aboveB, h3', Bool.false_or] at h5
        rw [hlo] at h5
        rw [ltB_trans hl h5]; rfl
      | false => cases ltB k s.hi <;> rfl
theorem cut_pieces {s : Sp} (hs : rightB s = true) (ks : List Str) : cutM s ks = pieces s.lo s.hi (cuts s s.lo ks) := by
  have h := cut_cuts s ks [] s.lo
  rw [List.nil_append] at h
  rw [cutM, if_pos hs]
  exact h
/-- A cut piece in place of a span changes nothing of whether they part. -/
theorem parts_cut {s : Sp} (hs : rightB s = true) (ks : List Str) (rest : List Sp) : ∀ (pre : List Sp) (lo : Str), partsGo lo (pre ++ (cutM s ks ++ rest)) = partsGo lo (pre ++ s :: rest)
  | [], lo => by
    rw [List.nil_append, List.nil_append]
    by_cases hlo : s.lo = lo
    · subst hlo
      have h := inv_all hs ks
      obtain ⟨hr, _⟩ := last hs h.at'
      rw [cutM, if_pos hs, List.append_assoc, h.parts _ (by simp)]
      simp [partsGo, hr, hs]
    · have hne : (s.lo.toList == lo.toList) = false := by rw [eq_iff, decide_eq_false_iff_not]; exact hlo
      rw [cut_pieces hs]
      cases cuts s s.lo ks with
      | nil => simp [pieces, partsGo, hne]
      | cons c cs => simp [pieces, partsGo, hne]
  | q :: pre, lo => by
    have ih := parts_cut hs ks rest pre q.hi
    have he : (pre ++ (cutM s ks ++ rest)).isEmpty = (pre ++ s :: rest).isEmpty := by
      have hne := cut_some s ks hs
      cases pre with
      | cons a l => rfl
      | nil =>
        cases hcm : cutM s ks with
        | nil => rw [hcm] at hne; exact absurd rfl hne
        | cons a l => rfl
    rw [List.cons_append, List.cons_append, partsGo, partsGo, ih, he]
theorem no_key {k : Str} (h : noB k = true) : keyB k = false := by rw [(noB_iff _).1 h]; decide +kernel
theorem has_end (l h : Str) : hasB ⟨l, h⟩ h = false := by
  cases hn : noB h with
  | true => simp [hasB, no_key hn]
  | false => simp [hasB, aboveB, hn, ltB_irrefl]
/-- What is within a span is one of its pieces, cut at its ends. -/
theorem in_mem {i s : Sp} (h : withinB i s = true) : i ∈ cutM s (sortS [i.lo, i.hi]) := by
  have hh := h
  simp only [withinB, Bool.and_eq_true, Bool.not_eq_true'] at hh
  obtain ⟨⟨⟨hi, hs⟩, hlo⟩, hin⟩ := hh
  obtain ⟨il, ih⟩ := i
  obtain ⟨i1, i2, i3⟩ := right_parts hi
  obtain ⟨s1, s2, s3⟩ := right_parts hs
  simp only at i1 i2 i3 hlo hin
  rw [← rcut_cut, rcutM, if_pos hs]
  simp only [List.foldl_cons, List.foldl_nil]
  -- the upper end is a key of the span, or the span's own end
  have hup : ih = s.hi ∨ (noB ih = false ∧ keyB ih = true ∧ aboveB s.hi ih = true) := by
    simp only [inB, Bool.or_eq_true, Bool.and_eq_true, Bool.not_eq_true'] at hin
    cases hn : noB ih with
    | true =>
      left
      rcases hin with h1 | ⟨h1, _⟩
      · rw [(noB_iff _).1 hn, (noB_iff _).1 h1]
      · rw [hn] at h1; cases h1
    | false =>
      have hk : keyB ih = true := by simpa [hn] using i2
      rcases hin with h1 | ⟨_, h1⟩
      · exact .inr ⟨rfl, hk, by simp [aboveB, h1]⟩
      · cases h2 : ltB ih s.hi with
        | true => exact .inr ⟨rfl, hk, by simp [aboveB, h2]⟩
        | false => exact .inl (ltB_total h2 h1)
  have hdown : il = s.lo ∨ (keyB il = true ∧ ltB s.lo il = true ∧ aboveB s.hi il = true) := by
    cases hl : ltB s.lo il with
    | false => exact .inl (ltB_total hlo hl)
    | true =>
      right
      have hn : noB il = false := by
        cases hn : noB il with
        | false => rfl
        | true => rw [noB_lt s.lo il hn] at hl; cases hl
      exact ⟨by simpa [hn] using i1, rfl, aboveB_in i3 hin⟩
  have hab : noB ih = false → ltB il ih = true := fun hn => by simpa [aboveB, hn] using i3
  have hlt : hasB ⟨s.lo, il⟩ ih = false ∨ il = s.lo := by
    rcases hdown with h1 | ⟨h1, h2, h3⟩
    · exact .inr h1
    · left
      cases hn : noB ih with
      | true => simp [hasB, no_key hn]
      | false =>
        have hnl : noB il = false := by
          cases hn : noB il with
          | false => rfl
          | true => rw [noB_lt s.lo il hn] at h2; cases h2
        simp [hasB, aboveB, hnl, ltB_asymm (hab hn)]
  rcases hdown with rfl | ⟨k1, k2, k3⟩
  · have e1 : insM s.lo [s] = [s] := by
      rw [insM, if_neg (by simp)]; rfl
    rw [e1]
    rcases hup with rfl | ⟨u1, u2, u3⟩
    · have e2 : insM s.hi [s] = [s] := by
        rw [insM, if_neg (by rw [show hasB s s.hi = false from has_end s.lo s.hi]; simp)]; rfl
      rw [e2]; simp
    · have hb : hasB s ih = true := has_of hs u2 (ltB_asymm (hab u1)) u3
      have hne : (ih.toList == s.lo.toList) = false := by
        rw [eq_iff, decide_eq_false_iff_not]; intro e; have := hab u1; rw [e, ltB_irrefl] at this; cases this
      rw [insM, if_pos (by rw [hb, hne]; rfl)]; simp
  · have hb : hasB s il = true := has_of hs k1 (ltB_asymm k2) k3
    have hne : (il.toList == s.lo.toList) = false := by
      rw [eq_iff, decide_eq_false_iff_not]; intro e; rw [e, ltB_irrefl] at k2; cases k2
    have e1 : insM il [s] = [⟨s.lo, il⟩, ⟨il, s.hi⟩] := by
      rw [insM, if_pos (by rw [hb, hne]; rfl)]
    have h3 : hasB ⟨s.lo, il⟩ ih = false := by
      rcases hlt with h | h
      · exact h
      · rw [h, ltB_irrefl] at k2; cases k2
    rw [e1, insM, if_neg (by rw [h3]; simp)]
    rcases hup with rfl | ⟨u1, u2, u3⟩
    · rw [insM, if_neg (by rw [has_end il s.hi]; simp)]; simp
    · have hr : rightB ⟨il, s.hi⟩ = true := right_of (by rw [k1, Bool.or_true]) s2 k3
      have hb2 : hasB ⟨il, s.hi⟩ ih = true := has_of hr u2 (ltB_asymm (hab u1)) u3
      have hne2 : (ih.toList == il.toList) = false := by
        rw [eq_iff, decide_eq_false_iff_not]; intro e; have := hab u1; rw [e, ltB_irrefl] at this; cases this
      rw [insM, if_pos (by rw [hb2, hne2]; rfl)]; simp

theorem find_one {α : Type} {q : α → Bool} : ∀ {l : List α} {p : α}, l.countP q = 1 → p ∈ l → q p = true → l.find? q = some p
  | a :: l, p, hc, hp, hq => by
    rw [List.countP_cons] at hc
    cases ha : q a with
    | true =>
      rw [List.find?_cons_of_pos ha]
      rw [ha] at hc
      have h0 : l.countP q = 0 := by simpa using hc
      rcases List.mem_cons.1 hp with rfl | hp
      · rfl
      · have := List.countP_eq_zero.1 h0 p hp
        rw [hq] at this; simp at this
    | false =>
      rw [List.find?_cons_of_neg (by simp [ha])]
      rw [ha] at hc
      refine find_one (by simpa using hc) ?_ hq
      rcases List.mem_cons.1 hp with rfl | hp
      · rw [hq] at ha; cases ha
      · exact hp
theorem count_has {α : Type} {q : α → Bool} {l : List α} (h : l.countP q = 1) : ∃ p ∈ l, q p = true := List.countP_pos_iff.1 (by omega)
theorem shares_parts {ep : Int} {xs : List Sh} (h : sharesB ep xs = true) : xs.length ≤ 40 ∧ 1 ≤ ep ∧ ep ≤ 1073741824 ∧ partsM (xs.map (·.sp)) = true ∧ ∀ x ∈ xs, shOkB ep x = true := by
  simp only [sharesB, Bool.and_eq_true, decide_eq_true_eq, List.all_eq_true] at h
  exact ⟨h.1.1.1.1, h.1.1.1.2, h.1.1.2, h.1.2, h.2⟩
theorem shares_of {ep : Int} {xs : List Sh} (h1 : xs.length ≤ 40) (h2 : 1 ≤ ep) (h3 : ep ≤ 1073741824) (h4 : partsM (xs.map (·.sp)) = true) (h5 : ∀ x ∈ xs, shOkB ep x = true) : sharesB ep xs = true := by
  simp only [sharesB, Bool.and_eq_true, decide_eq_true_eq, List.all_eq_true]
  exact ⟨⟨⟨⟨h1, h2⟩, h3⟩, h4⟩, h5⟩
theorem partsM_go {ps : List Sp} (h : partsM ps = true) : ps ≠ [] ∧ partsGo ⟨#[]⟩ ps = true := by
  rw [partsM, Bool.and_eq_true] at h
  exact ⟨by rintro rfl; simp at h, h.2⟩
/-- Of right shares each key has one, and what is no key has none. -/
theorem shares_count {ep : Int} {xs : List Sh} (h : sharesB ep xs = true) (k : Str) : xs.countP (fun y => hasB y.sp k) = if keyB k = true then 1 else 0 := by
  obtain ⟨h0, h1⟩ := partsM_go (shares_parts h).2.2.2.1
  cases hk : keyB k with
  | true =>
    have := parts_cnt _ _ h0 h1 k hk
    rw [noB_lt k ⟨#[]⟩ ((noB_iff _).2 rfl)] at this
    unfold cnt at this
    rw [List.countP_map] at this
    exact this
  | false =>
    rw [if_neg (by simp)]
    refine List.countP_eq_zero.2 fun p _ => ?_
    simp [hasB, hk]
theorem shares_some {ep : Int} {xs : List Sh} (h : sharesB ep xs = true) (k : Str) : (xs.find? fun y => hasB y.sp k).isSome = keyB k := by
  have hc := shares_count h k
  cases hk : keyB k with
  | true =>
    rw [hk, if_pos rfl] at hc
    obtain ⟨p, hp, hq⟩ := count_has hc
    rw [find_one hc hp hq]; rfl
  | false =>
    rw [hk, if_neg (by simp)] at hc
    have : xs.find? (fun y => hasB y.sp k) = none := List.find?_eq_none.2 fun p hp => by
      have := List.countP_eq_zero.1 hc p hp
      simpa using this
    rw [this]; rfl
theorem split_at2 (xs : List Sh) (k : Nat) (hk : k < xs.length) : xs = xs.take k ++ at2 xs k :: xs.drop (k + 1) := by
  rw [at2_get xs k hk, ← List.drop_eq_getElem_cons hk, List.take_append_drop]
theorem piece_sp (x : Sh) (i : Sp) (g ep : Int) (s : Sp) : (pieceM x i g ep s).sp = s := by
  unfold pieceM; split <;> rfl
theorem cutSh_sp (x : Sh) (i : Sp) (g ep : Int) : (cutShM x i g ep).map (·.sp) = cutM x.sp (sortS [i.lo, i.hi]) := by
  rw [cutShM, List.map_map]
  exact List.map_id'' (fun s => piece_sp x i g ep s) _
theorem eqS_iff (s t : Sp) : eqS s t = true ↔ s = t := by
  obtain ⟨sl, sh⟩ := s
  obtain ⟨tl, th⟩ := t
  unfold eqS
  rw [Bool.and_eq_true, eq_iff, eq_iff, decide_eq_true_eq, decide_eq_true_eq]
  constructor
  · rintro ⟨rfl, rfl⟩; rfl
  · intro e; cases e; exact ⟨rfl, rfl⟩
theorem turned {ep : Int} {xs : List Sh} {i : Sp} {g : Int} {k : Nat} (hk : k < xs.length) (h1 : sharesB ep xs = true) (hi : withinB i (at2 xs k).sp = true) (hg : groupB g = true) (hne : (at2 xs k).g ≠ g) (he : ep + 1 ≤ 1073741824)
    (hl : (xs.take k ++ (cutShM (at2 xs k) i g (ep + 1) ++ xs.drop (k + 1))).length ≤ 40) :
    sharesB (ep + 1) (xs.take k ++ (cutShM (at2 xs k) i g (ep + 1) ++ xs.drop (k + 1))) = true ∧
    ∀ kk A B, xs.find? (fun y => hasB y.sp kk) = some A → (xs.take k ++ (cutShM (at2 xs k) i g (ep + 1) ++ xs.drop (k + 1))).find? (fun y => hasB y.sp kk) = some B →
      (hasB i kk = true → B.g = g ∧ B.e = ep + 1 ∧ A.g ≠ g) ∧ (hasB i kk = false → A.g = B.g ∧ A.e = B.e) := by
  obtain ⟨p1, p2, p3, p4, p5⟩ := shares_parts h1
  have hsp := split_at2 xs k hk
  generalize xs.take k = pre at hsp hl ⊢
  generalize xs.drop (k + 1) = post at hsp hl ⊢
  generalize at2 xs k = x at hsp hl hi hne ⊢
  have hx : x ∈ xs := by rw [hsp]; simp
  have hin : rightB x.sp = true := by
    simp only [withinB, Bool.and_eq_true] at hi; exact hi.1.1.2
  have hS : sharesB (ep + 1) (pre ++ (cutShM x i g (ep + 1) ++ post)) = true := by
    refine shares_of hl (by omega) he ?_ ?_
    · have hm : (pre ++ (cutShM x i g (ep + 1) ++ post)).map (·.sp) = pre.map (·.sp) ++ (cutM x.sp (sortS [i.lo, i.hi]) ++ post.map (·.sp)) := by
        rw [List.map_append, List.map_append, cutSh_sp]
      rw [hm, partsM, parts_cut hin]
      obtain ⟨_, q2⟩ := partsM_go p4
      rw [hsp, List.map_append, List.map_cons] at q2
      rw [q2, Bool.and_true]
      have hcn := cut_some x.sp (sortS [i.lo, i.hi]) hin
      cases pre with
      | cons a l => rfl
      | nil =>
        cases hcm : cutM x.sp (sortS [i.lo, i.hi]) with
        | nil => rw [hcm] at hcn; exact absurd rfl hcn
        | cons a l => rfl
    · intro y hy
      have old : ∀ y ∈ xs, shOkB (ep + 1) y = true := fun y hy => by
        have := p5 y hy
        simp only [shOkB, Bool.and_eq_true, decide_eq_true_eq] at this ⊢
        exact ⟨this.1, by omega⟩
      rcases List.mem_append.1 hy with hy | hy
      · exact old y (by rw [hsp]; simp [hy])
      · rcases List.mem_append.1 hy with hy | hy
        · obtain ⟨s, _, rfl⟩ := List.mem_map.1 hy
          have hox := old x hx
          unfold pieceM
          simp only [shOkB, Bool.and_eq_true, decide_eq_true_eq] at hox ⊢
          split
          · exact ⟨⟨hg, by simp only; omega⟩, by simp only; omega⟩
          · exact hox
        · exact old y (by rw [hsp]; simp [hy])
  refine ⟨hS, fun kk A B hA hB => ?_⟩
  have hqA : hasB A.sp kk = true := by simpa using List.find?_some hA
  have hkk : keyB kk = true := (has_parts hqA).2.1
  have cA := shares_count h1 kk
  have cB := shares_count hS kk
  rw [if_pos hkk] at cA cB
  have hmA := List.mem_of_find?_eq_some hA
  rw [hsp] at hmA
  have other : A ∈ pre ∨ A ∈ post → (hasB i kk = true → B.g = g ∧ B.e = ep + 1 ∧ A.g ≠ g) ∧ (hasB i kk = false → A.g = B.g ∧ A.e = B.e) := fun hm => by
    have hBA : B = A := by
      have h2 := find_one cB (p := A) (by rcases hm with h | h <;> simp [h]) hqA
      rw [h2] at hB; cases hB; rfl
    subst hBA
    refine ⟨fun hik => ?_, fun _ => ⟨rfl, rfl⟩⟩
    exfalso
    have hxk := within_has hi hik
    rw [hsp, List.countP_append, List.countP_cons, if_pos hxk] at cA
    rcases hm with h | h
    · have : 0 < pre.countP (fun y => hasB y.sp kk) := List.countP_pos_iff.2 ⟨B, h, hqA⟩
      omega
    · have : 0 < post.countP (fun y => hasB y.sp kk) := List.countP_pos_iff.2 ⟨B, h, hqA⟩
      omega
  rcases List.mem_append.1 hmA with hm | hm
  · exact other (.inl hm)
  · rcases List.mem_cons.1 hm with rfl | hm
    · have hc := cut_cnt A.sp (sortS [i.lo, i.hi]) kk
      rw [if_pos hqA] at hc
      obtain ⟨s, hs, hsk⟩ := count_has hc
      have hBs : B = pieceM A i g (ep + 1) s := by
        have h2 := find_one cB (p := pieceM A i g (ep + 1) s) (by
          have : pieceM A i g (ep + 1) s ∈ cutShM A i g (ep + 1) := List.mem_map.2 ⟨s, hs, rfl⟩
          simp [this]) (by rw [piece_sp]; exact hsk)
        rw [h2] at hB; cases hB; rfl
      constructor
      · intro hik
        have h3 := find_one hc (in_mem hi) hik
        have h4 := find_one hc hs hsk
        rw [h3] at h4
        obtain rfl : i = s := by simpa using h4
        have he2 : eqS i i = true := (eqS_iff i i).2 rfl
        rw [hBs, pieceM, if_pos he2]
        exact ⟨rfl, rfl, hne⟩
      · intro hik
        have he2 : ¬ eqS s i = true := fun e => by
          rw [(eqS_iff s i).1 e, hik] at hsk; cases hsk
        rw [hBs, pieceM, if_neg he2]
        exact ⟨rfl, rfl⟩
    · exact other (.inr hm)
end Go.Proofs.YtdabdkedgigjdaaGreat
