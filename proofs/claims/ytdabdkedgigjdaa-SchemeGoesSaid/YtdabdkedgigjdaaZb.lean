/- The way of a handoff that was begun, as mathematics. -/
import Derived.Test.YtdabdkedgigjdaaYn
import Derived.Test.YtdabdkedgigjdaaYh
namespace Go.Proofs.Ytdabdkedgigjdaa
open Go.RowKit

theorem find_of_idx {q : Sh → Bool} {xs : List Sh} {k : Nat} (h : xs.findIdx? q = some k) : k < xs.length ∧ q (at2 xs k) = true ∧ xs.find? q = some (at2 xs k) := by
  rw [List.findIdx?_eq_some_iff_getElem] at h
  obtain ⟨hk, hp, hn⟩ := h
  refine ⟨hk, by rw [at2_get xs k hk]; exact hp, ?_⟩
  rw [List.find?_eq_some_iff_getElem]
  refine ⟨by rw [at2_get xs k hk]; exact hp, k, hk, (at2_get xs k hk).symm, fun j hj => ?_⟩
  have := hn j hj
  simpa using this
theorem turn_zero {ep : Int} {xs : List Sh} {i : Sp} {g : Int} (h : (turnM ep xs i g).1 = 0) :
    ∃ k : Nat, k < xs.length ∧ withinB i (at2 xs k).sp = true ∧ xs.find? (fun y => withinB i y.sp) = some (at2 xs k) ∧ sharesB ep xs = true ∧ rightB i = true ∧ groupB g = true ∧ (at2 xs k).g ≠ g ∧ ep + 1 ≤ 1073741824 ∧
      (xs.take k ++ (cutShM (at2 xs k) i g (ep + 1) ++ xs.drop (k + 1))).length ≤ 40 ∧ turnM ep xs i g = (0, xs.take k ++ (cutShM (at2 xs k) i g (ep + 1) ++ xs.drop (k + 1))) := by
  unfold turnM at h ⊢
  by_cases h0 : (sharesB ep xs && rightB i && groupB g) = true
  · rw [if_pos h0] at h ⊢
    simp only [Bool.and_eq_true] at h0
    cases hf : xs.findIdx? (fun x => withinB i x.sp) with
    | none => rw [hf] at h; simp at h
    | some k =>
      rw [hf] at h
      simp only at h ⊢
      obtain ⟨hk, hq, hfi⟩ := find_of_idx hf
      by_cases hg : (at2 xs k).g = g
      · rw [if_pos hg] at h; simp at h
      · rw [if_neg hg] at h ⊢
        by_cases hl : 1073741824 < ep + 1 ∨ 40 < (xs.take k ++ (cutShM (at2 xs k) i g (ep + 1) ++ xs.drop (k + 1))).length
        · rw [if_pos hl] at h; simp at h
        · rw [if_neg hl]
          exact ⟨k, hk, hq, hfi, h0.1.1, h0.1.2, h0.2, hg, by omega, by omega, rfl⟩
  · rw [if_neg h0] at h; simp at h
theorem inM_eq {ep : Int} {xs : List Sh} {i : Sp} {y : Sh} (hs : sharesB ep xs = true) (h : xs.find? (fun y => withinB i y.sp) = some y) : inM ep xs i = y := by
  unfold inM firstM; rw [if_pos hs, h]; rfl
/-- What stands of a handoff on its way. -/
structure GoI (i : Sp) (stp tns : Nat) (x : Sc) (ep : Int) (xs : List Sh) : Prop where
  sc : scB x = true
  sh : sharesB ep xs = true
  sp : x.sp = i
  d : stp + distS x.st ≤ 5
  t : tns = if tuB x.st = true then 1 else 0
  k : tuB x.st = false → turnK ep xs x = 0
theorem GoI.begin {ep : Int} {xs : List Sh} {num : Int} {i : Sp} {to : Int} {x : Sc} (h : begM ep xs num i to = (0, x)) : GoI i 0 0 x ep xs := by
  unfold begM at h
  by_cases hn : upM 1073741824 num = false
  · rw [if_pos hn] at h; simp at h
  · rw [if_neg hn] at h
    by_cases ht : (turnM ep xs i to).1 = 0
    · rw [if_pos ht] at h
      obtain ⟨k, hk, hw, hfi, hs, hr, hg, hne, hle, hlen, e⟩ := turn_zero ht
      have hin := inM_eq hs hfi
      obtain ⟨-, h1, h2, -, h5⟩ := shares_parts hs
      have hok := h5 (at2 xs k) (by rw [at2_get xs k hk]; exact List.getElem_mem hk)
      simp only [shOkB, groupB, Bool.and_eq_true, decide_eq_true_eq] at hok hg
      simp only [Prod.mk.injEq, true_and] at h
      subst h
      refine ⟨?_, hs, rfl, (by show 0 + distS 1 ≤ 5; decide), rfl, fun _ => ?_⟩
      · have hn2 : 1 ≤ num ∧ num ≤ 1073741824 := by simpa [upM] using hn
        have hne2 : ((at2 xs k).g == to) = false := beq_eq_false_iff_ne.2 hne
        unfold scB sc1 sc2 unB
        simp only [hr, hin, hne2, Bool.and_eq_true, upM, decide_eq_true_eq]
        refine ⟨⟨⟨⟨⟨⟨hn2, trivial⟩, by omega, by omega⟩, by omega, by omega⟩, by simp⟩, ⟨by omega, by omega⟩, by decide⟩, ?_⟩
        rw [if_neg (by decide)]; rfl
      · unfold turnK
        simp only [ht, and_self, if_true]
    · rw [if_neg ht] at h
      simp only [Prod.mk.injEq] at h
      exact absurd h.1 ht
/-- What the law looks at, in one step. -/
structure GoK (i : Sp) (kk : Str) (x : Sc) (ep : Int) (xs : List Sh) (y : Sc) (ep' : Int) (ys : List Sh) (stp tns s' t' : Nat) : Prop where
  ov : overB x.st = true → y = x
  s : s' = if y.st = x.st then stp else stp + 1
  e : (ep' = ep ∧ ys = xs ∧ t' = tns) ∨ (ep' ≠ ep ∧ y.st = 4 ∧ x.st = 3 ∧ y.un = ep' ∧ t' = tns + 1)
  sm : (firstM ep xs (fun x => hasB x.sp kk)).isSome = (firstM ep' ys (fun x => hasB x.sp kk)).isSome
  hs : hasB i kk = false → ((firstM ep xs (fun x => hasB x.sp kk)).getD sh0).g = ((firstM ep' ys (fun x => hasB x.sp kk)).getD sh0).g ∧ ((firstM ep xs (fun x => hasB x.sp kk)).getD sh0).e = ((firstM ep' ys (fun x => hasB x.sp kk)).getD sh0).e
theorem go_next {i : Sp} {stp tns : Nat} {x : Sc} {ep : Int} {xs : List Sh} (h : GoI i stp tns x ep xs) (b : Int) (kk : Str) :
    (x.st ≠ b ∧ goesB x.st b = false ∧ ∀ w, StepQ w ep xs x b = StepP w 26 sc0 0 []) ∨
    ∃ y ep' ys s' t', (∀ w, StepQ w ep xs x b = StepP w 0 y ep' ys) ∧ GoI i s' t' y ep' ys ∧ GoK i kk x ep xs y ep' ys stp tns s' t' := by
  have hb : (scB x && sharesB ep xs) = true := by rw [h.sc, h.sh]; rfl
  by_cases h1 : x.st = b
  · right
    refine ⟨x, ep, xs, stp, tns, fun w => ?_, h, ⟨fun _ => rfl, by rw [if_pos rfl], .inl ⟨rfl, rfl, rfl⟩, rfl, fun _ => ⟨rfl, rfl⟩⟩⟩
    unfold StepQ
    rw [if_neg (by rw [hb]; decide), if_pos h1]
  · cases hg : goesB x.st b with
    | false =>
      left
      refine ⟨h1, rfl, fun w => ?_⟩
      unfold StepQ
      rw [if_neg (by rw [hb]; decide), if_neg h1, if_pos hg]
    | true =>
      right
      obtain ⟨d1, d2⟩ := goes_down hg
      have hov : overB x.st = true → False := fun ho => by
        rcases goes_cases hg with ⟨e, _⟩ | ⟨e, _⟩ | ⟨e, _⟩ | ⟨e, _⟩ | ⟨e, _⟩ | ⟨e, _⟩ | ⟨e, _⟩ <;> (rw [e] at ho; exact absurd ho (by decide))
      by_cases h4 : b = 4
      · subst h4
        have h3 : x.st = 3 := by rcases goes_cases hg with ⟨e, e2 | e2⟩ | ⟨e, e2 | e2⟩ | ⟨e, e2 | e2⟩ | ⟨e, e2⟩ | ⟨e, e2⟩ | ⟨e, e2⟩ | ⟨e, e2⟩ <;> first | exact e | omega
        have hk := h.k (by rw [h3]; decide)
        obtain ⟨a, b⟩ := sc_turn h.sc hk
        have ht : (turnM ep xs x.sp x.to).1 = 0 := by
          by_cases ht : (turnM ep xs x.sp x.to).1 = 0
          · exact ht
          · unfold turnK at hk; rw [if_neg ht] at hk; exact absurd hk ht
        obtain ⟨k, hkl, hw, hfi, hs, hr, hgr, hne, hle, hlen, e⟩ := turn_zero ht
        have htd := (turned hkl hs hw hgr hne hle hlen).2 kk
        refine ⟨_, _, _, stp + 1, tns + 1, fun w => ?_, ⟨a, b, h.sp, ?_, ?_, fun hc => absurd (show tuB 4 = false from hc) (by decide)⟩, ⟨fun ho => (hov ho).elim, ?_, .inr ⟨by omega, rfl, h3, rfl, rfl⟩, ?_, ?_⟩⟩
        · unfold StepQ
          rw [if_neg (by rw [hb]; decide), if_neg h1, if_neg (by rw [hg]; decide), if_pos rfl, TurnP, if_pos hk]
        · show stp + 1 + distS 4 ≤ 5
          have := h.d; omega
        · have := h.t
          rw [h3] at this
          rw [this]; rfl
        · rw [if_neg (by show (4 : Int) ≠ x.st; omega)]
        · unfold firstM
          rw [if_pos h.sh, if_pos b, shares_some h.sh, shares_some b]
        · intro hi
          rw [← h.sp] at hi
          have hA := shares_some h.sh kk
          have hB := shares_some b kk
          unfold firstM
          rw [if_pos h.sh, if_pos b]
          rw [e] at hB ⊢
          simp only at hB ⊢
          cases hkb : keyB kk with
          | false =>
            rw [hkb] at hA hB
            rw [Option.isSome_eq_false_iff, Option.isNone_iff_eq_none] at hA hB
            rw [hA, hB]
            exact ⟨rfl, rfl⟩
          | true =>
            rw [hkb] at hA hB
            obtain ⟨A, hA⟩ := Option.isSome_iff_exists.1 hA
            obtain ⟨B, hB⟩ := Option.isSome_iff_exists.1 hB
            rw [hA, hB]
            exact (htd A B hA hB).2 hi
      · have hst := sc_stage h.sc
        refine ⟨{ x with st := b }, ep, xs, stp + 1, tns, fun w => ?_, ⟨sc_step h.sc hg h4, h.sh, h.sp, ?_, ?_, fun hc => ?_⟩, ⟨fun ho => (hov ho).elim, ?_, .inl ⟨rfl, rfl, rfl⟩, rfl, fun _ => ⟨rfl, rfl⟩⟩⟩
        · unfold StepQ
          rw [if_neg (by rw [hb]; decide), if_neg h1, if_neg (by rw [hg]; decide), if_neg h4]
        · show stp + 1 + distS b ≤ 5
          have := h.d; omega
        · rw [h.t]
          show (if tuB x.st = true then 1 else 0) = if tuB b = true then 1 else 0
          rcases goes_cases hg with ⟨e, rfl | rfl⟩ | ⟨e, rfl | rfl⟩ | ⟨e, rfl | rfl⟩ | ⟨e, rfl⟩ | ⟨e, rfl⟩ | ⟨e, rfl⟩ | ⟨e, rfl⟩ <;> first | (rw [e]; rfl) | exact absurd rfl h4
        · have h2 : tuB x.st = false := by
            have hc2 : tuB b = false := hc
            rcases goes_cases hg with ⟨e, rfl | rfl⟩ | ⟨e, rfl | rfl⟩ | ⟨e, rfl | rfl⟩ | ⟨e, rfl⟩ | ⟨e, rfl⟩ | ⟨e, rfl⟩ | ⟨e, rfl⟩ <;> first | (rw [e]; rfl) | exact absurd hc2 (by decide)
          exact h.k h2
        · rw [if_neg (by show b ≠ x.st; omega)]
end Go.Proofs.Ytdabdkedgigjdaa
