/- The document's own Parts: as the plain mathematics says. -/
import Derived.Test.YtdabdkedgigjdaaGreatJ
import Derived.Test.YtdabdkedgigjdaaGreatN
namespace Go.Proofs.YtdabdkedgigjdaaGreat
open Go.RowKit

theorem at1_zero (s : Sp) (r : List Sp) : at1 (s :: r) 0 = s := rfl
theorem at1_succ (s : Sp) (r : List Sp) (i : Nat) : at1 (s :: r) (i + 1) = at1 r i := by simp [at1]
theorem partsGo_iff : ∀ (ps : List Sp) (lo : Str), partsGo lo ps = true ↔ ∀ i, i < ps.length → rightB (at1 ps i) = true ∧ (at1 ps i).lo = (if i = 0 then lo else (at1 ps (i - 1)).hi) ∧ noB (at1 ps i).hi = decide (i + 1 = ps.length)
  | [], lo => by simp [partsGo]
  | s :: r, lo => by
    have ih := partsGo_iff r s.hi
    have he : r.isEmpty = decide (0 + 1 = (s :: r).length) := by cases r <;> simp
    constructor
    · intro h i hi
      simp only [partsGo, Bool.and_eq_true, beq_iff_eq] at h
      obtain ⟨⟨⟨h1, h2⟩, h3⟩, h4⟩ := h
      cases i with
      | zero => exact ⟨h1, by rw [if_pos rfl]; exact str_ext h2, by rw [at1_zero, h3, he]⟩
      | succ i =>
        obtain ⟨g1, g2, g3⟩ := ih.1 h4 i (by simpa using hi)
        rw [at1_succ]
        refine ⟨g1, ?_, by rw [g3]; simp⟩
        rw [g2, if_neg (Nat.succ_ne_zero i)]
        cases i with
        | zero => rfl
        | succ i => rw [if_neg (Nat.succ_ne_zero i), Nat.add_sub_cancel, Nat.add_sub_cancel, at1_succ]
    · intro h
      obtain ⟨h1, h2, h3⟩ := h 0 (by simp)
      rw [if_pos rfl] at h2
      rw [at1_zero] at h1 h2 h3
      simp only [partsGo, Bool.and_eq_true, beq_iff_eq]
      refine ⟨⟨⟨h1, by rw [h2]⟩, by rw [h3, he]⟩, ih.2 fun i hi => ?_⟩
      obtain ⟨g1, g2, g3⟩ := h (i + 1) (by simpa using hi)
      rw [at1_succ] at g1 g2 g3
      refine ⟨g1, ?_, by rw [g3]; simp⟩
      rw [g2, if_neg (Nat.succ_ne_zero i)]
      cases i with
      | zero => rfl
      | succ i => rw [if_neg (Nat.succ_ne_zero i), Nat.add_sub_cancel, Nat.add_sub_cancel, at1_succ]
/-- As the document's own answer tells it. -/
theorem partsM_iff (ps : List Sp) : partsM ps = true ↔ 0 < ps.length ∧ noB (at1 ps 0).lo = true ∧ noB (at1 ps (ps.length - 1)).hi = true ∧ ∀ i, i < ps.length → rightB (at1 ps i) = true ∧ (0 < i → noB (at1 ps (i - 1)).hi = false ∧ (at1 ps (i - 1)).hi = (at1 ps i).lo) := by
  have h0 : (!ps.isEmpty) = true ↔ 0 < ps.length := by cases ps <;> simp
  rw [partsM, Bool.and_eq_true, h0, partsGo_iff]
  constructor
  · rintro ⟨hn, h⟩
    refine ⟨hn, ?_, ?_, fun i hi => ⟨(h i hi).1, fun hp => ?_⟩⟩
    · rw [(h 0 hn).2.1, if_pos rfl]; exact (noB_iff _).2 rfl
    · rw [(h _ (by omega)).2.2]; exact decide_eq_true (by omega)
    · have g := (h i hi).2.1
      rw [if_neg (by omega)] at g
      exact ⟨by rw [(h (i - 1) (by omega)).2.2]; exact decide_eq_false (by omega), g.symm⟩
  · rintro ⟨hn, h1, h2, h⟩
    refine ⟨hn, fun i hi => ⟨(h i hi).1, ?_, ?_⟩⟩
    · by_cases h0 : i = 0
      · subst h0
        rw [if_pos rfl]; exact (noB_iff _).1 h1
      · rw [if_neg h0]; exact ((h i hi).2 (by omega)).2.symm
    · by_cases hl : i + 1 = ps.length
      · rw [decide_eq_true hl]
        rw [show ps.length - 1 = i from by omega] at h2
        exact h2
      · rw [decide_eq_false hl]
        have := ((h (i + 1) (by omega)).2 (by omega)).1
        rwa [Nat.add_sub_cancel] at this

structure HeldU (p : Prop) : Prop where
  out : p
theorem hqU_step {P : Program} {ops : Array Oper} {C : World → Prop} {Q : Act → Prop} {a : Act} {o : Oper} {rest : List Oper}
    (h : ∀ K : Act → Prop, (∀ a, HeldU (wpQuiet P ops C Q rest a) → K a) → if Region.wanted o (yielded ops a.tmps) then o.quiet P a C K else K (a.put o.dst undef)) : HeldU (wpQuiet P ops C Q (o :: rest) a) :=
  ⟨h (fun a => wpQuiet P ops C Q rest a) (fun _ h => h.out)⟩


end Go.Proofs.YtdabdkedgigjdaaGreat
