/- The step that turns the shares leaves the handoff and the shares right. -/
import Derived.Test.YtdabdkedgigjdaaYl
import Derived.Test.YtdabdkedgigjdaaSm
namespace Go.Proofs.Ytdabdkedgigjdaa
open Go.RowKit

theorem sc_turn {x : Sc} {ep : Int} {xs : List Sh} (h : scB x = true) (hk : turnK ep xs x = 0) : scB { x with st := 4, un := ep + 1 } = true ∧ sharesB (ep + 1) (turnM ep xs x.sp x.to).2 = true := by
  unfold turnK at hk
  by_cases h0 : (turnM ep xs x.sp x.to).1 = 0
  · rw [if_pos h0] at hk
    by_cases hg : (inM ep xs x.sp).g = x.fr ∧ (inM ep xs x.sp).e = x.ep
    · rcases turn_ways ep xs x.sp x.to with ⟨_, e⟩ | ⟨_, _, e⟩ | ⟨_, _, _, e⟩ | ⟨_, _, _, _, e⟩ | ⟨k, hkl, hw, hs, hr, hgr, _, ⟨_, e⟩ | ⟨_, _, e⟩ | ⟨hne, hle, hlen, e⟩⟩
      · rw [e] at h0; exact absurd h0 (by decide)
      · rw [e] at h0; exact absurd h0 (by decide)
      · rw [e] at h0; exact absurd h0 (by decide)
      · rw [e] at h0; exact absurd h0 (by decide)
      · rw [e] at h0; exact absurd h0 (by decide)
      · rw [e] at h0; exact absurd h0 (by decide)
      · refine ⟨?_, by rw [e]; exact (turned hkl hs hw hgr hne hle hlen).1⟩
        obtain ⟨y, hy⟩ : ∃ y, xs.find? (fun y => withinB x.sp y.sp) = some y :=
          Option.isSome_iff_exists.1 (List.find?_isSome.2 ⟨at2 xs k, by rw [at2_get xs k hkl]; exact List.getElem_mem hkl, hw⟩)
        have hin : inM ep xs x.sp = y := by unfold inM firstM; rw [if_pos hs, hy]; rfl
        have hok := (shares_parts hs).2.2.2.2 y (List.mem_of_find?_eq_some hy)
        simp only [shOkB, Bool.and_eq_true, decide_eq_true_eq] at hok
        rw [hin] at hg
        have hlt : x.ep < ep + 1 := by omega
        obtain ⟨num, ⟨lo, hi⟩, fr, to, xe, un, st⟩ := x
        unfold scB sc1 sc2 unB at h ⊢
        simp only [Bool.and_eq_true] at h ⊢
        refine ⟨⟨h.1.1, h.1.2.1, by decide⟩, ?_⟩
        rw [if_pos (by decide)]
        simp only [Bool.and_eq_true, decide_eq_true_eq]
        exact ⟨hlt, hle⟩
    · rw [if_neg hg] at hk; exact absurd hk (by decide)
  · rw [if_neg h0] at hk; exact absurd hk h0
end Go.Proofs.Ytdabdkedgigjdaa
