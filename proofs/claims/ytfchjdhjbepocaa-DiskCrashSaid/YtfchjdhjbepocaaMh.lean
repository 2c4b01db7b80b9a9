/- The law DiskAppends as mathematics: one file, appended to, synced now and then. -/
import Derived.Test.YtfchjdhjbepocaaMg
namespace Go.Proofs.Ytfchjdhjbepocaa
open Go Go.RowKit

structure One (F : Str) (D : Dk) (i : Nat) (all : List B8) (safe : Nat) : Prop where
  inv : D.Inv
  sz : D.size = 0
  nm : ∀ p ∈ D.ps, p.1 = F
  at_ : D.fs.at? F = if i = 0 then none else some all
  i0 : i = 0 → all = []
  wt : many D.ps + safe = all.length
  us : used D.fs = all.length
theorem One.new (F : Str) : One F ⟨0, [], []⟩ 0 [] 0 := ⟨Dk.Inv.new 0, rfl, fun _ h => (by cases h), rfl, fun _ => rfl, rfl, rfl⟩
theorem One.file {F : Str} {D : Dk} {i : Nat} {all : List B8} {safe : Nat} (h : One F D i all safe) : D.file F = all := by
  unfold Dk.file
  rw [h.at_]
  split
  · rename_i e; rw [h.i0 e]; rfl
  · rfl
theorem One.append {F : Str} {D : Dk} {i : Nat} {all : List B8} {safe : Nat} (h : One F D i all safe) (bs : List B8) : One F (D.append F bs) (i + 1) (all ++ bs) safe := by
  refine ⟨h.inv.append F bs, h.sz, fun p hp => ?_, ?_, fun e => by omega, ?_, ?_⟩
  · unfold Dk.append at hp
    simp only at hp
    split at hp
    · exact h.nm p hp
    · rcases List.mem_append.1 hp with hp | hp
      · exact h.nm p hp
      · rw [List.mem_singleton.1 hp]
  · show (D.fs.put F (D.file F ++ bs)).at? F = _
    rw [Tb.at_put, if_pos rfl, if_neg (by omega), h.file]
  · have hw := h.wt
    unfold Dk.append
    simp only
    rw [List.length_append]
    split
    · omega
    · rw [many_append, many_cons]; show many D.ps + (bs.length + many []) + safe = _
      have : many [] = 0 := rfl
      omega
  · rw [used_append h.inv, h.us, List.length_append]
theorem settle_all {l : List Pc} {F : Str} (h : ∀ p ∈ l, p.1 = F) : settle l F = [] := by
  unfold settle
  rw [List.filter_eq_nil_iff]
  intro p hp
  simp [h p hp]
theorem One.sync {F : Str} {D : Dk} {i : Nat} {all : List B8} {safe : Nat} (h : One F D i all safe) : One F (D.sync F) i all all.length := by
  have e : (D.sync F).ps = [] := settle_all h.nm
  refine ⟨h.inv.sync F, h.sz, fun p hp => ?_, h.at_, h.i0, ?_, h.us⟩
  · rw [e] at hp; cases hp
  · rw [e]; show 0 + _ = _; omega
theorem One.crash {F : Str} {D : Dk} {i : Nat} {all : List B8} {safe : Nat} (h : One F D i all safe) (keep : Int) : (D.crash keep).file F = all.take (safe + kept1 keep (all.length - safe)) := by
  have hw := h.wt
  have hm : many D.ps = all.length - safe := by omega
  unfold Dk.file Dk.crash
  simp only
  rw [crashF_at, h.at_]
  by_cases hi : i = 0
  · rw [if_pos hi, h.i0 hi]; simp
  rw [if_neg hi]
  simp only [Option.map_some, Option.getD_some]
  unfold keptB
  have ha := keptF_all D.ps keep [] F h.nm
  rw [hm] at ha
  have hs := keptF_some D.ps keep [] F
  cases hk : (keptF D.ps keep []).at? F with
  | none =>
    rw [hk] at ha hs
    have : D.ps = [] := by
      cases e : D.ps with
      | nil => rfl
      | cons p l =>
        rw [e] at hs
        have := h.nm p (by rw [e]; exact List.mem_cons_self ..)
        simp [this] at hs
    rw [this] at hw
    have : many [] = 0 := rfl
    simp only
    rw [List.take_of_length_le (by omega)]
  | some n =>
    rw [hk] at ha
    simp only [Option.getD_some, Tb.at?_nil, Option.getD_none, Nat.zero_add] at ha
    simp only
    unfold left1
    rw [ofP_all h.nm, hm, ha]
    congr 1
    omega
theorem One.done {F : Str} {D : Dk} {i : Nat} {all : List B8} {safe : Nat} (h : One F D i all safe) (keep : Int) : ((D.crash keep).file F).length = safe + kept1 keep (all.length - safe) ∧ (D.crash keep).file F = all.take ((D.crash keep).file F).length := by
  have hw := h.wt
  have e := h.crash keep
  have hl : ((D.crash keep).file F).length = safe + kept1 keep (all.length - safe) := by
    rw [e, List.length_take]
    have := kept1_le keep (all.length - safe)
    omega
  exact ⟨hl, by rw [hl]; exact e⟩
end Go.Proofs.Ytfchjdhjbepocaa
