/- Rows of numbers that are the same; the document's own Groups. -/
import Derived.Test.YtdabdkedgigjdaaGreatZo
import Derived.Lib.RowBridge
import Derived.Lib.SlicesCompact
import Derived.Deep.RegionHeld3
namespace Go.Proofs.YtdabdkedgigjdaaGreat
open Go.RowKit

def Rises (l : List Int) : Prop := l.Pairwise (· < ·)
theorem rises_one {a b : List Int} (ha : Rises a) (hb : Rises b) (h : ∀ x, x ∈ a ↔ x ∈ b) : a = b := by
  induction a generalizing b with
  | nil =>
    cases b with
    | nil => rfl
    | cons y r => exact absurd ((h y).2 (by simp)) (by simp)
  | cons x r ih =>
    cases b with
    | nil => exact absurd ((h x).1 (by simp)) (by simp)
    | cons y s =>
      have hx := List.pairwise_cons.1 ha
      have hy := List.pairwise_cons.1 hb
      have e : x = y := by
        have h1 := (h x).1 (by simp)
        have h2 := (h y).2 (by simp)
        rcases List.mem_cons.1 h1 with e | h1
        · exact e
        · rcases List.mem_cons.1 h2 with e | h2
          · exact e.symm
          · have := hy.1 x h1
            have := hx.1 y h2
            omega
      subst e
      rw [ih hx.2 hy.2 fun z => ?_]
      constructor
      · intro hz
        rcases List.mem_cons.1 ((h z).1 (List.mem_cons_of_mem _ hz)) with e | h2
        · have := hx.1 z hz; omega
        · exact h2
      · intro hz
        rcases List.mem_cons.1 ((h z).2 (List.mem_cons_of_mem _ hz)) with e | h2
        · have := hy.1 z hz; omega
        · exact h2
theorem sortI_mem (zs : List Int) (x : Int) : x ∈ sortI zs ↔ x ∈ zs := by simp [sortI]
theorem sortI_up (zs : List Int) : (sortI zs).Pairwise (· ≤ ·) := by
  have := List.pairwise_mergeSort (le := fun x y : Int => decide (x ≤ y)) (fun a b c h1 h2 => by simp at *; omega) (fun a b => by simp; omega) zs
  simpa [sortI] using this
theorem keepsI (s : List Int) (m : Nat) (h : m < s.length) : Lib.keeps s.toArray m = (decide (m = 0) || decide (s.getD m 0 ≠ s.getD (m - 1) 0)) := by
  unfold Lib.keeps
  by_cases hm : m = 0
  · subst hm; simp
  · have h1 : m - 1 < s.length := by omega
    simp [h, h1]
theorem compact_at (s : List Int) (m : Nat) (h : m < s.length) : s.toArray[m]! = s.getD m 0 := by simp [h]
theorem compact_up (s : List Int) (hs : s.Pairwise (· ≤ ·)) (m : Nat) (hm : m ≤ s.length) :
    (∀ x, x ∈ Lib.compactUpTo s.toArray m ↔ x ∈ s.take m) ∧ Rises (Lib.compactUpTo s.toArray m) ∧ (0 < m → ∀ x ∈ Lib.compactUpTo s.toArray m, x ≤ s.getD (m - 1) 0) := by
  induction m with
  | zero => exact ⟨fun x => by simp [Lib.compactUpTo], by simp [Lib.compactUpTo, Rises], fun h => by omega⟩
  | succ m ih =>
    obtain ⟨h1, h2, h3⟩ := ih (by omega)
    have hlt : m < s.length := by omega
    have ht : s.take (m + 1) = s.take m ++ [s.getD m 0] := by
      rw [List.take_succ_eq_append_getElem hlt]; simp [hlt]
    rw [Lib.compactUpTo_succ, keepsI s m hlt, compact_at s m hlt, ht]
    generalize Lib.compactUpTo s.toArray m = L at *
    by_cases hm0 : m = 0
    · subst hm0
      have hL : L = [] := by
        cases L with
        | nil => rfl
        | cons y r => exact absurd ((h1 y).1 (by simp)) (by simp)
      subst hL
      simp only [decide_true, Bool.true_or, if_true, List.nil_append, List.take_zero, List.mem_singleton]
      exact ⟨by simp, by simp [Rises], fun _ x hx => by subst hx; simp⟩
    · have hle : s.getD (m - 1) 0 ≤ s.getD m 0 := by
        have := List.pairwise_iff_getElem.1 hs (m - 1) m (by omega) hlt (by omega)
        simpa [hlt, show m - 1 < s.length by omega] using this
      have hmem : s.getD (m - 1) 0 ∈ s.take m := by
        rw [List.mem_take_iff_getElem]
        exact ⟨m - 1, by omega, by simp [show m - 1 < s.length by omega]⟩
      by_cases hd : s.getD m 0 = s.getD (m - 1) 0
      · simp only [hm0, decide_false, Bool.false_or, hd, ne_eq, not_true_eq_false, Bool.false_eq_true, if_false, List.append_nil, List.mem_append, List.mem_singleton, Nat.add_sub_cancel]
        refine ⟨fun x => ⟨fun h => .inl ((h1 x).1 h), fun h => ?_⟩, h2, fun _ x hx => h3 (by omega) x hx⟩
        rcases h with h | rfl
        · exact (h1 x).2 h
        · exact (h1 _).2 hmem
      · simp only [hm0, decide_false, Bool.false_or, ne_eq, hd, not_false_eq_true, decide_true, if_true, List.mem_append, List.mem_singleton, Nat.add_sub_cancel]
        refine ⟨fun x => or_congr (h1 x) Iff.rfl, ?_, fun _ x hx => ?_⟩
        · unfold Rises at h2 ⊢
          rw [List.pairwise_append]
          exact ⟨h2, by simp, fun x hx y hy => by simp at hy; subst hy; have := h3 (by omega) x hx; simp only [List.getD_eq_getElem?_getD] at *; omega⟩
        · rcases hx with hx | rfl
          · have := h3 (by omega) x hx; omega
          · exact Int.le_refl _

theorem one_four (l : List Int) (h : ∀ x ∈ l, 1 ≤ x ∧ x ≤ 4) : Lib.compact (sortI l) = ([1, 2, 3, 4] : List Int).filter (fun g => decide (g ∈ l)) := by
  obtain ⟨h1, h2, _⟩ := compact_up (sortI l) (sortI_up _) (sortI l).length (Nat.le_refl _)
  refine rises_one h2 ?_ fun x => ?_
  · unfold Rises
    exact List.Pairwise.sublist List.filter_sublist (by decide)
  · have := h1 x
    rw [List.take_length, sortI_mem] at this
    show x ∈ Lib.compactUpTo _ _ ↔ _
    rw [List.mem_filter]
    refine this.trans ⟨fun hx => ⟨?_, by simpa using hx⟩, fun hx => by simpa using hx.2⟩
    have := h x hx
    have : x = 1 ∨ x = 2 ∨ x = 3 ∨ x = 4 := by omega
    simpa using this
/-- Numbers, read. -/
def IntsR (w : World) (A : Option Addr) (zs : List Int) : Prop := ∀ j (h : j < zs.length), ∃ b off, A = some ⟨b, off, none⟩ ∧ w.cell? ⟨b, off + j, none⟩ = some (.int .i64 zs[j])
theorem IntsR.ok {w w' : World} {A : Option Addr} {zs : List Int} (h : IntsR w A zs) (k : Ok w w') : IntsR w' A zs := fun j hj => by
  obtain ⟨b, off, e, c⟩ := h j hj
  exact ⟨b, off, e, Ok.cell k c⟩
theorem OwnI.rd {w : World} {B : Nat} {A : Option Addr} {n c : Nat} {zs : List Int} (h : OwnI w B A n c zs) : IntsR w A zs := fun j hj => by
  obtain ⟨h1, rfl⟩ := h
  rcases h1.2 with ⟨e, h5⟩ | ⟨g, cap, cur, e, r⟩
  · omega
  · obtain ⟨rfl, -, rfl⟩ : A = some ⟨g, 0, none⟩ ∧ True ∧ c = cap := by
      simp only [Value.slice.injEq] at e
      exact ⟨e.1, trivial, e.2.2⟩
    refine ⟨g, 0, rfl, ?_⟩
    rw [Nat.zero_add, World.ownsRow.cellAt h1 j (by omega)]
    simp [hj]

set_option maxRecDepth 100000 in
set_option maxHeartbeats 1000000 in
theorem sameInts_w (A B : Option Addr) (n c d : Nat) (zs : List Int) (hn : zs.length = n) (hn6 : n ≤ 1000000) (w : World) (hA : IntsR w A zs) (hB : IntsR w B zs) :
    Calls Tryz.prog 18 #[.slice A n c, .slice B n d] w (Ret w (.bool true)) := by
  have HA := Lib.hid hA
  have HB := Lib.hid hB
  have HN := Lib.hid hn
  clear hA hB hn
  go_enter Tryz.func18, Tryz.ntmps18
  go_wp2_with fail
  go_loopw [5] (fun i wr => ∃ k : Nat, k ≤ n ∧ i = .int .i64 k ∧ Ok w wr) (fun i _ => n - (intOf i).toNat)
  case atStart => exact ⟨0, Nat.zero_le _, rfl, Ok.refl _⟩
  case round =>
    obtain ⟨k, hk, rfl, ok⟩ := hrel
    by_cases hlt : k < n
    · have d1 : decide ((k : Int) < (n : Int)) = true := decide_eq_true (by omega)
      obtain ⟨b, o, e1, p0⟩ := HA.out k (by rw [HN.out]; exact hlt)
      obtain ⟨b2, o2, e2, q0⟩ := HB.out k (by rw [HN.out]; exact hlt)
      subst e1 e2
      replace p0 := Ok.cell ok p0
      replace q0 := Ok.cell ok q0
      have OK := Lib.hid ok
      clear ok
      generalize zs[k]'(by rw [HN.out]; exact hlt) = z at p0 q0
      have hj0 : (0 : Int) ≤ (k : Int) := Int.natCast_nonneg _
      have hj1 : (k : Int) < (n : Int) := by omega
      go_wp2_with fail
      go_quiet (fail)
      go_wp2
      refine ⟨⟨k + 1, hlt, by go_num, Ok.trans' OK.out ⟨rfl, rfl, rfl, Nat.le_refl _, fun _ _ => rfl⟩⟩, ?_⟩
      show n - ((k : Int) + 1).toNat < n - (k : Int).toNat
      omega
    · have d1 : decide ((k : Int) < (n : Int)) = false := decide_eq_false (by omega)
      have OK := Lib.hid ok
      clear ok
      go_wp2
      go_ret
      exact ⟨rfl, OK.out⟩
end Go.Proofs.YtdabdkedgigjdaaGreat
