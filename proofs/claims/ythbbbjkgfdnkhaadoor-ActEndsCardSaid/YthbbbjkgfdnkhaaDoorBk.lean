/- A text put into a rising list: mathematics. -/
import Derived.Test.YthbbbjkgfdnkhaaDoorAr
namespace Go.Proofs.YthbbbjkgfdnkhaaDoor
open Go.RowKit
/-- Two rising lists of the same texts are one. -/
theorem rises_ext : ∀ a b : List Tx, Rises a → Rises b → (∀ x, x ∈ a ↔ x ∈ b) → a = b
  | [], [], _, _, _ => rfl
  | [], y :: b, _, _, h => absurd ((h y).2 (List.mem_cons_self ..)) (List.not_mem_nil)
  | x :: a, [], _, _, h => absurd ((h x).1 (List.mem_cons_self ..)) (List.not_mem_nil)
  | x :: a, y :: b, ha, hb, h => by
    obtain ⟨ha1, ha2⟩ := List.pairwise_cons.1 ha
    obtain ⟨hb1, hb2⟩ := List.pairwise_cons.1 hb
    have e : x = y := by
      rcases List.mem_cons.1 ((h x).1 (List.mem_cons_self ..)) with e | m
      · exact e
      · rcases List.mem_cons.1 ((h y).2 (List.mem_cons_self ..)) with e | m2
        · exact e.symm
        · exact tx_anti (ha1 y m2).1 (hb1 x m).1
    subst e
    have ht : a = b := rises_ext a b ha2 hb2 fun z => by
      constructor
      · intro m
        rcases List.mem_cons.1 ((h z).1 (List.mem_cons_of_mem _ m)) with e | m2
        · exact absurd e.symm (ha1 z m).2
        · exact m2
      · intro m
        rcases List.mem_cons.1 ((h z).2 (List.mem_cons_of_mem _ m)) with e | m2
        · exact absurd e.symm (hb1 z m).2
        · exact m2
    rw [ht]
/-- How many texts at the front are below. -/
def lowT (x : Tx) : List Tx → Nat
  | [] => 0
  | z :: zs => if Op.bytesLess z x = true then lowT x zs + 1 else 0
theorem lowT_le (x : Tx) : ∀ zs : List Tx, lowT x zs ≤ zs.length
  | [] => Nat.le_refl _
  | z :: zs => by
    unfold lowT
    split
    · have := lowT_le x zs; simp only [List.length_cons]; omega
    · exact Nat.zero_le _
theorem lowT_lt (x : Tx) : ∀ (zs : List Tx) (j : Nat), j < lowT x zs → Op.bytesLess (zs.getD j []) x = true
  | [], j, h => absurd h (Nat.not_lt_zero _)
  | z :: zs, j, h => by
    unfold lowT at h
    split at h
    · rename_i hz
      match j, h with
      | 0, _ => exact hz
      | j + 1, h => exact lowT_lt x zs j (Nat.lt_of_succ_lt_succ h)
    · exact absurd h (Nat.not_lt_zero _)
theorem lowT_at (x : Tx) : ∀ zs : List Tx, lowT x zs < zs.length → Op.bytesLess (zs.getD (lowT x zs) []) x = false
  | [], h => absurd h (Nat.not_lt_zero _)
  | z :: zs, h => by
    unfold lowT at h ⊢
    split at h
    · rename_i hz
      rw [if_pos hz]
      exact lowT_at x zs (Nat.lt_of_succ_lt_succ h)
    · rename_i hz
      rw [if_neg hz]
      show Op.bytesLess z x = false
      cases hb : Op.bytesLess z x with
      | true => exact absurd hb hz
      | false => rfl
theorem less_of {a b : Tx} (h : Op.bytesLess a b = true) : a ≤ b ∧ a ≠ b := by
  rw [Go.Proofs.bytesLess_eq] at h
  have h1 : a < b := of_decide_eq_true h
  exact ⟨List.le_of_lt h1, fun e => by rw [e] at h1; exact List.lt_irrefl b h1⟩
theorem notless_of {a b : Tx} (h : Op.bytesLess a b = false) : b ≤ a := by
  rw [Go.Proofs.bytesLess_eq] at h
  exact List.not_lt.1 (of_decide_eq_false h)
/-- A text put in, once. -/
def insT (zs : List Tx) (x : Tx) : List Tx :=
  if lowT x zs < zs.length ∧ zs.getD (lowT x zs) [] = x then zs else zs.take (lowT x zs) ++ x :: zs.drop (lowT x zs)
theorem insT_facts (zs : List Tx) (x : Tx) (h : Rises zs) : Rises (insT zs x) ∧ ∀ y, y ∈ insT zs x ↔ y ∈ zs ∨ y = x := by
  unfold insT
  by_cases hc : lowT x zs < zs.length ∧ zs.getD (lowT x zs) [] = x
  · rw [if_pos hc]
    refine ⟨h, fun y => ⟨.inl, fun hy => ?_⟩⟩
    rcases hy with hy | rfl
    · exact hy
    · have e : zs.getD (lowT y zs) [] = zs[lowT y zs]'hc.1 := by simp [List.getD, hc.1]
      have := List.getElem_mem hc.1
      rw [← e, hc.2] at this
      exact this
  · rw [if_neg hc]
    have hp := lowT_le x zs
    refine ⟨?_, fun y => ?_⟩
    · unfold Rises
      have h0 : (zs.take (lowT x zs) ++ zs.drop (lowT x zs)).Pairwise (fun x y => x ≤ y ∧ x ≠ y) := by rw [List.take_append_drop]; exact h
      obtain ⟨p1, p2, p3⟩ := List.pairwise_append.1 h0
      have hlow : ∀ a ∈ zs.take (lowT x zs), a ≤ x ∧ a ≠ x := fun a ha => by
        obtain ⟨j, hj, e⟩ := List.mem_iff_getElem.1 ha
        rw [List.length_take] at hj
        have h1 := lowT_lt x zs j (by omega)
        have e2 : zs.getD j [] = a := by rw [← e]; simp [List.getD, show j < zs.length by omega]
        rw [e2] at h1
        exact less_of h1
      have hhigh : ∀ a ∈ zs.drop (lowT x zs), x ≤ a ∧ x ≠ a := fun a ha => by
        have hlen : lowT x zs < zs.length := by
          rcases Nat.lt_or_ge (lowT x zs) zs.length with h1 | h1
          · exact h1
          · rw [List.drop_eq_nil_of_le h1] at ha; cases ha
        have hat := notless_of (lowT_at x zs hlen)
        have e0 : zs.getD (lowT x zs) [] = zs[lowT x zs] := by simp [List.getD, hlen]
        have hne : zs[lowT x zs] ≠ x := fun e => hc ⟨hlen, by rw [e0, e]⟩
        rw [e0] at hat
        rw [List.drop_eq_getElem_cons hlen] at ha p2
        rcases List.mem_cons.1 ha with rfl | ha
        · exact ⟨hat, fun e => hne e.symm⟩
        · have h3 := (List.pairwise_cons.1 p2).1 a ha
          exact ⟨tx_trans hat h3.1, fun e => h3.2 (tx_anti h3.1 (by rw [← e]; exact hat))⟩
      rw [List.pairwise_append]
      refine ⟨p1, List.pairwise_cons.2 ⟨hhigh, p2⟩, fun a ha b hb => ?_⟩
      rcases List.mem_cons.1 hb with rfl | hb
      · exact hlow a ha
      · exact p3 a ha b hb
    · rw [List.mem_append, List.mem_cons]
      have : y ∈ zs ↔ y ∈ zs.take (lowT x zs) ∨ y ∈ zs.drop (lowT x zs) := by rw [← List.mem_append, List.take_append_drop]
      rw [this]
      constructor
      · rintro (h | h | h)
        · exact .inl (.inl h)
        · exact .inr h
        · exact .inl (.inr h)
      · rintro ((h | h) | h)
        · exact .inl h
        · exact .inr (.inr h)
        · exact .inr (.inl h)
/-- The keys as the document collects them. -/
def insL (l : List Ac) : List Tx := l.foldl (fun zs a => insT zs a.key.data.toList) []
theorem insL_take (l : List Ac) (k : Nat) (h : k < l.length) : insL (l.take (k + 1)) = insT (insL (l.take k)) (atA l k).key.data.toList := by
  have e : atA l k = l[k] := by simp [atA, List.getD, h]
  rw [List.take_succ_eq_append_getElem h, e]
  unfold insL
  rw [List.foldl_append]
  rfl
theorem foldl_ins (l : List Ac) : ∀ zs : List Tx, Rises zs → Rises (l.foldl (fun zs a => insT zs a.key.data.toList) zs) ∧ ∀ y, y ∈ l.foldl (fun zs a => insT zs a.key.data.toList) zs ↔ y ∈ zs ∨ ∃ a ∈ l, a.key.data.toList = y := by
  induction l with
  | nil => intro zs h; exact ⟨h, fun y => by simp⟩
  | cons a l ih =>
    intro zs h
    obtain ⟨h1, h2⟩ := insT_facts zs a.key.data.toList h
    obtain ⟨h3, h4⟩ := ih _ h1
    refine ⟨h3, fun y => ?_⟩
    rw [List.foldl_cons, h4, h2]
    constructor
    · rintro ((h | h) | ⟨b, hb, e⟩)
      · exact .inl h
      · exact .inr ⟨a, List.mem_cons_self .., h.symm⟩
      · exact .inr ⟨b, List.mem_cons_of_mem _ hb, e⟩
    · rintro (h | ⟨b, hb, e⟩)
      · exact .inl (.inl h)
      · rcases List.mem_cons.1 hb with rfl | hb
        · exact .inl (.inr e.symm)
        · exact .inr ⟨b, hb, e⟩
/-- Both ways give the same keys. -/
theorem insL_keys (l : List Ac) : insL l = keysT l := by
  obtain ⟨h1, h2⟩ := foldl_ins l [] List.Pairwise.nil
  obtain ⟨h3, h4⟩ := keysT_facts l
  refine rises_ext _ _ h1 h4 fun x => ?_
  rw [h3]
  refine (h2 x).trans ⟨fun h => ?_, .inr⟩
  rcases h with h | h
  · cases h
  · exact h
end Go.Proofs.YthbbbjkgfdnkhaaDoor
