/- A disk in memory: what its map's changes make of its files. -/
import Derived.Test.YtfchjdhjbepocaaMc
namespace Go.Proofs.Ytfchjdhjbepocaa
open Go.RowKit

theorem mvs_at (vs : Tb Sl) (k : Str) : (mvs vs).at? k = (vs.at? k).map Sl.v := Tb.at_map vs (fun _ s => s.v) k
theorem mvs_put (vs : Tb Sl) (k : Str) (s : Sl) : mvs (vs.put k s) = (mvs vs).put k s.v := by
  induction vs with
  | nil => rfl
  | cons p l ih =>
    show (Tb.put (p :: l) k s).map _ = Tb.put ((p.1, p.2.v) :: mvs l) k s.v
    unfold Tb.put
    by_cases e : p.1 = k
    · rw [if_pos e, if_pos e]; rfl
    · rw [if_neg e, if_neg e, List.map_cons]; exact congrArg _ ih
theorem mvs_del (vs : Tb Sl) (k : Str) : mvs (vs.del k) = (mvs vs).del k := by
  induction vs with
  | nil => rfl
  | cons p l ih =>
    show (Tb.del (p :: l) k).map _ = Tb.del ((p.1, p.2.v) :: mvs l) k
    unfold Tb.del
    by_cases e : p.1 = k
    · rw [if_pos e, if_pos e]; rfl
    · rw [if_neg e, if_neg e, List.map_cons]; exact congrArg _ ih
theorem once_mvs {vs : Tb Sl} (h : Once (mvs vs)) : Once vs := by
  unfold Once mvs at h
  rw [List.pairwise_map] at h
  exact h
abbrev FileR (w : World) (v : Str × Sl) (f : Str × List B8) : Prop := v.1 = f.1 ∧ OwnN w v.2.v f.2
theorem all2_at {w : World} : ∀ {vs : Tb Sl} {fs : Tb (List B8)} (_ : All2 (FileR w) vs fs) (k : Str),
    (vs.at? k = none ∧ fs.at? k = none) ∨ ∃ s b, vs.at? k = some s ∧ fs.at? k = some b ∧ OwnN w s.v b ∧ (k, s) ∈ vs ∧ (k, b) ∈ fs
  | [], [], _, k => .inl ⟨Tb.at?_nil k, Tb.at?_nil k⟩
  | p :: vs, q :: fs, h, k => by
    rw [Tb.at?_cons, Tb.at?_cons, ← h.1.1]
    by_cases e : p.1 = k
    · rw [if_pos e, if_pos e]
      refine .inr ⟨p.2, q.2, rfl, rfl, h.1.2, ?_, ?_⟩
      · rw [← e]; exact List.mem_cons_self ..
      · rw [← e, h.1.1]; exact List.mem_cons_self ..
    · rw [if_neg e, if_neg e]
      rcases all2_at h.2 k with r | ⟨s, b, h1, h2, h3, h4, h5⟩
      · exact .inl r
      · exact .inr ⟨s, b, h1, h2, h3, List.mem_cons_of_mem _ h4, List.mem_cons_of_mem _ h5⟩
  | [], _ :: _, h, _ => h.elim
  | _ :: _, [], h, _ => h.elim
theorem all2_put {w w' : World} : ∀ {vs : Tb Sl} {fs : Tb (List B8)} (_ : All2 (FileR w) vs fs) (k : Str) (s : Sl) (b : List B8), OwnN w' s.v b →
    Once vs → (∀ q, q ∈ vs → q.1 ≠ k → ∀ f, OwnN w q.2.v f → OwnN w' q.2.v f) → All2 (FileR w') (vs.put k s) (fs.put k b)
  | [], [], _, k, s, b, ho, _, _ => ⟨⟨rfl, ho⟩, trivial⟩
  | p :: vs, q :: fs, h, k, s, b, ho, h1, h2 => by
    obtain ⟨h3, h4⟩ := List.pairwise_cons.1 h1
    unfold Tb.put
    rw [← h.1.1]
    by_cases e : p.1 = k
    · rw [if_pos e, if_pos e]
      exact ⟨⟨rfl, ho⟩, h.2.mono fun a ha c hc => ⟨hc.1, h2 a (List.mem_cons_of_mem _ ha) (by rw [← e]; exact (h3 a ha).symm) _ hc.2⟩⟩
    · rw [if_neg e, if_neg e]
      exact ⟨⟨h.1.1, h2 p (List.mem_cons_self ..) e _ h.1.2⟩, all2_put h.2 k s b ho h4 fun a ha => h2 a (List.mem_cons_of_mem _ ha)⟩
  | [], _ :: _, h, _, _, _, _, _, _ => h.elim
  | _ :: _, [], h, _, _, _, _, _, _ => h.elim
theorem all2_del {w : World} : ∀ {vs : Tb Sl} {fs : Tb (List B8)} (_ : All2 (FileR w) vs fs) (k : Str), All2 (FileR w) (vs.del k) (fs.del k)
  | [], [], _, _ => trivial
  | p :: vs, q :: fs, h, k => by
    unfold Tb.del
    rw [← h.1.1]
    by_cases e : p.1 = k
    · rw [if_pos e, if_pos e]; exact h.2
    · rw [if_neg e, if_neg e]; exact ⟨h.1, all2_del h.2 k⟩
  | [], _ :: _, h, _ => h.elim
  | _ :: _, [], h, _ => h.elim
theorem Tb.del_sub {α : Type} (l : Tb α) (k : Str) : (l.del k).Sublist l := by
  induction l with
  | nil => exact List.Sublist.slnil
  | cons p l ih =>
    unfold Tb.del
    split
    · exact List.sublist_cons_self ..
    · exact ih.cons_cons _
theorem put_pair {vs : Tb Sl} {k : Str} {s : Sl} (h : vs.Pairwise fun a b => sep a.2.v b.2.v) (ho : Once vs) (hs : ∀ q, q ∈ vs → q.1 ≠ k → sep s.v q.2.v) : (vs.put k s).Pairwise fun a b => sep a.2.v b.2.v := by
  induction vs with
  | nil => exact List.pairwise_singleton _ _
  | cons p l ih =>
    obtain ⟨h1, h2⟩ := List.pairwise_cons.1 h
    obtain ⟨h3, h4⟩ := List.pairwise_cons.1 ho
    unfold Tb.put
    split
    · rename_i e
      exact List.pairwise_cons.2 ⟨fun q hq => hs q (List.mem_cons_of_mem _ hq) (by rw [← e]; exact (h3 q hq).symm), h2⟩
    · rename_i e
      refine List.pairwise_cons.2 ⟨fun q hq => ?_, ih h2 h4 fun q hq => hs q (List.mem_cons_of_mem _ hq)⟩
      rcases Tb.mem_put hq with rfl | hq
      · exact (hs p (List.mem_cons_self ..) e).symm
      · exact h1 q hq
theorem FilesIn.at {w : World} {vs : Tb Sl} {fs : Tb (List B8)} (h : FilesIn w vs fs) (k : Str) :
    (vs.at? k = none ∧ fs.at? k = none) ∨ ∃ s b, vs.at? k = some s ∧ fs.at? k = some b ∧ OwnN w s.v b ∧ (k, s) ∈ vs ∧ (k, b) ∈ fs := all2_at h.each k
theorem FilesIn.put {w w' : World} {vs : Tb Sl} {fs : Tb (List B8)} (h : FilesIn w vs fs) (ho : Once vs) (k : Str) (s : Sl) (b : List B8) (hb : OwnN w' s.v b) (hs : ∀ q, q ∈ vs → q.1 ≠ k → sep s.v q.2.v)
    (hk : ∀ q, q ∈ vs → q.1 ≠ k → ∀ g, q.2.v.ownBlock = some g → w'.heap[g]? = w.heap[g]?) : FilesIn w' (vs.put k s) (fs.put k b) :=
  ⟨all2_put h.each k s b hb ho fun q hq hn _ hf => blk_eq hf (hk q hq hn), put_pair h.apart ho hs⟩
theorem FilesIn.del {w : World} {vs : Tb Sl} {fs : Tb (List B8)} (h : FilesIn w vs fs) (k : Str) : FilesIn w (vs.del k) (fs.del k) :=
  ⟨all2_del h.each k, h.apart.sublist (Tb.del_sub vs k)⟩
theorem apart_of {vs : Tb Sl} (h : vs.Pairwise fun a b => sep a.2.v b.2.v) (ho : Once vs) {p q : Str × Sl} (hp : p ∈ vs) (hq : q ∈ vs) (hn : q.1 ≠ p.1) : sep p.2.v q.2.v := by
  induction vs with
  | nil => cases hp
  | cons x l ih =>
    obtain ⟨h1, h2⟩ := List.pairwise_cons.1 h
    obtain ⟨h3, h4⟩ := List.pairwise_cons.1 ho
    rcases List.mem_cons.1 hp with rfl | hp
    · rcases List.mem_cons.1 hq with rfl | hq
      · exact absurd rfl hn
      · exact h1 q hq
    · rcases List.mem_cons.1 hq with e | hq
      · rw [e]; exact (h1 p hp).symm
      · exact ih h2 h4 hp hq
theorem OwnN.form {w : World} {v : Value} {xs : List B8} (h : OwnN w v xs) : ∃ s : Sl, v = s.v ∧ s.n = xs.length := by
  rcases h.2 with ⟨rfl, h0⟩ | ⟨g, cap, cur, rfl, _⟩
  · exact ⟨sl0, rfl, h0.symm⟩
  · exact ⟨⟨_, _, _⟩, rfl, rfl⟩
/-- The beginning of a row. -/
theorem OwnN.take {w : World} {A : Option Addr} {n c : Nat} {xs : List B8} (h : OwnN w (.slice A n c) xs) (m : Nat) (hm : m ≤ xs.length) : OwnN w (.slice A m c) (xs.take m) := by
  have hl : (xs.take m).length = m := by rw [List.length_take]; omega
  unfold OwnN at h ⊢
  rw [hl]
  refine ⟨by simp; omega, ?_⟩
  rcases h.2 with ⟨e, h0⟩ | ⟨g, cap, cur, e, hb, hg, hn, hc, hs, ht⟩
  · simp only [Value.slice.injEq] at e
    have : m = 0 := by omega
    subst this
    exact .inl ⟨by rw [e.1, e.2.2], rfl⟩
  · simp only [Value.slice.injEq] at e
    obtain ⟨rfl, rfl, rfl⟩ := e
    refine .inr ⟨g, c, cur, rfl, hb, hg, by omega, hc, hs, ?_⟩
    rw [List.map_take, ← ht, List.take_take, Nat.mul_one, Nat.mul_one, Nat.min_eq_left hm]
/-- The file's slice, and its block's place among the blocks. -/
theorem DkAt.file {p : Nat} {D : Dk} {pv : Sl} {mb : Nat} {vs : Tb Sl} {w : World} (h : DkAt p D pv mb vs w) (k : Str) :
    ∃ s, (vs.at? k).getD sl0 = s ∧ ((mvs vs).at? k).getD (.slice none 0 0) = s.v ∧ ((mvs vs).at? k).isSome = (D.fs.at? k).isSome ∧ OwnN w s.v (D.file k) ∧ s.n = (D.file k).length ∧ ((k, s) ∈ vs ∨ s = sl0) := by
  rcases h.fs.at k with ⟨h1, h2⟩ | ⟨s, b, h1, h2, h3, h4, h5⟩
  · refine ⟨sl0, by rw [h1]; rfl, by rw [mvs_at, h1]; rfl, by rw [mvs_at, h1, h2]; rfl, ?_, ?_, .inr rfl⟩
    · unfold Dk.file; rw [h2]; exact World.ownsRow_nil ..
    · unfold Dk.file; rw [h2]; rfl
  · refine ⟨s, by rw [h1]; rfl, by rw [mvs_at, h1]; rfl, by rw [mvs_at, h1, h2]; rfl, ?_, ?_, .inl h4⟩
    · unfold Dk.file; rw [h2]; exact h3
    · unfold Dk.file; rw [h2]
      obtain ⟨s', e, hn⟩ := h3.form
      simp only [Sl.v, Value.slice.injEq] at e
      rw [e.2.1, hn]; rfl
end Go.Proofs.Ytfchjdhjbepocaa
