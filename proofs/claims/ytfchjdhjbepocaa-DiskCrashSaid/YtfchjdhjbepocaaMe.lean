/- A disk in memory behind a file's change. -/
import Derived.Test.YtfchjdhjbepocaaMd
namespace Go.Proofs.Ytfchjdhjbepocaa
open Go.RowKit

/-- The slice u lies in v's block, in a new one, or nowhere. -/
def From (w : World) (v u : Value) : Prop := ∀ g, u.ownBlock = some g → v.ownBlock = some g ∨ w.heap.size ≤ g
theorem From.refl (w : World) (v : Value) : From w v v := fun _ h => .inl h
theorem From.trans {w w' : World} {a b c : Value} (h : From w a b) (k : From w' b c) (hs : w.heap.size ≤ w'.heap.size) : From w a c := fun g e => by
  rcases k g e with q | q
  · exact h g q
  · exact .inr (Nat.le_trans hs q)
theorem getD_cases {vs : Tb Sl} {k : Str} {g : Nat} (h : ((vs.at? k).getD sl0).v.ownBlock = some g) : ∃ s, (k, s) ∈ vs ∧ s.v.ownBlock = some g := by
  cases e : vs.at? k with
  | none => rw [e] at h; cases h
  | some s => rw [e] at h; exact ⟨s, Tb.at_mem e, h⟩
theorem DkAt.putF {p : Nat} {D : Dk} {pv : Sl} {mb : Nat} {vs : Tb Sl} {W w' : World} (h : DkAt p D pv mb vs W) (k : Str) (s : Sl) (b : List B8) (pv' : Sl) (ps' : List Pc)
    (ho : OwnN w' s.v b) (hm : MapV w' mb ((mvs vs).put k s.v)) (hst : w'.heap[p]? = some (.cells #[pv'.v, .int .i64 D.size, .map (some mb)] 57 (0, 0))) (hps : OwnPc w' pv' ps')
    (hfr : From W ((vs.at? k).getD sl0).v s.v) (hk : ∀ q, q ∈ vs → q.1 ≠ k → ∀ g, q.2.v.ownBlock = some g → w'.heap[g]? = W.heap[g]?) (hi : Dk.Inv ⟨D.size, ps', D.fs.put k b⟩) :
    DkAt p ⟨D.size, ps', D.fs.put k b⟩ pv' mb (vs.put k s) w' := by
  have ho1 := once_mvs h.mp.1
  refine ⟨hst, hps, by rw [mvs_put]; exact hm, h.fs.put ho1 k s b ho (fun q hq hn g e => ?_) hk, hi⟩
  rcases hfr g e with r | r
  · obtain ⟨s0, h1, h2⟩ := getD_cases r
    exact apart_of h.fs.apart ho1 h1 hq hn g h2
  · intro e2
    obtain ⟨f, _, _, hf⟩ := h.fs.own hq
    have := owns_lt hf e2
    omega
theorem DkAt.delF {p : Nat} {D : Dk} {pv : Sl} {mb : Nat} {vs : Tb Sl} {W w' : World} (h : DkAt p D pv mb vs W) (k : Str) (pv' : Sl) (ps' : List Pc)
    (hm : MapV w' mb ((mvs vs).del k)) (hst : w'.heap[p]? = some (.cells #[pv'.v, .int .i64 D.size, .map (some mb)] 57 (0, 0))) (hps : OwnPc w' pv' ps')
    (hk : ∀ q, q ∈ vs → q.1 ≠ k → ∀ g, q.2.v.ownBlock = some g → w'.heap[g]? = W.heap[g]?) (hi : Dk.Inv ⟨D.size, ps', D.fs.del k⟩) :
    DkAt p ⟨D.size, ps', D.fs.del k⟩ pv' mb (vs.del k) w' := by
  have h1 := h.fs.del k
  refine ⟨hst, hps, by rw [mvs_del]; exact hm, h1.kept fun q hq => hk q (Tb.mem_del hq) ?_, hi⟩
  have ho := once_mvs h.mp.1
  intro e
  have h2 : (vs.del k).at? k = some q.2 := by rw [← e]; exact Tb.mem_at (ho.del q.1) (by rw [e]; exact hq)
  rw [Tb.at_del ho, if_pos rfl] at h2
  cases h2
/-- Nothing but what waits has turned. -/
theorem DkAt.waits {p : Nat} {D : Dk} {pv : Sl} {mb : Nat} {vs : Tb Sl} {W w' : World} (h : DkAt p D pv mb vs W) (pv' : Sl) (ps' : List Pc)
    (hst : w'.heap[p]? = some (.cells #[pv'.v, .int .i64 D.size, .map (some mb)] 57 (0, 0))) (hps : OwnPc w' pv' ps')
    (hk : ∀ b, b = mb ∨ (∃ q, q ∈ vs ∧ q.2.v.ownBlock = some b) → w'.heap[b]? = W.heap[b]?) (hi : Dk.Inv ⟨D.size, ps', D.fs⟩) : DkAt p ⟨D.size, ps', D.fs⟩ pv' mb vs w' :=
  ⟨hst, hps, h.mp.block (hk mb (.inl rfl)), h.fs.kept fun q hq _ e => hk _ (.inr ⟨q, hq, e⟩), hi⟩
theorem blk_put {p : Nat} {pv pv' : Sl} {mb : Nat} {vs : Tb Sl} {k : Str} {s : Sl} {W : World} (h1 : From W pv.v pv'.v) (h2 : From W ((vs.at? k).getD sl0).v s.v) {b : Nat} (h : Blk p pv' mb (vs.put k s) b) : New (Blk p pv mb vs) W b := by
  rcases h with e | e | e | ⟨q, hq, e⟩
  · exact .inl (.inl e)
  · exact .inl (.inr (.inl e))
  · rcases h1 b e with r | r
    · exact .inl (.inr (.inr (.inl r)))
    · exact .inr r
  · rcases Tb.mem_put hq with rfl | hq
    · rcases h2 b e with r | r
      · obtain ⟨s0, h1, h2⟩ := getD_cases r
        exact .inl (.inr (.inr (.inr ⟨_, h1, h2⟩)))
      · exact .inr r
    · exact .inl (.inr (.inr (.inr ⟨q, hq, e⟩)))
theorem blk_del {p : Nat} {pv pv' : Sl} {mb : Nat} {vs : Tb Sl} {k : Str} {W : World} (h1 : From W pv.v pv'.v) {b : Nat} (h : Blk p pv' mb (vs.del k) b) : New (Blk p pv mb vs) W b := by
  rcases h with e | e | e | ⟨q, hq, e⟩
  · exact .inl (.inl e)
  · exact .inl (.inr (.inl e))
  · rcases h1 b e with r | r
    · exact .inl (.inr (.inr (.inl r)))
    · exact .inr r
  · exact .inl (.inr (.inr (.inr ⟨q, Tb.mem_del hq, e⟩)))
theorem New.mono {S S' : Nat → Prop} {w w' : World} (h : ∀ b, S b → S' b) (hs : w.heap.size ≤ w'.heap.size) {b : Nat} (k : New S w' b) : New S' w b := k.imp (h b) (Nat.le_trans hs)
/-- Blocks of different kinds. -/
theorem ty_ne {w : World} {e e' g : Nat} {cur cur' : Array Value} (h : w.heap[g]? = some (.cells cur e (0, 0))) (h' : w.heap[g]? = some (.cells cur' e' (0, 0))) : e = e' := by
  rw [h] at h'; simp at h'; exact h'.2
theorem DkAt.p_ps {p : Nat} {D : Dk} {pv : Sl} {mb : Nat} {vs : Tb Sl} {w : World} (h : DkAt p D pv mb vs w) : pv.v.ownBlock ≠ some p := fun e => by
  obtain ⟨cur, hc⟩ := owns_ty h.ps e
  have := ty_ne hc h.st
  omega
theorem DkAt.p_mb {p : Nat} {D : Dk} {pv : Sl} {mb : Nat} {vs : Tb Sl} {w : World} (h : DkAt p D pv mb vs w) : p ≠ mb := fun e => by
  obtain ⟨_, es, clock, hb, _⟩ := h.mp
  rw [← e, h.st] at hb
  cases hb
theorem DkAt.mb_ps {p : Nat} {D : Dk} {pv : Sl} {mb : Nat} {vs : Tb Sl} {w : World} (h : DkAt p D pv mb vs w) : pv.v.ownBlock ≠ some mb := fun e => by
  obtain ⟨cur, hc⟩ := owns_ty h.ps e
  obtain ⟨_, es, clock, hb, _⟩ := h.mp
  rw [hc] at hb
  cases hb
theorem DkAt.file_ne {p : Nat} {D : Dk} {pv : Sl} {mb : Nat} {vs : Tb Sl} {w : World} (h : DkAt p D pv mb vs w) {q : Str × Sl} (hq : q ∈ vs) {g : Nat} (e : q.2.v.ownBlock = some g) : g ≠ p ∧ g ≠ mb ∧ pv.v.ownBlock ≠ some g := by
  obtain ⟨f, _, _, hf⟩ := h.fs.own hq
  obtain ⟨cur, hc⟩ := owns_ty hf e
  refine ⟨fun r => ?_, fun r => ?_, fun r => ?_⟩
  · subst r; have := ty_ne hc h.st; omega
  · subst r
    obtain ⟨_, es, clock, hb, _⟩ := h.mp
    rw [hc] at hb
    cases hb
  · obtain ⟨cur2, hc2⟩ := owns_ty h.ps r
    have := ty_ne hc hc2; omega
theorem DkAt.c0 {p : Nat} {D : Dk} {pv : Sl} {mb : Nat} {vs : Tb Sl} {w : World} (h : DkAt p D pv mb vs w) : w.cell? ⟨p, 0, none⟩ = some pv.v := by rw [World.cell?]; simp [h.st]
theorem DkAt.c1 {p : Nat} {D : Dk} {pv : Sl} {mb : Nat} {vs : Tb Sl} {w : World} (h : DkAt p D pv mb vs w) : w.cell? ⟨p, 1, none⟩ = some (.int .i64 D.size) := by rw [World.cell?]; simp [h.st]
theorem DkAt.c2 {p : Nat} {D : Dk} {pv : Sl} {mb : Nat} {vs : Tb Sl} {w : World} (h : DkAt p D pv mb vs w) : w.cell? ⟨p, 2, none⟩ = some (.map (some mb)) := by rw [World.cell?]; simp [h.st]
theorem DkAt.fz {p : Nat} {D : Dk} {pv : Sl} {mb : Nat} {vs : Tb Sl} {w : World} (h : DkAt p D pv mb vs w) (j : Nat) : w.frozen? ⟨p, j, none⟩ = false := by simp [World.frozen?, h.st]
theorem st_set {w : World} {p mb : Nat} {v u : Value} {z : Int} (h : w.heap[p]? = some (.cells #[v, .int .i64 z, .map (some mb)] 57 (0, 0))) : (w.setCell ⟨p, 0, none⟩ u).heap[p]? = some (.cells #[u, .int .i64 z, .map (some mb)] 57 (0, 0)) := by
  obtain ⟨h1, h2⟩ := Array.getElem?_eq_some_iff.1 h
  simp [World.setCell, h1, Array.getElem_modify, h2]
end Go.Proofs.Ytfchjdhjbepocaa
