/- Two lists of rows of the call's own lie apart. -/
import Derived.Test.YtebhcadolnjplaaGreatVi
import Derived.Test.YtebhcadolnjplaaGreatYf
namespace Go.Proofs.YtebhcadolnjplaaGreat
open Go.RowKit

theorem ownR_mono0 {w : World} {B : Nat} {A : Option Addr} {n c : Nat} {l : List Rw} (h : OwnR w B A n c l) : w.ownsRow 0 48 2 (.slice A n c) n (flat2 l) := (h.mono (Nat.zero_le B)).2
/-- What ApartLines leaves: all that was there before the lists. -/
def ApP (B : Nat) (W : World) (e : Ending) (w' : World) : Prop := e = .returned (.bool true) ∧ Below B W w'
theorem apart2_w (B1 : Option Addr) (d1 : Nat) (B2 : Option Addr) (d2 : Nat) (l : List Rw) (w : World) (B : Nat) (h1 : OwnR w B B1 l.length d1 l) (h2 : OwnR w B B2 l.length d2 l) (hs : ∀ a a', B1 = some a → B2 = some a' → a.block ≠ a'.block) (hl : l.length ≤ 400) (hB : B ≤ w.heap.size) :
    Calls Tryz.prog 15 #[.slice (some ⟨w.heap.size, 0, none⟩) 2 2] (w.alloc (.cells #[.slice B1 l.length d1, .slice B2 l.length d2] 29)) (ApP B w) := by
  obtain ⟨n, hn⟩ : ∃ n, l.length = n := ⟨_, rfl⟩
  rw [hn] at h1 h2 hl ⊢
  have oa : Ok w (w.alloc (.cells #[.slice B1 n d1, .slice B2 n d2] 29)) := (Ok.refl w).alloc _
  have k1 := h1.ok oa
  have k2 := h2.ok oa
  have hblk : (w.alloc (.cells #[.slice B1 n d1, .slice B2 n d2] 29)).heap[w.heap.size]? = some (.cells #[.slice B1 n d1, .slice B2 n d2] 29 (0, 0)) := heap_alloc_new w _
  have hob : ∀ (X : Option Addr) (c : Nat) b, Value.ownBlock (.slice X n c) = some b → ∃ a, X = some a ∧ a.block = b := fun X c b h => by
    cases X with
    | none => cases h
    | some a => exact ⟨a, rfl, by simpa [Value.ownBlock] using h⟩
  have hv0 : vs2 B1 d1 B2 d2 n 0 = .slice B1 n d1 := rfl
  have hv1 : vs2 B1 d1 B2 d2 n 1 = .slice B2 n d2 := rfl
  refine (apartLines_w (some ⟨w.heap.size, 0, none⟩) 2 2 (vs2 B1 d1 B2 d2 n) (fun _ => n) (fun _ => flat2 l) _ (fun j hj => ⟨w.heap.size, 0, rfl, ?_⟩) ⟨fun j hj => ?_, fun j hj => absurd hj (Nat.not_lt_zero _), Nat.zero_le _, fun i j b hi hj hb1 hb2 => ?_⟩ (by decide) (fun j _ => by omega)).mono fun e w' hh => ⟨hh.1, ?_⟩
  · rw [cell_of_heap hblk]
    match j, hj with
    | 0, _ => rfl
    | 1, _ => rfl
  · match j, hj with
    | 0, _ => rw [hv0]; exact ownR_mono0 k1
    | 1, _ => rw [hv1]; exact ownR_mono0 k2
  · have hh : ∀ x, Has (vs2 B1 d1 B2 d2 n) 0 (vs2 B1 d1 B2 d2 n) x b → (vs2 B1 d1 B2 d2 n x).ownBlock = some b := fun x hx => by
      rcases hx with q | ⟨q, _⟩
      · exact q
      · exact absurd q (Nat.not_lt_zero _)
    have q1 := hh i hb1
    have q2 := hh j hb2
    match i, j, hi, hj with
    | 0, 0, _, _ => rfl
    | 1, 1, _, _ => rfl
    | 0, 1, _, _ =>
      rw [hv0] at q1
      rw [hv1] at q2
      obtain ⟨a, ha, e1⟩ := hob _ _ _ q1
      obtain ⟨a', ha', e2⟩ := hob _ _ _ q2
      exact absurd (e1.trans e2.symm) (hs a a' ha ha')
    | 1, 0, _, _ =>
      rw [hv1] at q1
      rw [hv0] at q2
      obtain ⟨a', ha', e1⟩ := hob _ _ _ q1
      obtain ⟨a, ha, e2⟩ := hob _ _ _ q2
      exact absurd (e2.trans e1.symm) (hs a a' ha ha')
  · have kv := hh.2
    refine ⟨kv.os, kv.tape, kv.output, Nat.le_trans (Nat.le_of_lt (by rw [World.size_alloc]; omega)) kv.size, fun b hb => ?_⟩
    rw [kv.block b (by rw [World.size_alloc]; omega) (fun j hj e => ?_)]
    · exact oa.block b (by omega)
    · match j, hj with
      | 0, _ =>
        rw [hv0] at e
        obtain ⟨a, ha, rfl⟩ := hob _ _ _ e
        have := (h1.2.lt a.block (by rw [ha]; rfl)).1
        omega
      | 1, _ =>
        rw [hv1] at e
        obtain ⟨a, ha, rfl⟩ := hob _ _ _ e
        have := (h2.2.lt a.block (by rw [ha]; rfl)).1
        omega
theorem Ok.trans2 {a b c : World} (h : Ok a b) (k : Below a.heap.size b c) : Ok a c := Below.trans h k
end Go.Proofs.YtebhcadolnjplaaGreat
