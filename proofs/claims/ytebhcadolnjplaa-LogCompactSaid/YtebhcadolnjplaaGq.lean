/- The guard awake: the document's example. -/
import Derived.Test.YtebhcadolnjplaaGp
namespace Go.Proofs.Ytebhcadolnjplaa
open Go.RowKit

def enT (t : Int) : En := ⟨t, 1, [], ⟨[], [], [], []⟩⟩
theorem enT_le (t : Int) : EnLe (enT t) := ⟨Nat.zero_le _, ⟨Nat.zero_le _, Nat.zero_le _, Nat.zero_le _, Nat.zero_le _⟩⟩
theorem ens_one (T : Nat → Prop) (w : World) (t : Int) (hT : ∀ b, T b → b < w.heap.size) :
    EnsIn T (w.alloc (.cells #[.int .i64 t, .int .u8 1, .slice none 0 0, .slice none 0 0, .slice none 0 0, .slice none 0 0, .slice none 0 0] 44)) (some ⟨w.heap.size, 0, none⟩) [enT t] := fun j hj => by
  obtain rfl : j = 0 := by simpa using hj
  refine ⟨w.heap.size, 0, ⟨t, 1, none, 0, 0, ⟨none, 0, 0, none, 0, 0, none, 0, 0, none, 0, 0⟩⟩, rfl, fun h => Nat.lt_irrefl _ (hT _ h), ?_, fun k hk => ?_⟩
  · have z := EnAt.zero T (w.alloc (.cells #[.int .i64 t, .int .u8 1, .slice none 0 0, .slice none 0 0, .slice none 0 0, .slice none 0 0, .slice none 0 0] 44))
    exact ⟨rfl, rfl, z.cmd, z.cfg, z.oc, z.og⟩
  · rw [show 0 + 0 * 7 + k = k from by omega]
    match k, hk with
    | 0, _ => exact box_cell _ _ _ _ _ rfl
    | 1, _ => exact box_cell _ _ _ _ _ rfl
    | 2, _ => exact box_cell _ _ _ _ _ rfl
    | 3, _ => exact box_cell _ _ _ _ _ rfl
    | 4, _ => exact box_cell _ _ _ _ _ rfl
    | 5, _ => exact box_cell _ _ _ _ _ rfl
    | 6, _ => exact box_cell _ _ _ _ _ rfl
def NoB : Nat → Prop := fun _ => False
theorem le_one (t : Int) : ∀ j, j < 1 → EnLe (enA [enT t] j) := fun j hj => by
  obtain rfl : j = 0 := by omega
  exact enT_le t
theorem ex_put (p : Nat) (s : S4) (w : World) (h : LogAt (Sof NoB (LG.new p 5 2 s)) (LG.new p 5 2 s) w) : Calls Try.prog 16 #[.pointer (some ⟨p, 0, none⟩), .slice (some ⟨w.heap.size, 0, none⟩) 1 1] (w.alloc (.cells #[.int .i64 2, .int .u8 1, .slice none 0 0, .slice none 0 0, .slice none 0 0, .slice none 0 0, .slice none 0 0] 44)) fun e w' => e = .returned (.int .i64 6) ∧ ∃ L1, Grown NoB (LG.new p 5 2 s) [enT 2] w L1 w' := by
  have o := (Ok.refl w).alloc (.cells #[.int .i64 2, .int .u8 1, .slice none 0 0, .slice none 0 0, .slice none 0 0, .slice none 0 0, .slice none 0 0] 44)
  have HE := ens_one (Sof NoB (LG.new p 5 2 s)) w 2 (fun b hb => hb.elim (fun f => f.elim) (h.lt b))
  refine (putM_f NoB (LG.new p 5 2 s) (some ⟨w.heap.size, 0, none⟩) 1 1 [enT 2] rfl _ (h.ok o) (fun _ f => f.elim) HE (le_one 2) (show 0 + 1 ≤ 1000 by decide) (show 0 + 1 ≤ 1000 by decide)).mono ?_
  rintro e w' ⟨rfl, L1, hg⟩
  exact ⟨rfl, L1, hg.log, hg.ext, (Kp.of o).then hg.kp (fun _ _ e => e), fun b hb => (hg.new b hb).elim .inl (fun q => .inr (Nat.le_trans o.size q))⟩
theorem ex_take (L : LG) (w : World) (h : LogAt (Sof NoB L) L w) (hi : L.i = 5) (he : L.es = [enT 2]) (hx : L.xs.length ≤ 1) : Calls Try.prog 12 #[.pointer (some ⟨L.p, 0, none⟩), .int .i64 6, .slice (some ⟨w.heap.size, 0, none⟩) 1 1] (w.alloc (.cells #[.int .i64 3, .int .u8 1, .slice none 0 0, .slice none 0 0, .slice none 0 0, .slice none 0 0, .slice none 0 0] 44)) fun e w' => e = .returned (.tuple #[.int .i64 6, .bool true]) ∧ ∃ L2, Taken NoB L [enT 3] 1 w L2 w' := by
  have o := (Ok.refl w).alloc (.cells #[.int .i64 3, .int .u8 1, .slice none 0 0, .slice none 0 0, .slice none 0 0, .slice none 0 0, .slice none 0 0] 44)
  have HE := ens_one (Sof NoB L) w 3 (fun b hb => hb.elim (fun f => f.elim) (h.lt b))
  have hl : L.es.length = 1 := by rw [he]; rfl
  have ht := take_f NoB L 0 (some ⟨w.heap.size, 0, none⟩) 1 1 [enT 3] rfl (Nat.le_refl _) _ (h.ok o) (fun _ f => f.elim) HE (le_one 3) (Nat.zero_le _) (by omega) (by omega)
  rw [hi] at ht
  refine Calls.mono (R := TakeP NoB L 0 [enT 3] _) ht ?_
  rintro e w' ⟨k, hk, hs, hr⟩
  have hn : ¬ Stands L 0 [enT 3] 0 := fun q => by
    have q2 := q.2
    rw [he] at q2
    exact absurd q2 (by decide)
  have hk0 : k = 0 := by
    rcases Nat.eq_zero_or_pos k with e | e
    · exact e
    · exact absurd (hs 0 e) hn
  subst hk0
  rcases hr with ⟨e, _⟩ | ⟨_, _, he2, L2, ht2⟩
  · cases e
  · rw [hi] at he2
    have e0 : L.es.take (0 + 0) ++ [enT 3].drop 0 = [enT 3] := by simp
    rw [e0] at ht2
    exact ⟨he2, L2, ht2.log, ht2.p, ht2.i, ht2.t, ht2.s, ht2.es, ht2.xs, (Kp.of o).then ht2.kp (fun _ _ e => e), fun b hb => (ht2.new b hb).elim .inl (fun q => .inr (Nat.le_trans o.size q))⟩
end Go.Proofs.Ytebhcadolnjplaa
