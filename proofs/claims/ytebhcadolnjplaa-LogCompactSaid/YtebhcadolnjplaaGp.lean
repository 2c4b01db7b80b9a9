/- A new log. -/
import Derived.Test.YtebhcadolnjplaaGo
namespace Go.Proofs.Ytebhcadolnjplaa
open Go.RowKit

def LG.new (p : Nat) (i t : Int) (s : S4) : LG := ⟨p, i, t, s, none, 0, none, 0, [], []⟩
def NewP (W : World) (i t : Int) (e : Ending) (w' : World) : Prop := ∃ p s, e = .returned (.pointer (some ⟨p, 0, none⟩)) ∧ W.heap.size ≤ p ∧ Ok W w' ∧ ∀ S : Nat → Prop, LogAt (Sof S (LG.new p i t s)) (LG.new p i t s) w'
theorem new_at (S : Nat → Prop) (W : World) (i t : Int) (s : S4) (h0 : 0 ≤ i) (h1 : i ≤ 1073741824) : LogAt (Sof S (LG.new W.heap.size i t s)) (LG.new W.heap.size i t s) (W.alloc (.cells #[.int .i64 i, .int .i64 t, .slice s.A0 s.n0 s.c0, .slice s.A1 s.n1 s.c1, .slice s.A2 s.n2 s.c2, .slice s.A3 s.n3 s.c3, .slice none 0 0, .slice none 0 0, .bool true] 36)) := by
  refine ⟨⟨box_cell _ _ _ _ _ rfl, box_cell _ _ _ _ _ rfl, box_cell _ _ _ _ _ rfl, box_cell _ _ _ _ _ rfl, box_cell _ _ _ _ _ rfl, box_cell _ _ _ _ _ rfl, box_cell _ _ _ _ _ rfl, box_cell _ _ _ _ _ rfl, box_cell _ _ _ _ _ rfl, fun j => by show World.frozen? _ ⟨W.heap.size, j, none⟩ = false; rw [World.frozen?, heap_alloc_new]; simp⟩, ⟨[], World.ownsRow_nil _ _ _ _, rfl, fun j hj => absurd hj (Nat.not_lt_zero _)⟩, OwnZ.nil _ _, fun b hb => .inr hb, (fun a ha => by cases ha), (fun a ha => by cases ha), (fun a b ha => by cases ha), h0, h1, Nat.zero_le _, Nat.zero_le _, fun j hj => absurd hj (Nat.not_lt_zero _)⟩
set_option maxRecDepth 100000 in
set_option maxHeartbeats 4000000 in
theorem new_f (i t : Int) (s : S4) (c : Cfg) (W : World) (h : CfgAt W s c) (hl : CfgLe c) (h0 : 0 ≤ i) (h1 : i ≤ 1073741824) (h2 : 0 ≤ t) : Calls Try.prog 26 #[.agg #[.int .i64 i, .int .i64 t, .slice s.A0 s.n0 s.c0, .slice s.A1 s.n1 s.c1, .slice s.A2 s.n2 s.c2, .slice s.A3 s.n3 s.c3]] W (NewP W i t) := by
  have HC := Lib.hid h
  clear h
  have HA : Hid (Six W.heap.size (.int .i64 i) (.int .i64 t) (.slice s.A0 s.n0 s.c0) (.slice s.A1 s.n1 s.c1) (.slice s.A2 s.n2 s.c2) (.slice s.A3 s.n3 s.c3) (W.alloc (.cells #[.int .i64 i, .int .i64 t, .slice s.A0 s.n0 s.c0, .slice s.A1 s.n1 s.c1, .slice s.A2 s.n2 s.c2, .slice s.A3 s.n3 s.c3] 27))) := Lib.hid (Six.new _ _ _ _ _ _ _ _)
  have HO : Hid (Ok W (W.alloc (.cells #[.int .i64 i, .int .i64 t, .slice s.A0 s.n0 s.c0, .slice s.A1 s.n1 s.c1, .slice s.A2 s.n2 s.c2, .slice s.A3 s.n3 s.c3] 27))) := Lib.hid ((Ok.refl W).alloc _)
  go_enter Try.func26, Try.ntmps26
  go_upto_region 1 with fail
  rename_i K0 hK0
  generalize (W.alloc (.cells #[.int .i64 i, .int .i64 t, .slice s.A0 s.n0 s.c0, .slice s.A1 s.n1 s.c1, .slice s.A2 s.n2 s.c2, .slice s.A3 s.n3 s.c3] 27)) = w1 at *
  obtain ⟨g, hg⟩ : ∃ g, W.heap.size = g := ⟨_, rfl⟩
  rw [hg] at HA ⊢
  clear hg
  have c0 := HA.out.c0
  have c1 := HA.out.c1
  have c2 := HA.out.c2
  have c3 := HA.out.c3
  have c4 := HA.out.c4
  have c5 := HA.out.c5
  have hcb := copyBase_f i t s c w1 (HC.out.ok HO.out) hl
  have HK0 := Lib.hid hK0
  clear hK0
  go_wp2_with fail
  refine hcb.mono ?_
  clear hcb c0 c1 c2 c3 c4 c5 HA
  rintro _ w2 ⟨q, rfl, hq, ok⟩
  have HO2 := Lib.hid (HO.out.trans ok)
  clear hq ok HO
  go_wp2_with fail
  refine HK0.out _ _ ?_
  clear HK0
  have HA3 : Hid (Six w2.heap.size (.int .i64 i) (.int .i64 t) (.slice q.A0 q.n0 q.c0) (.slice q.A1 q.n1 q.c1) (.slice q.A2 q.n2 q.c2) (.slice q.A3 q.n3 q.c3) (w2.alloc (.cells #[.int .i64 i, .int .i64 t, .slice q.A0 q.n0 q.c0, .slice q.A1 q.n1 q.c1, .slice q.A2 q.n2 q.c2, .slice q.A3 q.n3 q.c3] 27))) := Lib.hid (Six.new _ _ _ _ _ _ _ _)
  have HO3 := Lib.hid (HO2.out.alloc (.cells #[.int .i64 i, .int .i64 t, .slice q.A0 q.n0 q.c0, .slice q.A1 q.n1 q.c1, .slice q.A2 q.n2 q.c2, .slice q.A3 q.n3 q.c3] 27))
  have HWG : Hid (W.heap.size ≤ w2.heap.size) := Lib.hid HO2.out.size
  clear HO2
  generalize (w2.alloc (.cells #[.int .i64 i, .int .i64 t, .slice q.A0 q.n0 q.c0, .slice q.A1 q.n1 q.c1, .slice q.A2 q.n2 q.c2, .slice q.A3 q.n3 q.c3] 27)) = w3 at *
  obtain ⟨z, hz⟩ : ∃ z, w2.heap.size = z := ⟨_, rfl⟩
  rw [hz] at HA3 HWG ⊢
  clear hz
  have c0 := HA3.out.c0
  have c1 := HA3.out.c1
  have c2 := HA3.out.c2
  have c3 := HA3.out.c3
  have c4 := HA3.out.c4
  have c5 := HA3.out.c5
  have f0 := HA3.out.f 0
  have f1 := HA3.out.f 1
  have mi : max i 0 = i := by omega
  have mt : max t 0 = t := by omega
  have di : decide (i < 0) = false := decide_eq_false (by omega)
  have dt : decide (t < 0) = false := decide_eq_false (by omega)
  go_wp2_with fail
  refine bodyPost_ret (v := .pointer (some ⟨w3.heap.size, 0, none⟩)) (by simp [results, Try.results26, go_sem]; try rfl) rfl ?_
  have HO4 : Below W.heap.size W ((w3.setCell ⟨z, 0, none⟩ (.int .i64 i)).setCell ⟨z, 1, none⟩ (.int .i64 t)) := by
    iterate 2 refine Below.setCell ?_ HWG.out _
    exact HO3.out
  have hsz : ((w3.setCell ⟨z, 0, none⟩ (.int .i64 i)).setCell ⟨z, 1, none⟩ (.int .i64 t)).heap.size = w3.heap.size := by simp [World.setCell]
  have HN4 := fun S => new_at S ((w3.setCell ⟨z, 0, none⟩ (.int .i64 i)).setCell ⟨z, 1, none⟩ (.int .i64 t)) i t q h0 h1
  generalize ((w3.setCell ⟨z, 0, none⟩ (.int .i64 i)).setCell ⟨z, 1, none⟩ (.int .i64 t)) = w4 at *
  rw [← hsz]
  exact ⟨w4.heap.size, q, rfl, HO4.size, Ok.alloc HO4 _, HN4⟩
end Go.Proofs.Ytebhcadolnjplaa
