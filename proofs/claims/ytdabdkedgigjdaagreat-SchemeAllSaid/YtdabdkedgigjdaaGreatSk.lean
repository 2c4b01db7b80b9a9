/- First; the guard of the layer of shares, walked: it is awake. -/
import Derived.Test.YtdabdkedgigjdaaGreatSj
namespace Go.Proofs.YtdabdkedgigjdaaGreat
open Go.RowKit

def firstG (g : Int) : Int := if groupB g = true then g else 1
def FirstPost (w : World) (g : Int) : Ending → World → Prop := fun e w' => ∃ h, e = .returned (.agg #[.int .i64 1, .slice (some ⟨h, 0, none⟩) 1 1]) ∧ OwnSh w' w.heap.size (some ⟨h, 0, none⟩) 1 1 [⟨allS, g, 1⟩] ∧ Ok w w'
theorem one_ownsh (w : World) (x : Sh) : OwnSh (w.alloc (.cells #[.string x.sp.lo, .string x.sp.hi, .int .i64 x.g, .int .i64 x.e] 35)) w.heap.size (some ⟨w.heap.size, 0, none⟩) 1 1 [x] :=
  ⟨World.ownsRow_lit w #[.string x.sp.lo, .string x.sp.hi, .int .i64 x.g, .int .i64 x.e] 1 (Nat.le_refl _) (by decide) rfl, rfl⟩

set_option maxRecDepth 100000 in
set_option maxHeartbeats 4000000 in
theorem first_w (g : Int) (w : World) : Calls Tryz.prog 21 #[.int .i64 g] w (FirstPost w (firstG g)) := by
  have hg := group_w g
  have hall := all_w
  unfold spV at hall
  have fin : ∀ g' : Int, firstG g = g' → ∀ w1 : World, Ok (w.alloc (.cells #[.int .i64 0, .slice none 0 0] 24)) w1 → ∀ w2 : World, Ok w1 w2 →
      (w2.cell? ⟨w.heap.size, 0, none⟩ = some (.int .i64 0) ∧ w2.cell? ⟨w.heap.size, 1, none⟩ = some (.slice none 0 0) ∧ w2.frozen? ⟨w.heap.size, 0, none⟩ = false ∧ w2.frozen? ⟨w.heap.size, 1, none⟩ = false) := by
    intro g' _ w1 o1 w2 o2
    have R0 : w1.cell? ⟨w.heap.size, 0, none⟩ = some (.int .i64 0) := Ok.cell o1 (by go_cell)
    have R1 : w1.cell? ⟨w.heap.size, 1, none⟩ = some (.slice none 0 0) := Ok.cell o1 (by go_cell)
    have F0 : w1.frozen? ⟨w.heap.size, 0, none⟩ = false := by rw [Below.frozen o1 (by simp)]; go_cell
    have F1 : w1.frozen? ⟨w.heap.size, 1, none⟩ = false := by rw [Below.frozen o1 (by simp)]; go_cell
    exact ⟨Ok.cell o2 R0, Ok.cell o2 R1, (Below.frozen o2 (World.block_lt_of_cell? _ _ R0)).trans F0, (Below.frozen o2 (World.block_lt_of_cell? _ _ R1)).trans F1⟩
  cases h1 : groupB g with
  | true =>
    have e1 : firstG g = g := by simp [firstG, h1]
    rw [h1] at hg
    rw [e1]
    go_enter Tryz.func21, Tryz.ntmps21
    go_wp2_with fail
    refine (hg _).mono ?_
    rintro _ w1 ⟨rfl, o1⟩
    go_wp2_with fail
    refine (hall _).mono ?_
    rintro _ w2 ⟨rfl, o2⟩
    obtain ⟨R0, R1, F0, F1⟩ := fin _ e1 w1 o1 w2 o2
    have oo : Ok w w2 := Ok.call (Ok.call (Ok.alloc (Ok.refl w) _) o1) o2
    have hb : w.heap.size < w2.heap.size := World.block_lt_of_cell? _ _ R0
    have n0 := World.new_ne w2 _ R0
    go_wp2
    have st := store2 w2 w.heap.size _ _ (.int .i64 1) (.slice (some ⟨w2.heap.size, 0, none⟩) 1 1) R0 R1
    have HOW := one_ownsh ((w2.setCell ⟨w.heap.size, 0, none⟩ (.int .i64 1)).setCell ⟨w.heap.size, 1, none⟩ (.slice (some ⟨w2.heap.size, 0, none⟩) 1 1)) ⟨allS, g, 1⟩
    have hz : ((w2.setCell ⟨w.heap.size, 0, none⟩ (.int .i64 1)).setCell ⟨w.heap.size, 1, none⟩ (.slice (some ⟨w2.heap.size, 0, none⟩) 1 1)).heap.size = w2.heap.size := by simp [World.setCell]
    have okS : Ok w ((w2.setCell ⟨w.heap.size, 0, none⟩ (.int .i64 1)).setCell ⟨w.heap.size, 1, none⟩ (.slice (some ⟨w2.heap.size, 0, none⟩) 1 1)) := Ok.set (Ok.set oo (Nat.le_refl _) _) (Nat.le_refl _) _
    rw [hz] at HOW
    have s0 := Ok.cell (Ok.alloc (Ok.refl _) (.cells #[.string allS.lo, .string allS.hi, .int .i64 g, .int .i64 1] 35)) st.1
    have s1 := Ok.cell (Ok.alloc (Ok.refl _) (.cells #[.string allS.lo, .string allS.hi, .int .i64 g, .int .i64 1] 35)) st.2
    (try simp only [Exit.inBlock, Exit.then])
    refine bodyPost_ret (by simp [results, Tryz.results21, go_sem, s0, s1]; try rfl) rfl ?_
    exact ⟨w2.heap.size, rfl, HOW.base oo.size, Ok.alloc okS _⟩
  | false =>
    have e1 : firstG g = 1 := by simp [firstG, h1]
    rw [h1] at hg
    rw [e1]
    go_enter Tryz.func21, Tryz.ntmps21
    go_wp2_with fail
    refine (hg _).mono ?_
    rintro _ w1 ⟨rfl, o1⟩
    go_wp2_with fail
    refine (hall _).mono ?_
    rintro _ w2 ⟨rfl, o2⟩
    obtain ⟨R0, R1, F0, F1⟩ := fin _ e1 w1 o1 w2 o2
    have oo : Ok w w2 := Ok.call (Ok.call (Ok.alloc (Ok.refl w) _) o1) o2
    have hb : w.heap.size < w2.heap.size := World.block_lt_of_cell? _ _ R0
    have n0 := World.new_ne w2 _ R0
    go_wp2
    have st := store2 w2 w.heap.size _ _ (.int .i64 1) (.slice (some ⟨w2.heap.size, 0, none⟩) 1 1) R0 R1
    have HOW := one_ownsh ((w2.setCell ⟨w.heap.size, 0, none⟩ (.int .i64 1)).setCell ⟨w.heap.size, 1, none⟩ (.slice (some ⟨w2.heap.size, 0, none⟩) 1 1)) ⟨allS, 1, 1⟩
    have hz : ((w2.setCell ⟨w.heap.size, 0, none⟩ (.int .i64 1)).setCell ⟨w.heap.size, 1, none⟩ (.slice (some ⟨w2.heap.size, 0, none⟩) 1 1)).heap.size = w2.heap.size := by simp [World.setCell]
    have okS : Ok w ((w2.setCell ⟨w.heap.size, 0, none⟩ (.int .i64 1)).setCell ⟨w.heap.size, 1, none⟩ (.slice (some ⟨w2.heap.size, 0, none⟩) 1 1)) := Ok.set (Ok.set oo (Nat.le_refl _) _) (Nat.le_refl _) _
    rw [hz] at HOW
    have s0 := Ok.cell (Ok.alloc (Ok.refl _) (.cells #[.string allS.lo, .string allS.hi, .int .i64 1, .int .i64 1] 35)) st.1
    have s1 := Ok.cell (Ok.alloc (Ok.refl _) (.cells #[.string allS.lo, .string allS.hi, .int .i64 1, .int .i64 1] 35)) st.2
    (try simp only [Exit.inBlock, Exit.then])
    refine bodyPost_ret (by simp [results, Tryz.results21, go_sem, s0, s1]; try rfl) rfl ?_
    exact ⟨w2.heap.size, rfl, HOW.base oo.size, Ok.alloc okS _⟩

end Go.Proofs.YtdabdkedgigjdaaGreat
