/- Shares: whether two are the same; the document's own First. -/
import Derived.Test.YtdabdkedgigjdaaGreatSl
namespace Go.Proofs.YtdabdkedgigjdaaGreat
open Go.RowKit

set_option maxRecDepth 100000 in
set_option maxHeartbeats 4000000 in
theorem sameRows_w (A B : Option Addr) (n c d : Nat) (xs : List Sh) (hn : xs.length = n) (hn6 : n ≤ 1000000) (w : World) (hA : SharesAt w A xs) (hB : SharesAt w B xs) :
    Calls Tryz.prog 63 #[.slice A n c, .slice B n d] w (Ret w (.bool true)) := by
  have HA := Lib.hid hA
  have HB := Lib.hid hB
  have HN := Lib.hid hn
  clear hA hB hn
  go_enter Tryz.func63, Tryz.ntmps63
  go_wp2_with fail
  go_loopw [5] (fun i wr => ∃ k : Nat, k ≤ n ∧ i = .int .i64 k ∧ Ok w wr) (fun i _ => n - (intOf i).toNat)
  case atStart => exact ⟨0, Nat.zero_le _, rfl, Ok.refl _⟩
  case round =>
    obtain ⟨k, hk, rfl, okr⟩ := hrel
    have HOKR := Lib.hid okr
    clear okr
    by_cases hlt : k < n
    · have d1 : decide ((k : Int) < (n : Int)) = true := decide_eq_true (by omega)
      obtain ⟨b, off, rfl, C0, C1, C2, C3⟩ := HA.out.ok HOKR.out k (by rw [HN.out]; exact hlt)
      obtain ⟨b', off', rfl, D0, D1, D2, D3⟩ := HB.out.ok HOKR.out k (by rw [HN.out]; exact hlt)
      obtain ⟨⟨⟨sl, sh⟩, sg, se⟩, hs⟩ : ∃ s, at2 xs k = s := ⟨_, rfl⟩
      rw [hs] at C0 C1 C2 C3 D0 D1 D2 D3
      simp only at C0 C1 C2 C3 D0 D1 D2 D3
      clear hs
      have hi0 : (0 : Int) ≤ (k : Int) := Int.natCast_nonneg _
      have hi1 : (k : Int) < (n : Int) := by omega
      go_wp2_with fail
      go_quiet (fail)
      go_wp2
      refine ⟨⟨k + 1, hlt, rfl, Below.trans HOKR.out ⟨rfl, rfl, rfl, Nat.le_refl _, fun _ _ => rfl⟩⟩, ?_⟩
      show n - ((k : Int) + 1).toNat < n - (k : Int).toNat
      omega
    · have d1 : decide ((k : Int) < (n : Int)) = false := decide_eq_false (by omega)
      go_wp2
      go_ret
      exact ⟨rfl, HOKR.out⟩

set_option maxRecDepth 100000 in
set_option maxHeartbeats 4000000 in
theorem sameShares_w (ep : Int) (A B : Option Addr) (n c d : Nat) (xs : List Sh) (hn : xs.length = n) (hn6 : n ≤ 1000000) (w : World) (hA : SharesAt w A xs) (hB : SharesAt w B xs) :
    Calls Tryz.prog 17 #[.agg #[.int .i64 ep, .slice A n c], .agg #[.int .i64 ep, .slice B n d]] w (Ret w (.bool true)) := by
  have HS := Lib.hid (fun w' => sameRows_w A B n c d xs hn hn6 w')
  have HA := Lib.hid hA
  have HB := Lib.hid hB
  clear hA hB hn
  go_enter Tryz.func17, Tryz.ntmps17
  go_wp2_with fail
  have ok2 := Ok.alloc (Ok.alloc (Ok.refl w) (.cells #[.int .i64 ep, .slice A n c] 24)) (.cells #[.int .i64 ep, .slice B n d] 24)
  refine (HS.out _ (HA.out.ok ok2) (HB.out.ok ok2)).mono ?_
  rintro _ w1 ⟨rfl, o1⟩
  go_wp2
  go_ret
  exact ⟨rfl, Ok.call ok2 o1⟩

set_option maxRecDepth 100000 in
set_option maxHeartbeats 4000000 in
theorem rfirst_w (g : Int) (w : World) : Calls Tryz.prog 22 #[.int .i64 g] w (FirstPost w (firstG g)) := by
  have fin : ∀ (g' : Int), firstG g = g' → Calls Tryz.prog 22 #[.int .i64 g] w (FirstPost w g') := by
    intro g' hg'
    by_cases h1 : 1 ≤ g
    · have d1 : decide (g < 1) = false := decide_eq_false (by omega)
      by_cases h2 : g ≤ 4
      · have d2 : decide (4 < g) = false := decide_eq_false (by omega)
        have e : g' = g := by rw [← hg']; simp [firstG, groupB, h1, h2]
        subst e
        clear hg'
        go_enter Tryz.func22, Tryz.ntmps22
        go_upto_region 1 with fail
        generalize hW : w.alloc (.cells #[.int .i64 0, .slice none 0 0] 24) = w2
        have R0 : w2.cell? ⟨w.heap.size, 0, none⟩ = some (.int .i64 0) := by subst hW; go_cell
        have R1 : w2.cell? ⟨w.heap.size, 1, none⟩ = some (.slice none 0 0) := by subst hW; go_cell
        have F0 : w2.frozen? ⟨w.heap.size, 0, none⟩ = false := by subst hW; go_cell
        have F1 : w2.frozen? ⟨w.heap.size, 1, none⟩ = false := by subst hW; go_cell
        have oo : Ok w w2 := by subst hW; exact Ok.alloc (Ok.refl w) _
        clear hW
        have hb : w.heap.size < w2.heap.size := World.block_lt_of_cell? _ _ R0
        have n0 := World.new_ne w2 _ R0
        go_wp2
        have st := store2 w2 w.heap.size _ _ (.int .i64 1) (.slice (some ⟨w2.heap.size, 0, none⟩) 1 1) R0 R1
        have HOW := one_ownsh ((w2.setCell ⟨w.heap.size, 0, none⟩ (.int .i64 1)).setCell ⟨w.heap.size, 1, none⟩ (.slice (some ⟨w2.heap.size, 0, none⟩) 1 1)) ⟨allS, g', 1⟩
        have hz : ((w2.setCell ⟨w.heap.size, 0, none⟩ (.int .i64 1)).setCell ⟨w.heap.size, 1, none⟩ (.slice (some ⟨w2.heap.size, 0, none⟩) 1 1)).heap.size = w2.heap.size := by simp [World.setCell]
        have okS : Ok w ((w2.setCell ⟨w.heap.size, 0, none⟩ (.int .i64 1)).setCell ⟨w.heap.size, 1, none⟩ (.slice (some ⟨w2.heap.size, 0, none⟩) 1 1)) := Ok.set (Ok.set oo (Nat.le_refl _) _) (Nat.le_refl _) _
        rw [hz] at HOW
        have s0 := Ok.cell (Ok.alloc (Ok.refl _) (.cells #[.string ⟨#[]⟩, .string ⟨#[]⟩, .int .i64 g', .int .i64 1] 35)) st.1
        have s1 := Ok.cell (Ok.alloc (Ok.refl _) (.cells #[.string ⟨#[]⟩, .string ⟨#[]⟩, .int .i64 g', .int .i64 1] 35)) st.2
        (try simp only [Exit.inBlock, Exit.then])
        refine bodyPost_ret (by simp [results, Tryz.results22, go_sem, s0, s1]; try rfl) rfl ?_
        exact ⟨w2.heap.size, rfl, HOW.base oo.size, Ok.alloc okS _⟩
      · have d2 : decide (4 < g) = true := decide_eq_true (by omega)
        have e : g' = 1 := by rw [← hg']; simp [firstG, groupB, h1, h2]
        subst e
        clear hg'
        go_enter Tryz.func22, Tryz.ntmps22
        go_upto_region 1 with fail
        generalize hW : w.alloc (.cells #[.int .i64 0, .slice none 0 0] 24) = w2
        have R0 : w2.cell? ⟨w.heap.size, 0, none⟩ = some (.int .i64 0) := by subst hW; go_cell
        have R1 : w2.cell? ⟨w.heap.size, 1, none⟩ = some (.slice none 0 0) := by subst hW; go_cell
        have F0 : w2.frozen? ⟨w.heap.size, 0, none⟩ = false := by subst hW; go_cell
        have F1 : w2.frozen? ⟨w.heap.size, 1, none⟩ = false := by subst hW; go_cell
        have oo : Ok w w2 := by subst hW; exact Ok.alloc (Ok.refl w) _
        clear hW
        have hb : w.heap.size < w2.heap.size := World.block_lt_of_cell? _ _ R0
        have n0 := World.new_ne w2 _ R0
        go_wp2
        have st := store2 w2 w.heap.size _ _ (.int .i64 1) (.slice (some ⟨w2.heap.size, 0, none⟩) 1 1) R0 R1
        have HOW := one_ownsh ((w2.setCell ⟨w.heap.size, 0, none⟩ (.int .i64 1)).setCell ⟨w.heap.size, 1, none⟩ (.slice (some ⟨w2.heap.size, 0, none⟩) 1 1)) ⟨allS, 1, 1⟩
        have hz : ((w2.setCell ⟨w.heap.size, 0, none⟩ (.int .i64 1)).setCell ⟨w.heap.size, 1, none⟩ (.slice (some ⟨w2.heap.size, 0, none⟩) 1 1)).heap.size = w2.heap.size := by simp [World.setCell]
        have okS : Ok w ((w2.setCell ⟨w.heap.size, 0, none⟩ (.int .i64 1)).setCell ⟨w.heap.size, 1, none⟩ (.slice (some ⟨w2.heap.size, 0, none⟩) 1 1)) := Ok.set (Ok.set oo (Nat.le_refl _) _) (Nat.le_refl _) _
        rw [hz] at HOW
        have s0 := Ok.cell (Ok.alloc (Ok.refl _) (.cells #[.string ⟨#[]⟩, .string ⟨#[]⟩, .int .i64 1, .int .i64 1] 35)) st.1
        have s1 := Ok.cell (Ok.alloc (Ok.refl _) (.cells #[.string ⟨#[]⟩, .string ⟨#[]⟩, .int .i64 1, .int .i64 1] 35)) st.2
        (try simp only [Exit.inBlock, Exit.then])
        refine bodyPost_ret (by simp [results, Tryz.results22, go_sem, s0, s1]; try rfl) rfl ?_
        exact ⟨w2.heap.size, rfl, HOW.base oo.size, Ok.alloc okS _⟩
    · have d1 : decide (g < 1) = true := decide_eq_true (by omega)
      have e : g' = 1 := by rw [← hg']; simp [firstG, groupB, h1]
      subst e
      clear hg'
      go_enter Tryz.func22, Tryz.ntmps22
      go_upto_region 1 with fail
      generalize hW : w.alloc (.cells #[.int .i64 0, .slice none 0 0] 24) = w2
      have R0 : w2.cell? ⟨w.heap.size, 0, none⟩ = some (.int .i64 0) := by subst hW; go_cell
      have R1 : w2.cell? ⟨w.heap.size, 1, none⟩ = some (.slice none 0 0) := by subst hW; go_cell
      have F0 : w2.frozen? ⟨w.heap.size, 0, none⟩ = false := by subst hW; go_cell
      have F1 : w2.frozen? ⟨w.heap.size, 1, none⟩ = false := by subst hW; go_cell
      have oo : Ok w w2 := by subst hW; exact Ok.alloc (Ok.refl w) _
      clear hW
      have hb : w.heap.size < w2.heap.size := World.block_lt_of_cell? _ _ R0
      have n0 := World.new_ne w2 _ R0
      go_wp2
      have st := store2 w2 w.heap.size _ _ (.int .i64 1) (.slice (some ⟨w2.heap.size, 0, none⟩) 1 1) R0 R1
      have HOW := one_ownsh ((w2.setCell ⟨w.heap.size, 0, none⟩ (.int .i64 1)).setCell ⟨w.heap.size, 1, none⟩ (.slice (some ⟨w2.heap.size, 0, none⟩) 1 1)) ⟨allS, 1, 1⟩
      have hz : ((w2.setCell ⟨w.heap.size, 0, none⟩ (.int .i64 1)).setCell ⟨w.heap.size, 1, none⟩ (.slice (some ⟨w2.heap.size, 0, none⟩) 1 1)).heap.size = w2.heap.size := by simp [World.setCell]
      have okS : Ok w ((w2.setCell ⟨w.heap.size, 0, none⟩ (.int .i64 1)).setCell ⟨w.heap.size, 1, none⟩ (.slice (some ⟨w2.heap.size, 0, none⟩) 1 1)) := Ok.set (Ok.set oo (Nat.le_refl _) _) (Nat.le_refl _) _
      rw [hz] at HOW
      have s0 := Ok.cell (Ok.alloc (Ok.refl _) (.cells #[.string ⟨#[]⟩, .string ⟨#[]⟩, .int .i64 1, .int .i64 1] 35)) st.1
      have s1 := Ok.cell (Ok.alloc (Ok.refl _) (.cells #[.string ⟨#[]⟩, .string ⟨#[]⟩, .int .i64 1, .int .i64 1] 35)) st.2
      (try simp only [Exit.inBlock, Exit.then])
      refine bodyPost_ret (by simp [results, Tryz.results22, go_sem, s0, s1]; try rfl) rfl ?_
      exact ⟨w2.heap.size, rfl, HOW.base oo.size, Ok.alloc okS _⟩
  exact fin _ rfl
end Go.Proofs.YtdabdkedgigjdaaGreat
