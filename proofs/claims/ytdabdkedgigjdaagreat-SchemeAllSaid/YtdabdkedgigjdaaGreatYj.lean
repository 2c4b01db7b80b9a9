/- The guard of scheme, as mathematics: what each of its steps tells. -/
import Derived.Test.YtdabdkedgigjdaaGreatYg
import Derived.Test.YtdabdkedgigjdaaGreatYh
namespace Go.Proofs.YtdabdkedgigjdaaGreat
open Go.RowKit

theorem cut_two : cutShM ⟨allS, 1, 1⟩ ⟨⟨#[109]⟩, ⟨#[]⟩⟩ 2 (1 + 1) = [⟨⟨⟨#[]⟩, ⟨#[109]⟩⟩, 1, 1⟩, ⟨⟨⟨#[109]⟩, ⟨#[]⟩⟩, 2, 2⟩] := by
  unfold cutShM
  rw [← rcut_cut]
  kernel_rfl
theorem turn_one : turnM 1 [⟨allS, 1, 1⟩] ⟨⟨#[109]⟩, ⟨#[]⟩⟩ 2 = (0, [⟨⟨⟨#[]⟩, ⟨#[109]⟩⟩, 1, 1⟩, ⟨⟨⟨#[109]⟩, ⟨#[]⟩⟩, 2, 2⟩]) := by
  have h1 : sharesB 1 [⟨allS, 1, 1⟩] = true := by decide +kernel
  have h2 : rightB ⟨⟨#[109]⟩, ⟨#[]⟩⟩ = true := by decide +kernel
  have h3 : groupB 2 = true := by decide +kernel
  have h4 : withinB ⟨⟨#[109]⟩, ⟨#[]⟩⟩ allS = true := by decide +kernel
  have h5 : cutShM ⟨allS, 1, 1⟩ ⟨⟨#[109]⟩, ⟨#[]⟩⟩ 2 2 = [⟨⟨⟨#[]⟩, ⟨#[109]⟩⟩, 1, 1⟩, ⟨⟨⟨#[109]⟩, ⟨#[]⟩⟩, 2, 2⟩] := cut_two
  simp only [turnM, h1, h2, h3, Bool.and_self, if_true, List.findIdx?_cons, h4]
  simp [at2, h5]
def stX (k : Nat) : Sc := ⟨1, ⟨⟨#[109]⟩, ⟨#[]⟩⟩, 1, 2, 1, if k < 3 then 0 else 2, (k : Int) + 1⟩
def stEp (k : Nat) : Int := if k < 3 then 1 else 2
def stXs (k : Nat) : List Sh := if k < 3 then [⟨allS, 1, 1⟩] else [⟨⟨⟨#[]⟩, ⟨#[109]⟩⟩, 1, 1⟩, ⟨⟨⟨#[109]⟩, ⟨#[]⟩⟩, 2, 2⟩]
theorem beg_one : begM 1 [⟨allS, 1, 1⟩] 1 ⟨⟨#[109]⟩, ⟨#[]⟩⟩ 2 = (0, stX 0) := by
  unfold begM
  rw [turn_one]
  kernel_rfl
theorem in_one : inM 1 [⟨allS, 1, 1⟩] ⟨⟨#[109]⟩, ⟨#[]⟩⟩ = ⟨allS, 1, 1⟩ := by kernel_rfl
theorem step_one (k : Nat) (hk : k < 3) (w : World) : StepQ w (stEp k) (stXs k) (stX k) ((k : Int) + 2) = StepP w 0 (stX (k + 1)) (stEp (k + 1)) (stXs (k + 1)) := by
  obtain rfl | rfl | rfl : k = 0 ∨ k = 1 ∨ k = 2 := by omega
  · unfold StepQ
    rw [if_neg (by decide +kernel), if_neg (by decide), if_neg (by decide +kernel), if_neg (by decide)]
    rfl
  · unfold StepQ
    rw [if_neg (by decide +kernel), if_neg (by decide), if_neg (by decide +kernel), if_neg (by decide)]
    rfl
  · unfold StepQ
    rw [if_neg (by decide +kernel), if_neg (by decide), if_neg (by decide +kernel), if_pos (by decide)]
    have h1 : turnK (stEp 2) (stXs 2) (stX 2) = 0 := by
      show turnK 1 [⟨allS, 1, 1⟩] (stX 2) = 0
      unfold turnK
      show (if (turnM 1 [⟨allS, 1, 1⟩] ⟨⟨#[109]⟩, ⟨#[]⟩⟩ 2).1 = 0 then _ else _) = _
      rw [turn_one, if_pos rfl]
      show (if (inM 1 [⟨allS, 1, 1⟩] ⟨⟨#[109]⟩, ⟨#[]⟩⟩).g = 1 ∧ (inM 1 [⟨allS, 1, 1⟩] ⟨⟨#[109]⟩, ⟨#[]⟩⟩).e = 1 then _ else _) = _
      rw [in_one, if_pos (by decide)]
    unfold TurnP
    rw [if_pos h1]
    have h2 : (turnM (stEp 2) (stXs 2) (stX 2).sp (stX 2).to).2 = stXs 3 := by
      show (turnM 1 [⟨allS, 1, 1⟩] ⟨⟨#[109]⟩, ⟨#[]⟩⟩ 2).2 = _
      rw [turn_one]; rfl
    rw [h2]
    rfl
theorem of_two : shareV (firstM 2 (stXs 3) (fun x => hasB x.sp ⟨#[122]⟩)) = .tuple #[shV ⟨⟨⟨#[109]⟩, ⟨#[]⟩⟩, 2, 2⟩, .bool true] := by kernel_rfl
theorem three (w : World) : StN (w.alloc (.cells #[Value.int .u8 2, .int .u8 3, .int .u8 4] 50)) (.slice (some ⟨w.heap.size, 0, none⟩) 3 3) [2, 3, 4] := by
  refine ⟨_, 3, rfl, fun j hj => ⟨_, _, rfl, ?_⟩⟩
  have hj2 : j < 3 := hj
  obtain rfl | rfl | rfl : j = 0 ∨ j = 1 ∨ j = 2 := by omega
  · show _ = some (Value.int .u8 2); go_cell
  · show _ = some (Value.int .u8 3); go_cell
  · show _ = some (Value.int .u8 4); go_cell

end Go.Proofs.YtdabdkedgigjdaaGreat
