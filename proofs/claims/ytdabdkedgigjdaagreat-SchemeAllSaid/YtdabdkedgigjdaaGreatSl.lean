/- The guard of the layer of shares, walked: it is awake; great. -/
import Derived.Test.YtdabdkedgigjdaaGreatSk
namespace Go.Proofs.YtdabdkedgigjdaaGreat
open Go.RowKit

theorem cut_two : cutShM ⟨allS, 1, 1⟩ ⟨⟨#[109]⟩, ⟨#[]⟩⟩ 2 (1 + 1) = [⟨⟨⟨#[]⟩, ⟨#[109]⟩⟩, 1, 1⟩, ⟨⟨⟨#[109]⟩, ⟨#[]⟩⟩, 2, 2⟩] := by
  unfold cutShM
  rw [← rcut_cut]
  kernel_rfl
theorem turn_one : turnM 1 [⟨allS, 1, 1⟩] ⟨⟨#[109]⟩, ⟨#[]⟩⟩ 2 = (0, [⟨⟨⟨#[]⟩, ⟨#[109]⟩⟩, 1, 1⟩, ⟨⟨⟨#[109]⟩, ⟨#[]⟩⟩, 2, 2⟩]) := by
  have h1 : sharesB 1 [⟨allS, 1, 1⟩] = true := by decide +kernel
  have h2 : rightB ⟨⟨#[109]⟩, ⟨#[]⟩⟩ = true := by decide +kernel
  have h3 : groupB 2 = true := by decide +kernel
  have h4 : withinB ⟨⟨#[109]⟩, ⟨#[]⟩⟩ allS = true := by decide +kernel
  have h5 : cutShM ⟨allS, 1, 1⟩ ⟨⟨#[109]⟩, ⟨#[]⟩⟩ 2 2 = [⟨⟨⟨#[]⟩, ⟨#[109]⟩⟩, 1, 1⟩, ⟨⟨⟨#[109]⟩, ⟨#[]⟩⟩, 2, 2⟩] := cut_two
  simp only [turnM, h1, h2, h3, Bool.and_self, if_true, List.findIdx?_cons, h4]
  simp [at2, h5]

set_option maxRecDepth 100000 in
set_option maxHeartbeats 4000000 in
theorem awake2_w (w : World) : Calls Tryz.prog 8 #[] w (Ret w (.bool true)) := by
  have hf := first_w 1
  rw [show firstG 1 = 1 by decide +kernel] at hf
  have HT := Lib.hid (fun A c => turn_w 1 A 1 c [⟨allS, 1, 1⟩] ⟨⟨#[109]⟩, ⟨#[]⟩⟩ 2 rfl (by decide))
  unfold spV at HT
  rw [turn_one] at HT
  go_enter Tryz.func8, Tryz.ntmps8
  go_wp2_with fail
  refine (hf _).mono ?_
  rintro _ w1 ⟨h, rfl, hown, o1⟩
  have hat := hown.at
  clear hown
  go_wp2_with fail
  refine (HT.out _ _ (Nat.le_refl _) _ hat).mono ?_
  rintro _ w2 ⟨A, c, rfl, hown2, o2⟩
  have hat2 := hown2.at
  obtain ⟨b, off, rfl, c0, c1, c2, c3⟩ := hat2 0 (by simp)
  obtain ⟨b', off', e, d0, d1, d2, d3⟩ := hat2 1 (by simp)
  obtain ⟨rfl, rfl⟩ : b = b' ∧ off = off' := by simpa using e
  simp only [at2, List.getElem?_cons_zero, List.getElem?_cons_succ, Option.getD_some, Nat.zero_mul, Nat.one_mul, Nat.add_zero] at c0 c1 c2 c3 d0 d1 d2 d3
  have ok2 : Hid (Ok w w2) := Lib.hid (Ok.call o1 o2)
  clear e hat hat2 hown2 o1 o2 HT hf
  have oa := Ok.alloc (Ok.refl w2) (.cells #[.int .i64 2, .slice (some ⟨b, off, none⟩) 2 c] 24)
  have c0 := Ok.cell oa c0
  have c1 := Ok.cell oa c1
  have c2 := Ok.cell oa c2
  have c3 := Ok.cell oa c3
  have d0 := Ok.cell oa d0
  have d1 := Ok.cell oa d1
  have d2 := Ok.cell oa d2
  have d3 := Ok.cell oa d3
  go_wp2
  go_ret
  exact ⟨rfl, Ok.alloc ok2.out _⟩

def GreatPost (w : World) (n m : Nat) : Ending → World → Prop := fun e w' => (∃ r, e = .returned (.bool r) ∧ (r = false → n ≤ 60 ∧ m ≤ 60)) ∧ Ok w w'
theorem GreatPost.mk {w w' : World} {n m : Nat} {e : Ending} (r : Bool) (he : e = .returned (.bool r)) (h : r = false → n ≤ 60 ∧ m ≤ 60) (ho : Ok w w') : GreatPost w n m e w' := ⟨⟨r, he, h⟩, ho⟩

set_option maxRecDepth 100000 in
set_option maxHeartbeats 8000000 in
theorem great_w (ep : Int) (A : Option Addr) (n c : Nat) (xs : List Sh) (v : Value) (zs : List Str) (b : Nat) (hn : xs.length = n) (w : World) (hI : SharesAt w A xs) (hz : Strs b w v zs) :
    Calls Tryz.prog 9 #[.agg #[.int .i64 ep, .slice A n c], v] w (GreatPost w n zs.length) := by
  obtain ⟨B, m, d, rfl, hm, hcell⟩ : ∃ B m d, v = .slice B m d ∧ zs.length = m ∧ ∀ j, j < m → ∃ b off, B = some ⟨b, off, none⟩ ∧ w.cell? ⟨b, off + j, none⟩ = some (.string (at0 zs j)) := by
    rcases hz with ⟨rfl, A, c, rfl⟩ | ⟨b, off, cap, rfl, _, hc⟩
    · exact ⟨A, 0, c, rfl, rfl, fun j hj => absurd hj (Nat.not_lt_zero _)⟩
    · exact ⟨_, _, _, rfl, rfl, fun j hj => ⟨b, off, rfl, hc j hj⟩⟩
  have HI := Lib.hid hI
  have HN := Lib.hid hn
  have HC := Lib.hid hcell
  rw [hm]
  clear hI hn hz hm hcell
  go_enter Tryz.func9, Tryz.ntmps9
  by_cases h1 : 60 < n
  · have d1 : decide ((60 : Int) < (n : Int)) = true := decide_eq_true (by omega)
    go_wp2
    go_ret
    exact GreatPost.mk true rfl (fun h => by cases h) (Ok.alloc (Ok.refl w) _)
  · have d1 : decide ((60 : Int) < (n : Int)) = false := decide_eq_false (by omega)
    by_cases h2 : 60 < m
    · have d2 : decide ((60 : Int) < (m : Int)) = true := decide_eq_true (by omega)
      go_wp2
      go_ret
      exact GreatPost.mk true rfl (fun h => by cases h) (Ok.alloc (Ok.refl w) _)
    · have d2 : decide ((60 : Int) < (m : Int)) = false := decide_eq_false (by omega)
      go_wp2_with fail
      have B1 : (w.alloc (.cells #[.int .i64 ep, .slice A n c] 24)).cell? ⟨w.heap.size, 1, none⟩ = some (.slice A n c) := by go_cell
      have ok1 : Ok w (w.alloc (.cells #[.int .i64 ep, .slice A n c] 24)) := Ok.alloc (Ok.refl w) _
      generalize w.alloc (.cells #[.int .i64 ep, .slice A n c] 24) = W at B1 ok1 ⊢
      go_loopw [5] (fun i wr => ∃ k : Nat, k ≤ n ∧ i = .int .i64 k ∧ Ok W wr) (fun i _ => n - (intOf i).toNat)
      case atStart => exact ⟨0, Nat.zero_le _, rfl, Ok.refl _⟩
      case round =>
        obtain ⟨k, hk, rfl, okr⟩ := hrel
        have HOKR := Lib.hid (Ok.call ok1 okr)
        have OKR := Lib.hid okr
        have B1 := Ok.cell okr B1
        clear okr
        by_cases hlt : k < n
        · have d3 : decide ((k : Int) < (n : Int)) = true := decide_eq_true (by omega)
          obtain ⟨b, off, rfl, C0, C1, _, _⟩ := HI.out.ok HOKR.out k (by rw [HN.out]; exact hlt)
          generalize at2 xs k = x at C0 C1
          obtain ⟨⟨xl, xh⟩, xg, xe⟩ := x
          simp only at C0 C1
          have hi0 : (0 : Int) ≤ (k : Int) := Int.natCast_nonneg _
          have hi1 : (k : Int) < (n : Int) := by omega
          go_wp2_with fail
          go_quiet (fail)
          go_wp2
          · go_ret
            exact GreatPost.mk true rfl (fun h => by cases h) (Below.trans HOKR.out ⟨rfl, rfl, rfl, Nat.le_refl _, fun _ _ => rfl⟩)
          · refine ⟨⟨k + 1, hlt, rfl, Below.trans OKR.out ⟨rfl, rfl, rfl, Nat.le_refl _, fun _ _ => rfl⟩⟩, ?_⟩
            show n - ((k : Int) + 1).toNat < n - (k : Int).toNat
            omega
        · have d3 : decide ((k : Int) < (n : Int)) = false := decide_eq_false (by omega)
          go_wp2_with fail
          go_loopw [6] (fun i wr => ∃ q : Nat, q ≤ m ∧ i = .int .i64 q ∧ Ok W wr) (fun i _ => m - (intOf i).toNat)
          case atStart => exact ⟨0, Nat.zero_le _, rfl, OKR.out⟩
          case round =>
            obtain ⟨q, hq, rfl, okq⟩ := hrel
            have HOKQ := Lib.hid (Ok.call ok1 okq)
            have OKQ := Lib.hid okq
            clear okq
            by_cases hqm : q < m
            · have d4 : decide ((q : Int) < (m : Int)) = true := decide_eq_true (by omega)
              obtain ⟨kb, ko, rfl, K0⟩ := HC.out q hqm
              have K0 := Ok.cell HOKQ.out K0
              generalize at0 zs q = t at K0
              by_cases h5 : 100 < t.size
              · have d5 : decide ((100 : Int) < (t.size : Int)) = true := decide_eq_true (by omega)
                go_wp2
                go_ret
                exact GreatPost.mk true rfl (fun h => by cases h) HOKQ.out
              · have d5 : decide ((100 : Int) < (t.size : Int)) = false := decide_eq_false (by omega)
                go_wp2
                refine ⟨⟨q + 1, hqm, rfl, OKQ.out⟩, ?_⟩
                show m - ((q : Int) + 1).toNat < m - (q : Int).toNat
                omega
            · have d4 : decide ((q : Int) < (m : Int)) = false := decide_eq_false (by omega)
              go_wp2
              go_ret
              exact GreatPost.mk false rfl (fun _ => ⟨by omega, by omega⟩) HOKQ.out
end Go.Proofs.YtdabdkedgigjdaaGreat
