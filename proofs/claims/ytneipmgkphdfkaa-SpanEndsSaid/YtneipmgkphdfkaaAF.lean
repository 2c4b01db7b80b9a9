/- The law SpanEnds, walked. -/
import Derived.Test.YtneipmgkphdfkaaAD
import Derived.Test.YtneipmgkphdfkaaW
namespace Go.Proofs.Ytneipmgkphdfkaa
open Go.RowKit

/-- The twelve texts. -/
def endsS : List Str := [⟨#[]⟩, ⟨#[97]⟩, ⟨#[97, 97]⟩, ⟨#[97, 98]⟩, ⟨#[98]⟩, ⟨#[122]⟩, ⟨#[48]⟩, ⟨#[57]⟩, ⟨#[65]⟩, ⟨#[97, 45]⟩, ⟨#[122, 122, 122, 122, 122, 122, 122, 122, 122, 122, 122, 122, 122, 122, 122, 122, 122, 122, 122, 122]⟩, ⟨#[122, 122, 122, 122, 122, 122, 122, 122, 122, 122, 122, 122, 122, 122, 122, 122, 122, 122, 122, 122, 122]⟩]
theorem ends_len : endsS.length = 12 := rfl
theorem ends_own (w : World) : OwnT (w.alloc (.cells (endsS.map Value.string).toArray 9)) w.heap.size (.slice (some ⟨w.heap.size, 0, none⟩) 12 12) endsS :=
  World.ownsRow_lit w (endsS.map Value.string).toArray 12 (Nat.le_refl _) (by decide) rfl
theorem ends_cell (w : World) (j : Nat) (hj : j < 12) : (w.alloc (.cells (endsS.map Value.string).toArray 9)).cell? ⟨w.heap.size, j, none⟩ = some (.string (at0 endsS j)) := by
  obtain ⟨g, cap, e, _, _, hc⟩ := (ends_own w).form (by decide)
  simp only [Value.slice.injEq, Option.some.injEq, Addr.mk.injEq, and_true] at e
  obtain ⟨rfl, _⟩ := e
  exact hc j hj

theorem three_parts (g : Nat) (a0 a1 b0 b1 c0 c1 : Str) (w : World) (h0 : w.cell? ⟨g, 0, none⟩ = some (.string a0)) (h1 : w.cell? ⟨g, 1, none⟩ = some (.string a1)) (h2 : w.cell? ⟨g, 2, none⟩ = some (.string b0))
    (h3 : w.cell? ⟨g, 3, none⟩ = some (.string b1)) (h4 : w.cell? ⟨g, 4, none⟩ = some (.string c0)) (h5 : w.cell? ⟨g, 5, none⟩ = some (.string c1)) : Calls Try.prog 4 #[.slice (some ⟨g, 0, none⟩) 3 3] w (Ret w (.bool true)) := by
  refine spanParts_w _ 3 3 [⟨a0, a1⟩, ⟨b0, b1⟩, ⟨c0, c1⟩] rfl w (fun j hj => ⟨g, 0, rfl, ?_⟩)
  match j, hj with
  | 0, _ => exact ⟨h0, h1⟩
  | 1, _ => exact ⟨h2, h3⟩
  | 2, _ => exact ⟨h4, h5⟩

theorem six_parts (w : World) (a0 a1 b0 b1 c0 c1 : Str) : Calls Try.prog 4 #[.slice (some ⟨w.heap.size, 0, none⟩) 3 3] (w.alloc (.cells #[.string a0, .string a1, .string b0, .string b1, .string c0, .string c1] 23)) (Ret (w.alloc (.cells #[.string a0, .string a1, .string b0, .string b1, .string c0, .string c1] 23)) (.bool true)) :=
  three_parts _ a0 a1 b0 b1 c0 c1 _ (by go_cell) (by go_cell) (by go_cell) (by go_cell) (by go_cell) (by go_cell)

set_option maxRecDepth 100000 in
set_option maxHeartbeats 40000000 in
theorem spanEnds_w (w : World) : Calls Try.prog 5 #[] w (Ret w (.bool true)) := by
  go_enter Try.func5, Try.ntmps5
  go_wp2_with fail
  refine (awake_w _).mono ?_
  rintro _ w1 ⟨rfl, o1⟩
  have HC := Lib.hid (ends_cell w1)
  go_wp2_with fail
  change Code.wp _ _ _ _ (w1.alloc (.cells (endsS.map Value.string).toArray 9))
  generalize hW : w1.alloc (.cells (endsS.map Value.string).toArray 9) = w2 at HC
  have o2 : Ok w1 w2 := by subst hW; exact Ok.alloc (Ok.refl _) _
  have ok2 := Lib.hid (Ok.call o1 o2)
  have hls : w1.heap.size < w2.heap.size := by subst hW; simp
  obtain ⟨h, hh⟩ : ∃ h, w1.heap.size = h := ⟨_, rfl⟩
  rw [hh] at HC hls ⊢
  clear hW o2 o1 hh
  go_loopw [2] (fun i wr => ∃ a : Nat, a ≤ 12 ∧ i = .int .i64 a ∧ Ok w2 wr) (fun i _ => 12 - (intOf i).toNat)
  case atStart => exact ⟨0, Nat.zero_le _, rfl, Ok.refl _⟩
  case round =>
    obtain ⟨a, ha, rfl, oka⟩ := hrel
    have HOKA := Lib.hid oka
    clear oka
    by_cases ha12 : a < 12
    · have d1 : decide ((a : Int) < 12) = true := decide_eq_true (by omega)
      go_wp2_with fail
      go_loopw [3] (fun i wr => ∃ b : Nat, b ≤ 12 ∧ i = .int .i64 b ∧ Ok w2 wr) (fun i _ => 12 - (intOf i).toNat)
      case atStart => exact ⟨0, Nat.zero_le _, rfl, HOKA.out⟩
      case round =>
        obtain ⟨b, hb, rfl, okb⟩ := hrel
        have HOKB := Lib.hid okb
        clear okb
        by_cases hb12 : b < 12
        · have d2 : decide ((b : Int) < 12) = true := decide_eq_true (by omega)
          go_wp2_with fail
          go_loopw [4] (fun i wr => ∃ c : Nat, c ≤ 12 ∧ i = .int .i64 c ∧ Ok w2 wr) (fun i _ => 12 - (intOf i).toNat)
          case atStart => exact ⟨0, Nat.zero_le _, rfl, HOKB.out⟩
          case round =>
            obtain ⟨c, hc, rfl, okc⟩ := hrel
            have HOKC := Lib.hid okc
            clear okc
            by_cases hc12 : c < 12
            · have d3 : decide ((c : Int) < 12) = true := decide_eq_true (by omega)
              have hi0 : (0 : Int) ≤ (a : Int) := Int.natCast_nonneg _
              have hi1 : (a : Int) < 12 := by omega
              have hj0 : (0 : Int) ≤ (b : Int) := Int.natCast_nonneg _
              have hj1 : (b : Int) < 12 := by omega
              have hk0 : (0 : Int) ≤ (c : Int) := Int.natCast_nonneg _
              have hk1 : (c : Int) < 12 := by omega
              obtain ⟨m, hm⟩ : ∃ m, (a + b) % 12 = m := ⟨_, rfl⟩
              have hm12 : m < 12 := by omega
              have hm1 : ((a : Int) + (b : Int)).tmod 12 = (m : Int) := by rw [Int.tmod_eq_emod_of_nonneg (by omega)]; omega
              have hw1 : IntKind.i64.wrap ((a : Int) + (b : Int)) = (a : Int) + (b : Int) := by simp only [IntKind.wrap_i64]; omega
              have hl0 : (0 : Int) ≤ (m : Int) := Int.natCast_nonneg _
              have hl1 : (m : Int) < 12 := by omega
              have CA := HC.out a ha12
              have CB := HC.out b hb12
              have CC := HC.out c hc12
              have CM := HC.out m hm12
              have hst : ∀ w', Ok w2 w' → StrsN w'.heap.size w' (.slice (some ⟨h, 0, none⟩) 12 12) endsS := fun w' k' => .inr ⟨h, 0, 12, rfl, Nat.lt_of_lt_of_le hls k'.size, by decide, fun j hj => by
                rw [Nat.zero_add]; exact Ok.cell k' (HC.out j hj)⟩
              generalize at0 endsS a = ta at CA
              generalize at0 endsS b = tb at CB
              generalize at0 endsS c = tc at CC
              generalize at0 endsS m = tm at CM
              have H3 := Lib.hid fun w' (k' : Ok w2 w') => spanTells_w ⟨ta, tb⟩ ⟨tc, tm⟩ (.slice (some ⟨h, 0, none⟩) 12 12) endsS w' (hst w' k')
              unfold spV at H3
              have HS : Hid (∀ w', Ok w2 w' → w'.cell? ⟨h, a, none⟩ = some (.string ta) ∧ w'.cell? ⟨h, b, none⟩ = some (.string tb) ∧ w'.cell? ⟨h, c, none⟩ = some (.string tc) ∧ w'.cell? ⟨h, m, none⟩ = some (.string tm) ∧ OkS w2 w') := Lib.hid fun w' k' => ⟨Ok.cell k' CA, Ok.cell k' CB, Ok.cell k' CC, Ok.cell k' CM, k'⟩
              clear CA CB CC CM hst hm
              have HR := HOKC.out
              go_wp2_with fail
              go_region_held3 (fun w' => w'.cell? ⟨h, a, none⟩ = some (.string ta) ∧ w'.cell? ⟨h, b, none⟩ = some (.string tb) ∧ w'.cell? ⟨h, c, none⟩ = some (.string tc) ∧ w'.cell? ⟨h, m, none⟩ = some (.string tm) ∧ OkS w2 w')
                ((refine HS.out _ ?_; (repeat (first | (with_reducible exact Ok.refl _) | (with_reducible assumption) | (with_reducible refine Ok.drew ?_) | (with_reducible refine Ok.alloc ?_ _) | (with_reducible refine Ok.trans' ?_ (by assumption))))))
                (first
                  | (go_at_call 3; (with_reducible refine (H3.out _ ?_).mono ?_); (repeat (first | (with_reducible exact Ok.refl _) | (with_reducible assumption) | (with_reducible refine Ok.drew ?_) | (with_reducible refine Ok.alloc ?_ _) | (with_reducible refine Ok.trans' ?_ (by assumption)))); rintro e w3 ⟨rfl, o3⟩)
                  | (go_at_call 4; (with_reducible refine (six_parts _ _ _ _ _ _ _).mono ?_); rintro e w4 ⟨rfl, o4⟩))
              go_wp2
              refine ⟨⟨c + 1, hc12, rfl, (‹w4.cell? ⟨h, a, none⟩ = some (.string ta) ∧ _ ∧ _ ∧ _ ∧ OkS w2 w4›).2.2.2.2⟩, ?_⟩
              show 12 - ((c : Int) + 1).toNat < 12 - (c : Int).toNat
              omega
            · have d3 : decide ((c : Int) < 12) = false := decide_eq_false (by omega)
              go_wp2
              refine ⟨⟨b + 1, hb12, rfl, HOKC.out⟩, ?_⟩
              show 12 - ((b : Int) + 1).toNat < 12 - (b : Int).toNat
              omega
        · have d2 : decide ((b : Int) < 12) = false := decide_eq_false (by omega)
          go_wp2
          refine ⟨⟨a + 1, ha12, rfl, HOKB.out⟩, ?_⟩
          show 12 - ((a : Int) + 1).toNat < 12 - (a : Int).toNat
          omega
    · have d1 : decide ((a : Int) < 12) = false := decide_eq_false (by omega)
      have okA := Lib.hid (Ok.call ok2.out HOKA.out)
      have hn := spanParts_w none 0 0 [] rfl
      have h1 := fun A c => spanParts_w A 1 c [allS] rfl
      have h2 := fun A c => spanParts_w A 2 c [allS, allS] rfl
      go_wp2_with fail
      refine (hn _ (fun j hj => absurd hj (Nat.not_lt_zero _))).mono ?_
      rintro _ w3 ⟨rfl, o3⟩
      go_wp2_with fail
      refine (h1 _ _ _ (fun j hj => ?_)).mono ?_
      · obtain rfl : j = 0 := by simpa using hj
        exact ⟨w3.heap.size, 0, rfl, (by rw [show (at1 [allS] 0).lo = ⟨#[]⟩ from rfl]; go_cell), (by rw [show (at1 [allS] 0).hi = ⟨#[]⟩ from rfl]; go_cell)⟩
      rintro _ w4 ⟨rfl, o4⟩
      go_wp2_with fail
      refine (h2 _ _ _ (fun j hj => ?_)).mono ?_
      · refine ⟨w4.heap.size, 0, rfl, ?_, ?_⟩
        · match j, hj with
          | 0, _ => rw [show (at1 [allS, allS] 0).lo = ⟨#[]⟩ from rfl]; go_cell
          | 1, _ => rw [show (at1 [allS, allS] 1).lo = ⟨#[]⟩ from rfl]; go_cell
        · match j, hj with
          | 0, _ => rw [show (at1 [allS, allS] 0).hi = ⟨#[]⟩ from rfl]; go_cell
          | 1, _ => rw [show (at1 [allS, allS] 1).hi = ⟨#[]⟩ from rfl]; go_cell
      rintro _ w5 ⟨rfl, o5⟩
      go_wp2
      go_ret
      exact ⟨rfl, Ok.call okA.out (Ok.call (Ok.alloc (Ok.call (Ok.alloc o3 _) o4) _) o5)⟩
end Go.Proofs.Ytneipmgkphdfkaa
