/- Pasts: written; a number raised; whether one of several is none. -/
import Derived.Test.YtnjaiiifafbbjaaPj
namespace Go.Proofs.Ytnjaiiifafbbjaa
open Go.RowKit

/-- The numbers as a list. -/
def numsL (f : Nat → Int) : List Nat := [(f 0).toNat, (f 1).toNat, (f 2).toNat, (f 3).toNat, (f 4).toNat, (f 5).toNat, (f 6).toNat, (f 7).toNat]
theorem numsL_get (f : Nat → Int) (k : Nat) (hk : k < 8) : (numsL f).getD k 0 = (f k).toNat := by
  match k, hk with
  | 0, _ => rfl
  | 1, _ => rfl
  | 2, _ => rfl
  | 3, _ => rfl
  | 4, _ => rfl
  | 5, _ => rfl
  | 6, _ => rfl
  | 7, _ => rfl
/-- Numbers of a past. -/
def Fits (f : Nat → Int) : Prop := ∀ i, i < 8 → 0 ≤ f i ∧ f i ≤ 1073741824

set_option maxRecDepth 100000 in
set_option maxHeartbeats 1000000 in
theorem write_p (p : Nat) (f : Nat → Int) (hf : Fits f) (g : Nat) (hpg : p < g) (v : Value) (xs : List B8) (hx : xs.length ≤ 1000000) (w : World) (h : PastAt w p f) (hw : Wr g w v xs) :
    Calls Try.prog 55 #[.pointer (some ⟨p, 0, none⟩), .pointer (some ⟨g, 0, none⟩)] w (WrPost g w (.pointer (some ⟨g, 0, none⟩)) (xs ++ encs (numsL f))) := by
  have H := Lib.hid h
  have c0 := h.num 0 (by omega)
  have HN : Hid (∀ c, Calls Try.prog 110 #[.pointer (some ⟨g, 0, none⟩), .slice (some ⟨p, 0, none⟩) 8 c] w (WrPost g w (.pointer (some ⟨g, 0, none⟩)) (xs ++ encs (numsL f)))) := Lib.hid fun c =>
    numbers_w g v xs w hw (numsL f) _ 8 c rfl (by omega) hx fun k hk => ⟨p, 0, rfl, by
      rw [numsL_get f k hk, Int.toNat_of_nonneg (hf k hk).1, Nat.zero_add]; exact h.num k hk, by rw [numsL_get f k hk]; have := (hf k hk).2; omega, fun _ => hpg⟩
  clear h hw
  generalize encs (numsL f) = E at *
  go_enter Try.func55, Try.ntmps55
  go_wp2_with fail
  refine (none_p p f _ H.out).mono ?_
  rintro _ w1 ⟨rfl, rfl⟩
  go_wp2_with fail
  refine (HN.out _).mono ?_
  rintro _ w1 ⟨rfl, h1, h2⟩
  go_wp2
  go_ret
  exact ⟨rfl, h1, h2⟩
end Go.Proofs.Ytnjaiiifafbbjaa
