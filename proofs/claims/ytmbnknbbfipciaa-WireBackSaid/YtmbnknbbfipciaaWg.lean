/- What each call of a reader tells, whether it has failed or not, as the plain mathematics says; the law's own reading of a row of things. -/
import Derived.Test.YtmbnknbbfipciaaWf
import Derived.Deep.RegionHeld3
import Derived.Deep.DeepCutAuto
namespace Go.Proofs.Ytmbnknbbfipciaa
open Go.RowKit

theorem rdI_nil (it : Item) (ys : List B8) (f : Bool) (h : (rdI it ys f).2.1 = true) : (rdI it ys f).1 = [] := by
  unfold rdI at *
  split at h
  · simp [*]
  · rename_i hf
    simp only [hf] at h ⊢
    cases it with
    | num n => simp only [Bool.false_eq_true, if_false] at h ⊢; split at h <;> simp_all
    | flag b => cases ys with
      | nil => rfl
      | cons y r =>
        simp only [Bool.false_eq_true, if_false] at h ⊢
        by_cases hy : y.toNat ≤ 1
        · rw [if_pos hy] at h; cases h
        · rw [if_neg hy]
    | txt l => simp only [Bool.false_eq_true, if_false] at h ⊢; unfold rowOf at *; split at h <;> simp_all; split at h <;> simp_all
    | row l => simp only [Bool.false_eq_true, if_false] at h ⊢; unfold rowOf at *; split at h <;> simp_all; split at h <;> simp_all
theorem runI_nil : ∀ (l : List Item) (ys : List B8) (f : Bool), (f = true → ys = []) → (runI l ys f).2.1 = true → (runI l ys f).1 = []
  | [], ys, f, h0, h => h0 h
  | a :: l, ys, f, _, h => runI_nil l _ _ (fun h' => rdI_nil a ys f h') h

theorem flag_step (W0 : World) (g : Nat) (ys : List B8) (f b : Bool) (hd : f = true → ys = []) : ∃ v ys' f', rdI (.flag b) ys f = (ys', f', v == b) ∧ ∀ w, Rd W0 g w ys f → Calls Try.prog 39 #[.pointer (some ⟨g, 0, none⟩)] w (RdQ W0 g (.bool v) ys' f') := by
  cases f with
  | true =>
    obtain rfl := hd rfl
    exact ⟨false, [], true, by cases b <;> rfl, fun w h => flag_dead W0 g w [] h⟩
  | false => exact ⟨_, _, _, rdI_flag b ys, fun w h => flag_r W0 g w ys h⟩
theorem num_step (W0 : World) (g : Nat) (ys : List B8) (f : Bool) (n : Int) (hn : goodB n = true) (hd : f = true → ys = []) : ∃ (v : Int) (ys' : List B8) (f' : Bool), rdI (.num n) ys f = (ys', f', decide (v = n)) ∧
    ∀ w, Rd W0 g w ys f → Calls Try.prog 20 #[.pointer (some ⟨g, 0, none⟩), .int .i64 n] w (RdQ W0 g (.int .i64 v) ys' f') := by
  cases f with
  | true =>
    obtain rfl := hd rfl
    exact ⟨0, [], true, by simp only [rdI, if_true]; congr 2; simp only [decide_eq_decide]; exact ⟨fun h => h.symm, fun h => h.symm⟩, fun w h => num_dead W0 g w [] n h⟩
  | false =>
    obtain ⟨h0, h1⟩ := (goodB_iff n).1 hn
    obtain ⟨m, rfl⟩ := Int.eq_ofNat_of_zero_le h0
    refine ⟨((resN (rd m ys) : Nat) : Int), resL (rd m ys), resF (rd m ys), ?_, fun w h => (Number_r W0 g w ys m (by omega) h).mono fun e w' hp => hp.q⟩
    simp only [rdI, Bool.false_eq_true, if_false, Int.toNat_natCast]
    cases hrd : rd m ys with
    | none =>
      show (([] : List B8), true, decide ((m : Int) = 0)) = ([], true, decide (((0 : Nat) : Int) = (m : Int)))
      congr 2
      rw [Bool.eq_iff_iff]
      simp only [decide_eq_true_eq]
      omega
    | some p => rfl
theorem text_step (W0 : World) (g : Nat) (ys : List B8) (f : Bool) (s : ByteArray) (hs : s.size ≤ 20000) (hd : f = true → ys = []) : ∃ (t : ByteArray) (ys' : List B8) (f' : Bool), rdI (.txt (ofStr s)) ys f = (ys', f', decide (t = s)) ∧
    ∀ w, Rd W0 g w ys f → Calls Try.prog 40 #[.pointer (some ⟨g, 0, none⟩), .int .i64 (s.size : Int)] w (RdQ W0 g (.string t) ys' f') := by
  cases f with
  | true =>
    obtain rfl := hd rfl
    refine ⟨{ data := #[] }, [], true, ?_, fun w h => text_dead W0 g w [] _ h⟩
    simp only [rdI, if_true]
    congr 2
    rw [Bool.eq_iff_iff]
    simp only [List.isEmpty_iff, decide_eq_true_eq]
    constructor
    · intro h
      rw [← strS_ofStr s, h]; rfl
    · rintro rfl; rfl
  | false =>
    refine ⟨_, _, _, ?_, fun w h => text_r W0 g w ys s.size hs h⟩
    simp only [rdI, Bool.false_eq_true, if_false, ofStr_len]
    congr 2
    simp only [decide_eq_decide, strS_eq]
theorem row_step (W0 : World) (g : Nat) (ys : List B8) (f : Bool) (l : List B8) (hl : l.length ≤ 20000) (hd : f = true → ys = []) : ∃ (bs : List B8) (ys' : List B8) (f' : Bool), rdI (.row l) ys f = (ys', f', eqB bs l) ∧
    ∀ w, Rd W0 g w ys f → Calls Try.prog 38 #[.pointer (some ⟨g, 0, none⟩), .int .i64 (l.length : Int)] w (RowP W0 g bs ys' f') := by
  cases f with
  | true =>
    obtain rfl := hd rfl
    refine ⟨[], [], true, ?_, fun w h => (row_dead W0 g w [] _ h).mono fun e w' hp => ⟨none, 0, hp.1, BytesIn.nil _, hp.2⟩⟩
    simp only [rdI, if_true, eqB]
    congr 2
    cases l <;> simp
  | false =>
    refine ⟨_, _, _, ?_, fun w h => row_r W0 g w ys l.length hl h⟩
    simp only [rdI, Bool.false_eq_true, if_false, eqB]

theorem Rd.drew {W0 : World} {g : Nat} {w : World} {xs : List B8} {f : Bool} (h : Rd W0 g w xs f) : Rd W0 g w.drew xs f := h.ok (Ok.refl w).drew
end Go.Proofs.Ytmbnknbbfipciaa
