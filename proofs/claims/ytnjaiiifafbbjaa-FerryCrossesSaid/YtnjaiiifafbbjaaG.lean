/- Contracts of the reader's calls, and of a new reader. -/
import Derived.Test.YtnjaiiifafbbjaaF
namespace Go.Proofs.Ytnjaiiifafbbjaa
open Go.RowKit

set_option maxHeartbeats 400000 in
theorem dead_r (W0 : World) (g : Nat) (w : World) (xs : List B8) (f : Bool) (h : Rd W0 g w xs f) :
    Calls Try.prog 117 #[.pointer (some ⟨g, 0, none⟩)] w fun e w' => e = .returned (.bool f) ∧ w = w' := by
  have h1 := h.2.2.2.1
  have h2 := h.2.2.2.2.1
  clear h
  go_enter Try.func117, Try.ntmps117
  go_wp2
  go_ret
  exact ⟨rfl, rfl⟩

set_option maxHeartbeats 400000 in
theorem left_r (W0 : World) (g : Nat) (w : World) (xs : List B8) (f : Bool) (h : Rd W0 g w xs f) (hf : f = true → xs = []) :
    Calls Try.prog 64 #[.pointer (some ⟨g, 0, none⟩)] w fun e w' => e = .returned (.int .i64 (xs.length : Int)) ∧ w = w' := by
  have HR := Lib.hid h
  obtain ⟨v, hv, h0⟩ := h.2.2.1
  have hform := hv.form
  clear hv h
  cases f with
  | true =>
    obtain rfl := hf rfl
    clear hform h0 hf
    go_enter Try.func64, Try.ntmps64
    go_wp2_with fail
    refine (dead_r W0 g w _ true HR.out).mono ?_
    rintro e w' ⟨rfl, rfl⟩
    go_wp2_with fail
    go_ret
    exact ⟨rfl, rfl⟩
  | false =>
    obtain ⟨A, c, rfl, _⟩ := hform
    clear hf
    go_enter Try.func64, Try.ntmps64
    go_wp2_with fail
    refine (dead_r W0 g w _ false HR.out).mono ?_
    rintro e w' ⟨rfl, rfl⟩
    go_wp2_with fail
    go_ret
    exact ⟨rfl, rfl⟩

/-- What End tells. -/
def endOf (xs : List B8) (f : Bool) : Int := if f || decide (0 < xs.length) then 4 else 0
set_option maxHeartbeats 400000 in
theorem end_r (W0 : World) (g : Nat) (w : World) (xs : List B8) (f : Bool) (h : Rd W0 g w xs f) :
    Calls Try.prog 115 #[.pointer (some ⟨g, 0, none⟩)] w fun e w' => e = .returned (.int .i64 (endOf xs f)) ∧ w = w' := by
  obtain ⟨v, hv, h0⟩ := h.2.2.1
  obtain ⟨A, c, rfl, _⟩ := hv.form
  have h1 := h.2.2.2.1
  have h2 := h.2.2.2.2.1
  clear hv h
  cases f with
  | true =>
    go_enter Try.func115, Try.ntmps115
    go_wp2
    go_ret
    exact ⟨rfl, rfl⟩
  | false =>
    by_cases hl : 0 < xs.length
    · have HE : Hid (endOf xs false = 4) := Lib.hid (by simp [endOf, hl])
      have hd : decide (0 < xs.length) = true := decide_eq_true hl
      have hd2 : decide ((0 : Int) < (xs.length : Int)) = true := decide_eq_true (by omega)
      go_enter Try.func115, Try.ntmps115
      go_wp2
      go_ret
      exact ⟨by rw [HE.out]; rfl, rfl⟩
    · have HE : Hid (endOf xs false = 0) := Lib.hid (by unfold endOf; rw [decide_eq_false hl]; rfl)
      have hd : decide (0 < xs.length) = false := decide_eq_false hl
      have hd2 : decide ((0 : Int) < (xs.length : Int)) = false := decide_eq_false (by omega)
      go_enter Try.func115, Try.ntmps115
      go_wp2
      go_ret
      exact ⟨by rw [HE.out]; rfl, rfl⟩

set_option maxHeartbeats 400000 in
theorem Number_r (W0 : World) (g : Nat) (w : World) (xs : List B8) (m : Nat) (hm : m ≤ 4611686018427387903) (h : Rd W0 g w xs false) :
    Calls Try.prog 114 #[.pointer (some ⟨g, 0, none⟩), .int .i64 (m : Int)] w (RdPost W0 g w (.int .i64 (resN (rd m xs) : Int)) (resL (rd m xs)) (resF (rd m xs))) := by
  have HR := Lib.hid h
  clear h
  go_enter Try.func114, Try.ntmps114
  go_wp2_with fail
  refine (dead_r W0 g w _ false HR.out).mono ?_
  rintro e w' ⟨rfl, rfl⟩
  go_wp2_with fail
  refine (number_r W0 g w xs m hm HR.out).mono ?_
  rintro e w' ⟨rfl, hr, ho⟩
  have HR2 := Lib.hid hr
  have HO := Lib.hid ho
  clear hr ho
  go_wp2_with fail
  go_ret
  exact ⟨rfl, HR2.out, HO.out⟩

def NewRd (W : World) (xs : List B8) (e : Ending) (w' : World) : Prop :=
  ∃ W0 g, e = .returned (.pointer (some ⟨g, 0, none⟩)) ∧ Rd W0 g w' xs false ∧ Ok W W0 ∧ g + 1 = w'.heap.size
set_option maxRecDepth 100000 in
set_option maxHeartbeats 1000000 in
theorem newReader_r (W : World) (v : Value) (xs : List B8) (h : BytesIn W v xs) (_hx : xs.length ≤ 140737488350000) :
    Calls Try.prog 61 #[v] W (NewRd W xs) := by
  obtain ⟨A, c, rfl, _⟩ := h.form
  have HB := Lib.hid h
  have HON : Hid (OwnN W W.heap.size (.slice none 0 0) []) := Lib.hid (World.ownsRow_nil _ _ _ _)
  clear h
  go_enter Try.func61, Try.ntmps61
  go_wp2_with (at_builtin; go_must (refine wpList_app rfl (.const (.slice none 0 0)) (.tmp 3) rfl W.heap.size (.slice none 0 0) [] xs (.slice A xs.length c) rfl rfl HON.out HB.out (by simp; omega) (Nat.le_refl _) ?_; intro A' c' w2 hown2 hbel2; simp only [List.nil_append, List.length_nil, Nat.zero_add] at hown2 ⊢; have HOWN2 := Lib.hid hown2; have HBEL2 := Lib.hid hbel2; clear hown2 hbel2))
  go_ret
  refine ⟨w2, w2.heap.size, rfl, ⟨Nat.le_refl _, (Ok.refl w2).alloc _, ⟨_, HOWN2.out.bytes (by omega), ?_⟩, ?_, ?_, World.frozen?_alloc_at _ _ _ _ rfl, World.frozen?_alloc_at _ _ _ _ rfl⟩, HBEL2.out, by simp⟩
  all_goals (rw [World.cell?_alloc_at _ _ _ _ rfl]; rfl)
end Go.Proofs.Ytnjaiiifafbbjaa
