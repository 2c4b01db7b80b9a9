/- Pasts: what they are in memory; contracts of their small functions. -/
import Derived.Test.YtnjaiiifafbbjaaG
namespace Go.Proofs.Ytnjaiiifafbbjaa
open Go.RowKit

/-- A past at block p: the clients' numbers. -/
structure PastAt (w : World) (p : Nat) (f : Nat → Int) : Prop where
  num : ∀ i, i < 8 → w.cell? ⟨p, i, none⟩ = some (.int .i64 (f i))
  made : w.cell? ⟨p, 8, none⟩ = some (.bool true)
  free : ∀ i, i < 8 → w.frozen? ⟨p, i, none⟩ = false
theorem PastAt.ok {w w' : World} {p : Nat} {f : Nat → Int} (h : PastAt w p f) (k : Ok w w') : PastAt w' p f where
  num i hi := Ok.cell k (h.num i hi)
  made := Ok.cell k h.made
  free i hi := (Below.frozen k (World.block_lt_of_cell? _ _ (h.num i hi))).trans (h.free i hi)
theorem PastAt.drew {w : World} {p : Nat} {f : Nat → Int} (h : PastAt w p f) : PastAt w.drew p f := h.ok (Ok.drew (Ok.refl w))
def clientB (n : Int) : Bool := decide (1 ≤ n) && decide (n ≤ 8)
structure Nm where
  c : Int
  n : Int
def nmV (x : Nm) : Value := .agg #[.int .i64 x.c, .int .i64 x.n]
def nmB (x : Nm) : Bool := clientB x.c && decide (1 ≤ x.n) && decide (x.n ≤ 1073741824)
abbrev Ret (w : World) (v : Value) : Ending → World → Prop := fun e w' => e = .returned v ∧ Ok w w'

set_option maxHeartbeats 400000 in
theorem client_w (n : Int) (w : World) : Calls Try.prog 118 #[.int .i64 n] w fun e w' => e = .returned (.bool (clientB n)) ∧ w = w' := by
  unfold clientB
  cases h1 : decide (1 ≤ n) with
  | true =>
    go_enter Try.func118, Try.ntmps118
    go_wp2
    go_ret
    exact ⟨by first | rfl | simp, rfl⟩
  | false =>
    go_enter Try.func118, Try.ntmps118
    go_wp2
    go_ret
    exact ⟨by first | rfl | simp, rfl⟩
set_option maxHeartbeats 400000 in
theorem none_p (p : Nat) (f : Nat → Int) (w : World) (h : PastAt w p f) :
    Calls Try.prog 106 #[.pointer (some ⟨p, 0, none⟩)] w fun e w' => e = .returned (.bool false) ∧ w = w' := by
  have h8 := h.made
  clear h
  go_enter Try.func106, Try.ntmps106
  go_wp2
  go_ret
  exact ⟨rfl, rfl⟩
set_option maxHeartbeats 400000 in
theorem of_p (p : Nat) (f : Nat → Int) (k : Nat) (hk : k < 8) (c : Int) (hc : c - 1 = (k : Int)) (w : World) (h : PastAt w p f) :
    Calls Try.prog 113 #[.pointer (some ⟨p, 0, none⟩), .int .i64 c] w fun e w' => e = .returned (.int .i64 (f k)) ∧ w = w' := by
  have hk0 := h.num k hk
  obtain rfl : c = (k : Int) + 1 := by omega
  clear h hc
  generalize f k = v at *
  have h0 : (0 : Int) ≤ (k : Int) := Int.natCast_nonneg _
  have h1 : (k : Int) < 8 := by omega
  go_enter Try.func113, Try.ntmps113
  go_wp2
  go_ret
  exact ⟨rfl, rfl⟩
set_option maxHeartbeats 400000 in
theorem Of_no (p : Nat) (f : Nat → Int) (c : Int) (hc : clientB c = false) (w : World) (h : PastAt w p f) :
    Calls Try.prog 66 #[.pointer (some ⟨p, 0, none⟩), .int .i64 c] w fun e w' => e = .returned (.int .i64 0) ∧ w = w' := by
  have H := Lib.hid h
  have hcl := client_w c
  rw [hc] at hcl
  clear h hc
  go_enter Try.func66, Try.ntmps66
  go_wp2_with fail
  refine (none_p p f _ H.out).mono ?_
  rintro _ w1 ⟨rfl, rfl⟩
  go_wp2_with fail
  refine (hcl _).mono ?_
  rintro _ w1 ⟨rfl, rfl⟩
  go_wp2
  go_ret
  exact ⟨rfl, rfl⟩
set_option maxHeartbeats 400000 in
theorem Of_p (p : Nat) (f : Nat → Int) (k : Nat) (hk : k < 8) (c : Int) (hc : c - 1 = (k : Int)) (w : World) (h : PastAt w p f) :
    Calls Try.prog 66 #[.pointer (some ⟨p, 0, none⟩), .int .i64 c] w fun e w' => e = .returned (.int .i64 (f k)) ∧ w = w' := by
  have H := Lib.hid h
  have hcl := client_w c
  rw [show clientB c = true from by simp [clientB]; omega] at hcl
  have HOF := Lib.hid (of_p p f k hk c hc w h)
  clear h hc hk
  go_enter Try.func66, Try.ntmps66
  go_wp2_with fail
  refine (none_p p f _ H.out).mono ?_
  rintro _ w1 ⟨rfl, rfl⟩
  go_wp2_with fail
  refine (hcl _).mono ?_
  rintro _ w1 ⟨rfl, rfl⟩
  go_wp2_with fail
  refine HOF.out.mono ?_
  rintro _ w1 ⟨rfl, rfl⟩
  go_wp2
  go_ret
  exact ⟨rfl, rfl⟩
set_option maxHeartbeats 400000 in
theorem right_n (x : Nm) (w : World) : Calls Try.prog 104 #[nmV x] w (Ret w (.bool (nmB x))) := by
  unfold nmB nmV
  obtain ⟨c, n⟩ := x
  simp only
  have hcl := client_w c
  cases h1 : clientB c with
  | false =>
    rw [h1] at hcl
    go_enter Try.func104, Try.ntmps104
    go_wp2_with fail
    refine (hcl _).mono ?_
    rintro _ w1 ⟨rfl, rfl⟩
    go_wp2
    go_ret
    exact ⟨by first | rfl | simp, Ok.alloc (Ok.refl _) _⟩
  | true =>
    rw [h1] at hcl
    cases h2 : decide (1 ≤ n) with
    | false =>
      go_enter Try.func104, Try.ntmps104
      go_wp2_with fail
      refine (hcl _).mono ?_
      rintro _ w1 ⟨rfl, rfl⟩
      go_wp2
      go_ret
      exact ⟨by first | rfl | simp, Ok.alloc (Ok.refl _) _⟩
    | true =>
      go_enter Try.func104, Try.ntmps104
      go_wp2_with fail
      refine (hcl _).mono ?_
      rintro _ w1 ⟨rfl, rfl⟩
      go_wp2
      go_ret
      exact ⟨by first | rfl | simp, Ok.alloc (Ok.refl _) _⟩
def fz : Nat → Int := fun _ => 0
set_option maxHeartbeats 400000 in
theorem new_p (w : World) : Calls Try.prog 44 #[] w fun e w' => e = .returned (.pointer (some ⟨w.heap.size, 0, none⟩)) ∧ PastAt w' w.heap.size fz ∧ Ok w w' ∧ w'.heap.size = w.heap.size + 1 := by
  have HP : Hid (PastAt (w.alloc (.cells #[.int .i64 0, .int .i64 0, .int .i64 0, .int .i64 0, .int .i64 0, .int .i64 0, .int .i64 0, .int .i64 0, .bool true] 173)) w.heap.size fz) := Lib.hid {
    num := fun i hi => by
      rw [World.cell?_alloc_at _ _ _ _ rfl]
      match i, hi with
      | 0, _ => rfl
      | 1, _ => rfl
      | 2, _ => rfl
      | 3, _ => rfl
      | 4, _ => rfl
      | 5, _ => rfl
      | 6, _ => rfl
      | 7, _ => rfl
    made := by rw [World.cell?_alloc_at _ _ _ _ rfl]; rfl
    free := fun i _ => World.frozen?_alloc_at _ _ _ _ rfl }
  go_enter Try.func44, Try.ntmps44
  go_wp2
  go_ret
  exact ⟨rfl, HP.out, Ok.alloc (Ok.refl _) _, by simp⟩
end Go.Proofs.Ytnjaiiifafbbjaa
