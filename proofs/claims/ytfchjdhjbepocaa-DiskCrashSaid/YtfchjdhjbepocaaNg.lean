/- Pick; what a deed's first name is. -/
import Derived.Test.YtfchjdhjbepocaaNf
namespace Go.Proofs.Ytfchjdhjbepocaa
open Go Go.RowKit

def pickI (x : Int) (n : Nat) : Int := if x.tmod (n : Int) < 0 then x.tmod (n : Int) + n else x.tmod (n : Int)
theorem pickI_lt (x : Int) (n : Nat) (hn : 0 < n) : 0 ≤ pickI x n ∧ pickI x n < n := by
  have b1 : -(n : Int) < x.tmod (n : Int) := Int.lt_tmod_of_pos x (b := (n : Int)) (by omega)
  have b2 : x.tmod (n : Int) < (n : Int) := Int.tmod_lt_of_pos x (by omega)
  unfold pickI
  split <;> omega
theorem pick_f (x : Int) (n : Nat) (hn : 0 < n) (hn6 : n ≤ 1000000) (w : World) : Calls Try.prog 12 #[.int .i64 x, .int .i64 (n : Int)] w (Ret w (.int .i64 (pickI x n))) := by
  have d1 : decide ((n : Int) < 1) = false := decide_eq_false (by omega)
  have hz : ¬ ((n : Int) = 0) := by omega
  have b1 : -(n : Int) < x.tmod (n : Int) := Int.lt_tmod_of_pos x (b := (n : Int)) (by omega)
  have b2 : x.tmod (n : Int) < (n : Int) := Int.tmod_lt_of_pos x (by omega)
  by_cases hx : x.tmod (n : Int) < 0
  · have HE : Hid (pickI x n = x.tmod n + n) := Lib.hid (if_pos hx)
    have d2 : decide (x.tmod (n : Int) < 0) = true := decide_eq_true hx
    go_enter Try.func12, Try.ntmps12
    go_wp2
    go_ret
    exact ⟨by rw [HE.out]; rfl, Ok.refl _⟩
  · have HE : Hid (pickI x n = x.tmod n) := Lib.hid (if_neg hx)
    have d2 : decide (x.tmod (n : Int) < 0) = false := decide_eq_false hx
    go_enter Try.func12, Try.ntmps12
    go_wp2
    go_ret
    exact ⟨by rw [HE.out]; rfl, Ok.refl _⟩
def Deed.first (d : Deed) : Str := match d.names with | [] => d.name | k :: _ => k
def dvals (d : Deed) (A2 : Option Addr) (c2 : Nat) (A4 : Option Addr) (c4 : Nat) : Array Value := #[.int .i64 d.kind, .string d.name, .slice A2 d.names.length c2, .int .i64 d.num, .slice A4 d.parts.length c4]
theorem five_new (w : World) (a b c d e : Value) (t : TypeId) : (w.alloc (.cells #[a, b, c, d, e] t)).cell? ⟨w.heap.size, 0, none⟩ = some a ∧ (w.alloc (.cells #[a, b, c, d, e] t)).cell? ⟨w.heap.size, 1, none⟩ = some b ∧
    (w.alloc (.cells #[a, b, c, d, e] t)).cell? ⟨w.heap.size, 2, none⟩ = some c ∧ (w.alloc (.cells #[a, b, c, d, e] t)).cell? ⟨w.heap.size, 3, none⟩ = some d ∧ (w.alloc (.cells #[a, b, c, d, e] t)).cell? ⟨w.heap.size, 4, none⟩ = some e := by
  have h := heap_alloc_new w (.cells #[a, b, c, d, e] t)
  unfold World.cell?
  simp only [h]
  exact ⟨rfl, rfl, rfl, rfl, rfl⟩
set_option maxRecDepth 100000 in
set_option maxHeartbeats 2000000 in
theorem first_f (S : Nat → Prop) (d : Deed) (A2 : Option Addr) (c2 : Nat) (A4 : Option Addr) (c4 : Nat) (w : World) (ht : TxIn S w A2 d.names) :
    Calls Try.prog 55 #[.agg (dvals d A2 c2 A4 c4)] w (Ret w (.string d.first)) := by
  have HOA : Hid (Ok w (w.alloc (.cells (dvals d A2 c2 A4 c4) 38))) := Lib.hid ((Ok.refl w).alloc _)
  have HC := Lib.hid (five_new w (.int .i64 d.kind) (.string d.name) (.slice A2 d.names.length c2) (.int .i64 d.num) (.slice A4 d.parts.length c4) 38)
  obtain ⟨b, hb⟩ : ∃ b, w.heap.size = b := ⟨_, rfl⟩
  rw [hb] at HC
  obtain ⟨kind, name, names, num, parts⟩ := d
  unfold dvals at *
  simp only at *
  cases names with
  | nil =>
    clear ht
    go_enter Try.func55, Try.ntmps55
    go_upto_region 1 with fail
    clear hb
    have x1 := HC.out.2.1
    have x2 := HC.out.2.2.1
    simp only [List.length_nil] at *
    generalize w.alloc (.cells #[.int .i64 kind, .string name, .slice A2 0 c2, .int .i64 num, .slice A4 parts.length c4] 38) = w0 at *
    go_wp2_with fail
    go_ret
    exact ⟨rfl, HOA.out⟩
  | cons k r =>
    obtain ⟨g, off, rfl, -, hc⟩ := ht 0 (Nat.zero_lt_succ _)
    have hc' : w.cell? ⟨g, off, none⟩ = some (.string k) := hc
    clear hc ht
    have HC' := Lib.hid (HOA.out.cell hc')
    have HL : Hid ((r.length : Int) + 1 ≠ 0) := Lib.hid (by omega)
    have hl1 : (((r.length + 1 : Nat) : Int) == 0) = false := beq_eq_false_iff_ne.2 (by omega)
    have hl2 : ((r.length : Int) + 1 == 0) = false := beq_eq_false_iff_ne.2 (by omega)
    go_enter Try.func55, Try.ntmps55
    go_upto_region 1 with fail
    clear hb hc'
    have x1 := HC.out.2.1
    have x2 := HC.out.2.2.1
    have x3 := HC'.out
    simp only [List.length_cons] at *
    generalize w.alloc (.cells #[.int .i64 kind, .string name, .slice (some ⟨g, off, none⟩) (r.length + 1) c2, .int .i64 num, .slice A4 parts.length c4] 38) = w0 at *
    generalize r.length = n at *
    go_wp2_with fail
    go_ret
    exact ⟨rfl, HOA.out⟩
end Go.Proofs.Ytfchjdhjbepocaa
