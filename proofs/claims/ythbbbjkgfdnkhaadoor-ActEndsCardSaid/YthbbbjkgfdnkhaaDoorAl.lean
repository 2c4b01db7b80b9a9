/- The guard of the layer of acts, walked; a pick; reads compared. -/
import Derived.Test.YthbbbjkgfdnkhaaDoorAj
import Derived.Laws.StructEq
namespace Go.Proofs.YthbbbjkgfdnkhaaDoor
open Go.RowKit
def str0 : Str := ⟨#[]⟩
def Lim (l : List Ac) (k : Nat) : Prop := ∀ j, j < k → (atA l j).key.size + (atA l j).value.size ≤ 120
theorem Lim.succ {l : List Ac} {k : Nat} (h : Lim l k) (h2 : (atA l k).key.size + (atA l k).value.size ≤ 120) : Lim l (k + 1) := fun j hj => by
  rcases Nat.lt_succ_iff_lt_or_eq.1 hj with h3 | rfl
  · exact h j h3
  · exact h2
def LimS (zs : List Str) (k : Nat) : Prop := ∀ j, j < k → (zs.getD j str0).size ≤ 60
theorem LimS.succ {l : List Str} {k : Nat} (h : LimS l k) (h2 : (l.getD k str0).size ≤ 60) : LimS l (k + 1) := fun j hj => by
  rcases Nat.lt_succ_iff_lt_or_eq.1 hj with h3 | rfl
  · exact h j h3
  · exact h2
def GrP (w : World) (l : List Ac) (zs : List Str) : Ending → World → Prop := fun e w' => (∃ r, e = .returned (.bool r) ∧ (r = false → l.length ≤ 40 ∧ Lim l l.length ∧ LimS zs zs.length)) ∧ Ok w w'
theorem GrP.mk {w w' : World} {l : List Ac} {zs : List Str} {e : Ending} (r : Bool) (he : e = .returned (.bool r)) (h : r = false → l.length ≤ 40 ∧ Lim l l.length ∧ LimS zs zs.length) (ho : Ok w w') : GrP w l zs e w' := ⟨⟨r, he, h⟩, ho⟩
def StrsAt (w : World) (B : Option Addr) (zs : List Str) : Prop := ∀ j, j < zs.length → ∃ b off, B = some ⟨b, off, none⟩ ∧ w.cell? ⟨b, off + j, none⟩ = some (.string (zs.getD j str0))
theorem StrsAt.ok {w w' : World} {B : Option Addr} {zs : List Str} (h : StrsAt w B zs) (k : Ok w w') : StrsAt w' B zs := fun j hj => by
  obtain ⟨b, off, e, h0⟩ := h j hj
  exact ⟨b, off, e, k.cell h0⟩
def Sz (l : List Ac) : Prop := ∀ j, j < l.length → (atA l j).key.size ≤ 140737488355328 ∧ (atA l j).value.size ≤ 140737488355328
/-- The number that is drawn. -/
theorem pick_w (x : Int) (n : Nat) (hn : 0 < n) (hn6 : n ≤ 1000000) (w : World) :
    Calls Tryd.prog 32 #[.int .i64 x, .int .i64 (n : Int)] w fun e w' => (∃ k : Nat, k < n ∧ e = .returned (.int .i64 (k : Int))) ∧ w = w' := by
  have d1 : decide ((n : Int) < 1) = false := decide_eq_false (by omega)
  have hz : ¬ ((n : Int) = 0) := by omega
  have b1 : -(n : Int) < x.tmod (n : Int) := by
    have := Int.lt_tmod_of_pos x (b := (n : Int)) (by omega); exact this
  have b2 : x.tmod (n : Int) < (n : Int) := Int.tmod_lt_of_pos x (by omega)
  by_cases hx : x.tmod (n : Int) < 0
  · have d2 : decide (x.tmod (n : Int) < 0) = true := decide_eq_true hx
    go_enter Tryd.func32, Tryd.ntmps32
    go_wp2
    go_ret
    exact ⟨⟨(x.tmod (n : Int) + n).toNat, by omega, by rw [Int.toNat_of_nonneg (by omega)]; rfl⟩, rfl⟩
  · have d2 : decide (x.tmod (n : Int) < 0) = false := decide_eq_false hx
    go_enter Tryd.func32, Tryd.ntmps32
    go_wp2
    go_ret
    exact ⟨⟨(x.tmod (n : Int)).toNat, by omega, by rw [Int.toNat_of_nonneg (by omega)]; rfl⟩, rfl⟩
def rd0 : Rd := ⟨str0, false, str0⟩
def atR (l : List Rd) (j : Nat) : Rd := l.getD j rd0
def ReadsAt (w : World) (A : Option Addr) (l : List Rd) : Prop := ∀ j, j < l.length → ∃ b off, A = some ⟨b, off, none⟩ ∧ w.cell? ⟨b, off + j * 3, none⟩ = some (.string (atR l j).key) ∧ w.cell? ⟨b, off + j * 3 + 1, none⟩ = some (.bool (atR l j).is) ∧ w.cell? ⟨b, off + j * 3 + 2, none⟩ = some (.string (atR l j).val)
theorem ReadsAt.ok {w w' : World} {A : Option Addr} {l : List Rd} (h : ReadsAt w A l) (k : Ok w w') : ReadsAt w' A l := fun j hj => by
  obtain ⟨b, off, e, h0, h1, h2⟩ := h j hj
  exact ⟨b, off, e, k.cell h0, k.cell h1, k.cell h2⟩
theorem flat3_at : ∀ (l : List Rd) (j : Nat), j < l.length → (flat3 l)[j * 3]? = some (.string (atR l j).key) ∧ (flat3 l)[j * 3 + 1]? = some (.bool (atR l j).is) ∧ (flat3 l)[j * 3 + 2]? = some (.string (atR l j).val)
  | [], _, h => absurd h (Nat.not_lt_zero _)
  | x :: l, 0, _ => ⟨rfl, rfl, rfl⟩
  | x :: l, j + 1, h => by
    have h2 := flat3_at l j (Nat.lt_of_succ_lt_succ h)
    have e : flat3 (x :: l) = .string x.key :: .bool x.is :: .string x.val :: flat3 l := rfl
    have e2 : (j + 1) * 3 = j * 3 + 1 + 1 + 1 := by omega
    rw [e, e2]
    exact h2
theorem OwnR.at {w : World} {B : Nat} {A : Option Addr} {n c : Nat} {l : List Rd} (h : OwnR w B A n c l) : ReadsAt w A l := fun j hj => by
  obtain ⟨h1, rfl⟩ := h
  rcases h1.2 with ⟨_, h5⟩ | ⟨g, cap, cur, e, r⟩
  · rw [h5] at hj; exact absurd hj (Nat.not_lt_zero _)
  · simp only [Value.slice.injEq] at e
    obtain ⟨rfl, -, rfl⟩ := e
    obtain ⟨a, b, d⟩ := flat3_at l j hj
    have hl := flat3_len l
    refine ⟨g, 0, rfl, ?_, ?_, ?_⟩
    · rw [World.ownsRow.cellAt h1 (0 + j * 3) (by omega), Nat.zero_add]; exact a
    · rw [World.ownsRow.cellAt h1 (0 + j * 3 + 1) (by omega), Nat.zero_add]; exact b
    · rw [World.ownsRow.cellAt h1 (0 + j * 3 + 2) (by omega), Nat.zero_add]; exact d
theorem eq57 (a c : Str) (b : Bool) (w : World) : (Op.equalIn 10000 57 (.agg #[.string a, .bool b, .string c]) (.agg #[.string a, .bool b, .string c])).run Tryd.prog w = .ok true w := by
  have u9 := Tryd.underlying9
  have u4 := Tryd.underlying4
  have a9 := Tryd.isAgg9
  have a4 := Tryd.isAgg4
  have z9 := Tryd.sizeOf9
  have z4 := Tryd.sizeOf4
  have hS : Tryd.prog.underlying 57 = some (.struct (Tryd.prog.fieldsOf 57)) := by kernel_rfl
  have hp : Tryd.prog.stoodInHeld 57 = false := by kernel_rfl
  rw [show (10000 : Nat) = 9999 + 1 from rfl, run_equalIn_agg w 9999 57 _ _ hS hp]
  simp only [Program.fieldsOf, Tryd.underlying57]
  go_simp
set_option maxRecDepth 100000 in
set_option maxHeartbeats 4000000 in
theorem same_w (A B : Option Addr) (n c d : Nat) (l : List Rd) (hn : l.length = n) (hn5 : n ≤ 100000) (w : World) (hA : ReadsAt w A l) (hB : ReadsAt w B l) :
    Calls Tryd.prog 13 #[.slice A n c, .slice B n d] w (Ret w (.bool true)) := by
  have HA := Lib.hid hA
  have HB := Lib.hid hB
  have HN := Lib.hid hn
  have d0 : ((n : Int) != (n : Int)) = false := by simp
  have heq := eq57
  clear hA hB hn
  go_enter Tryd.func13, Tryd.ntmps13
  go_wp2_with fail
  go_loopw [5] (fun i wr => ∃ k : Nat, k ≤ n ∧ i = .int .i64 k ∧ Ok w wr) (fun i _ => n - (intOf i).toNat)
  case atStart => exact ⟨0, Nat.zero_le _, rfl, Ok.refl _⟩
  case round =>
    obtain ⟨k, hk, rfl, okr⟩ := hrel
    have HOKR := Lib.hid okr
    clear okr
    by_cases hlt : k < n
    · have d1 : decide ((k : Int) < (n : Int)) = true := decide_eq_true (by omega)
      obtain ⟨b, off, rfl, C0, C1, C2⟩ := HA.out.ok HOKR.out k (by rw [HN.out]; exact hlt)
      obtain ⟨b', off', rfl, D0, D1, D2⟩ := HB.out.ok HOKR.out k (by rw [HN.out]; exact hlt)
      generalize atR l k = x at *
      obtain ⟨key, is, val⟩ := x
      simp only at C0 C1 C2 D0 D1 D2
      have hi0 : (0 : Int) ≤ (k : Int) := Int.natCast_nonneg _
      have hi1 : (k : Int) < (n : Int) := by omega
      go_wp2_with fail
      go_quiet (fail)
      go_wp2_with fail
      refine ⟨⟨k + 1, hlt, by go_num, Below.trans HOKR.out ⟨rfl, rfl, rfl, Nat.le_refl _, fun _ _ => rfl⟩⟩, by simp [intOf]; omega⟩
    · have d1 : decide ((k : Int) < (n : Int)) = false := decide_eq_false (by omega)
      go_wp2_with fail
      go_ret
      exact ⟨rfl, HOKR.out⟩
end Go.Proofs.YthbbbjkgfdnkhaaDoor
