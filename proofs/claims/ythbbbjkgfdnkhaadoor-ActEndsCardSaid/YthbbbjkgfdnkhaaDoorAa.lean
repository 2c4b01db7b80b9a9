/- Numbers as values, as plain mathematics; what stands of what was there. -/
import Derived.Test.YthbbbjkgfdnkhaaDoorRows
import Derived.Test.YthbbbjkgfdnkhaaDoorShelf
import Derived.WalkKit
import Derived.WalkSpells
import Derived.WalkLawsBesides
import Derived.RegionTactic
import Derived.ChangeAlike
import Derived.BigRegion
import Derived.Deep.QuietTactic
import Derived.BigQuiet
import Derived.Lib.Hide
import Derived.Lib.QuietBelow
import Derived.Lib.SmallJoins
import Derived.Lib.AppendIntMem
import Derived.Handy
namespace Go.Proofs.YthbbbjkgfdnkhaaDoor
open Go.RowKit

def Ok (w w' : World) : Prop := Below w.heap.size w w'
theorem Ok.refl (w : World) : Ok w w := Below.refl _ _
theorem Ok.drew {w w' : World} (h : Ok w w') : Ok w w'.drew := Below.drew h
theorem Ok.alloc {w w' : World} (h : Ok w w') (o : Obj) : Ok w (w'.alloc o) := Below.alloc h (Below.size h) o
theorem Ok.trans {w w' w'' : World} (h : Ok w w') (k : Ok w' w'') : Ok w w'' := Below.trans h (k.mono (Below.size h))
theorem Ok.cell {w w' : World} {a : Addr} {v : Value} (h : Ok w w') (hc : w.cell? a = some v) : w'.cell? a = some v := by
  rw [Below.cell h (World.block_lt_of_cell? _ _ hc)]; exact hc
abbrev Ret (w : World) (v : Value) : Ending → World → Prop := fun e w' => e = .returned v ∧ Ok w w'
/-- The table of powers of ten lies there. -/
def Tb (w : World) : Prop := Lib.TabIs Tryd.prog w "internal/strconv.uint64pow10" .u64 Lib.pow10Tab
theorem Tb.below {w w' : World} {B : Nat} (h : Tb w) (k : Below B w w') (hB : w.heap.size ≤ B) : Tb w' :=
  (Lib.tabBelow_of_tabIs h) w' (k.mono hB)
theorem Tb.ok {w w' : World} (h : Tb w) (k : Ok w w') : Tb w' := (Lib.tabBelow_of_tabIs h) w' k

abbrev Chs := List UInt8
abbrev Str := ByteArray
def digB (c : UInt8) : Bool := decide (48 ≤ c.toNat) && decide (c.toNat ≤ 57)
/-- The number that digits are, going on from n. -/
def valF (n : Nat) (l : Chs) : Nat := l.foldl (fun a c => 10 * a + (c.toNat - 48)) n
def satF (M n : Nat) (l : Chs) : Nat := l.foldl (fun a c => min (10 * a + (c.toNat - 48)) M) n
theorem valF_cons (n : Nat) (c : UInt8) (l : Chs) : valF n (c :: l) = valF (10 * n + (c.toNat - 48)) l := List.foldl_cons ..
theorem satF_cons (M n : Nat) (c : UInt8) (l : Chs) : satF M n (c :: l) = satF M (min (10 * n + (c.toNat - 48)) M) l := List.foldl_cons ..
theorem valF_mono (l : Chs) : ∀ a b : Nat, a ≤ b → valF a l ≤ valF b l := by
  induction l with
  | nil => intro a b h; exact h
  | cons c l ih => intro a b h; rw [valF_cons, valF_cons]; exact ih _ _ (by omega)
theorem valF_ge (l : Chs) : ∀ a : Nat, a ≤ valF a l := by
  induction l with
  | nil => intro a; exact Nat.le_refl _
  | cons c l ih => intro a; rw [valF_cons]; exact Nat.le_trans (by omega) (ih _)
theorem satF_eq (M : Nat) (l : Chs) : ∀ n : Nat, n ≤ M → satF M n l = min (valF n l) M := by
  induction l with
  | nil => intro n h; show n = min n M; omega
  | cons c l ih =>
    intro n h
    rw [satF_cons, ih _ (Nat.min_le_right _ _), valF_cons]
    have h4 := valF_ge l M
    have h5 := valF_ge l (10 * n + (c.toNat - 48))
    by_cases h2 : 10 * n + (c.toNat - 48) ≤ M
    · rw [Nat.min_eq_left h2]
    · rw [Nat.min_eq_right (show M ≤ 10 * n + (c.toNat - 48) by omega)]
      omega
theorem satF_take (M : Nat) (l : Chs) : ∀ (n k : Nat), k < l.length → satF M n (l.take (k + 1)) = min (10 * satF M n (l.take k) + ((l.getD k 0).toNat - 48)) M := by
  induction l with
  | nil => intro n k h; simp at h
  | cons c l ih =>
    intro n k h
    cases k with
    | zero => rfl
    | succ k =>
      have h2 : k < l.length := by simpa using h
      rw [List.take_succ_cons, List.take_succ_cons, satF_cons, satF_cons, ih _ k h2]
      rfl
theorem satF_le (M n : Nat) (l : Chs) (h : n ≤ M) : satF M n l ≤ M := by rw [satF_eq M l n h]; exact Nat.min_le_right _ _
/-- The number that a text stands for. -/
def numV (l : Chs) : Int :=
  let neg := l.head? == some 45
  let d := if neg = true then l.drop 1 else l
  if d.all digB = true ∧ valF 0 d ≤ 1073741824 then (if neg = true then -(valF 0 d : Int) else (valF 0 d : Int)) else 0
/-- A number within most. -/
def boundM (n m : Int) : Int := max (-m) (min n m)
def valueT (n : Int) : Str := ⟨(Lib.itoa (boundM n 1073741824)).toArray⟩
theorem boundM_in (n m : Int) (h : 0 ≤ m) : -m ≤ boundM n m ∧ boundM n m ≤ m := by unfold boundM; omega
end Go.Proofs.YthbbbjkgfdnkhaaDoor
