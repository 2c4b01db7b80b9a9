/- Rows: insert in place, and into a new row. -/
import Derived.Test.YtebhcadolnjplaaRy
namespace Go.Proofs.Ytebhcadolnjplaa
open Go.RowKit

theorem flat2_take (l : List Rw) (i : Nat) (h : i ≤ l.length) : flat2 (l.take i) = (flat2 l).take (i * 2) := by
  have e := flat2_append (l.take i) (l.drop i)
  rw [List.take_append_drop] at e
  have hl : (flat2 (l.take i)).length = i * 2 := by rw [flat2_len, List.length_take]; omega
  rw [e, ← hl, List.take_left]
theorem flat2_drop (l : List Rw) (i : Nat) (h : i ≤ l.length) : flat2 (l.drop i) = (flat2 l).drop (i * 2) := by
  have e := flat2_append (l.take i) (l.drop i)
  rw [List.take_append_drop] at e
  have hl : (flat2 (l.take i)).length = i * 2 := by rw [flat2_len, List.length_take]; omega
  rw [e, ← hl, List.drop_left]
theorem splice_in {α : Type} (Z R X : List α) (k : Nat) (hZ : k + R.length + X.length ≤ Z.length) :
    splice (splice Z (k + R.length) X) k R = Z.take k ++ (R ++ (X ++ Z.drop (k + R.length + X.length))) := by
  unfold splice
  have e1 : (Z.take (k + R.length) ++ (X ++ Z.drop (k + R.length + X.length))).take k = Z.take k := by
    rw [List.take_append_of_le_length (by rw [List.length_take]; omega), List.take_take]
    congr 1; omega
  have e2 : (Z.take (k + R.length) ++ (X ++ Z.drop (k + R.length + X.length))).drop (k + R.length) = X ++ Z.drop (k + R.length + X.length) := by
    have hl : (Z.take (k + R.length)).length = k + R.length := by rw [List.length_take]; omega
    conv => lhs; arg 1; rw [← hl]
    rw [hl]
    conv => lhs; arg 1; rw [← hl]
    exact List.drop_left
  rw [e1, e2]
theorem splice_out {α : Type} (Z R X : List α) (k : Nat) (hZ : k + R.length + X.length ≤ Z.length) :
    splice (splice Z k R) (k + R.length) X = Z.take k ++ (R ++ (X ++ Z.drop (k + R.length + X.length))) := by
  unfold splice
  have hl : (Z.take k ++ R).length = k + R.length := by rw [List.length_append, List.length_take]; omega
  have e0 : Z.take k ++ (R ++ Z.drop (k + R.length)) = (Z.take k ++ R) ++ Z.drop (k + R.length) := by rw [List.append_assoc]
  have e1 : (Z.take k ++ (R ++ Z.drop (k + R.length))).take (k + R.length) = Z.take k ++ R := by
    rw [e0, List.take_append_of_le_length (by omega), List.take_of_length_le (by omega)]
  have e2 : (Z.take k ++ (R ++ Z.drop (k + R.length))).drop (k + R.length + X.length) = Z.drop (k + R.length + X.length) := by
    rw [e0, List.drop_append, List.drop_of_length_le (by omega), hl, List.nil_append, List.drop_drop]
    congr 1; omega
  rw [e1, e2, List.append_assoc]
theorem ins_cells (l : List Rw) (i : Nat) (r : Rw) (n : Nat) (hn : l.length = n) (hi : i ≤ n) (Y : List Value) :
    (flat2 (l.take i) ++ (r.cells ++ (flat2 (l.drop i) ++ Y))).take ((n + 1) * 2) = flat2 (insR l i r) := by
  have e : flat2 (l.take i) ++ (r.cells ++ (flat2 (l.drop i) ++ Y)) = flat2 (insR l i r) ++ Y := by
    rw [insR, flat2_append]
    simp [flat2]
  have hl : (flat2 (insR l i r)).length = (n + 1) * 2 := by rw [flat2_len, insR]; simp; omega
  rw [e, List.take_append_of_le_length (by omega), List.take_of_length_le (by omega)]
theorem insR_len (l : List Rw) (i : Nat) (r : Rw) (n : Nat) (hn : l.length = n) (hi : i ≤ n) : (insR l i r).length = n + 1 := by simp [insR]; omega
end Go.Proofs.Ytebhcadolnjplaa
