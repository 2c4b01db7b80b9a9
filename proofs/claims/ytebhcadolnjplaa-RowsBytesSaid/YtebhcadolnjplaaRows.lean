/-
  No cell of these rows narrows 'for every input' (looked for: loops, veiled, ifaces, maps, wideKeys, modest, calm, conditions, laid).
  DERIVED. THE GIVEN ROWS OF THIS SEAT. 7 by the template 'for every input the law returns true; each argument reads behind the call as it read before'; 0 by the template 'total and deterministic' (their statements: YtebhcadolnjplaaTotals.lean).
  GIVEN WITH THE SEED: the statements are not yours to turn. If you find one false, say at which input.
  Laid BY PROGRAM, IN A SANDBOX (cutbox-rows.mjs): the forced cells as the released guide's own fill.sh prints them over the translation c6dcc4f255127c63… (all of the seat's roots in one cut). By AI agents, Wed Nov 11 2026. No macro, syntax, notation, axiom, sorry.
-/
import Derived.Test.YtebhcadolnjplaaChecked
import GoSem.Claim
import GoSem.ClaimJoined
import GoSem.ClaimMapViews
import Derived.JoinedTies
import Derived.KernelRfl
namespace Go.Proofs.Ytebhcadolnjplaa
/- THE CELL 'sum', in the pinned program and in every row, IS THE sha256 OF THE DUMP (.gsa) THAT YtebhcadolnjplaaProg.lean LOADS. Nothing in Lean hashes anything: it is a label: what it is worth is what the hold of that sum in a sandbox is worth. -/
noncomputable def Try.pinned : Pinned := { name := "ytebhcadolnjplaa", sum := "c6dcc4f255127c637f2eae8fb3a40df8020b94214f27a72d3d8ed64ee3900fe4", checked := Try.checked }
namespace Rows
def none {H : Type} : Left H := { results := [], args := [] }

/-- 'watershedlaw10.LogNil': WHATEVER THE INPUT: true; the input reads as it did. -/
def logNilSpec : ChangeSpec := { name := "logNil", fn := fun _ => fun
  | [d] => { results := [.lit (.bool true)], args := [d] }
  | _ => none }
def logNilRow : OpenClaim := { program := "ytebhcadolnjplaa", sum := "c6dcc4f255127c637f2eae8fb3a40df8020b94214f27a72d3d8ed64ee3900fe4", func := "watershed/watershedlaw10.LogNil", spec := "logNil", unfollowed := true, recurses := true, apart := false }
def LogNilSaid : Prop := logNilRow.holds Try.pinned (OpenSpec.ofChange logNilSpec)

/-- ITS FALSE NEIGHBOUR: 'it returns false'. Refute it at one input. -/
def logNilWrong : ChangeSpec := { name := "logNil", fn := fun _ => fun
  | [d] => { results := [.lit (.bool false)], args := [d] }
  | _ => none }
def LogNilWrongFalsely : Prop := logNilRow.holds Try.pinned (OpenSpec.ofChange logNilWrong)

/-- 'watershedlaw10.LogEnds': WHATEVER THE INPUT: true; the input reads as it did. -/
def logEndsSpec : ChangeSpec := { name := "logEnds", fn := fun _ => fun
  | [] => { results := [.lit (.bool true)], args := [] }
  | _ => none }
def logEndsRow : OpenClaim := { program := "ytebhcadolnjplaa", sum := "c6dcc4f255127c637f2eae8fb3a40df8020b94214f27a72d3d8ed64ee3900fe4", func := "watershed/watershedlaw10.LogEnds", spec := "logEnds", unfollowed := true, recurses := true, apart := false }
def LogEndsSaid : Prop := logEndsRow.holds Try.pinned (OpenSpec.ofChange logEndsSpec)

/-- ITS FALSE NEIGHBOUR: 'it returns false'. Refute it at one input. -/
def logEndsWrong : ChangeSpec := { name := "logEnds", fn := fun _ => fun
  | [] => { results := [.lit (.bool false)], args := [] }
  | _ => none }
def LogEndsWrongFalsely : Prop := logEndsRow.holds Try.pinned (OpenSpec.ofChange logEndsWrong)

/-- 'watershedlaw10.LogTake': WHATEVER THE INPUT: true; the input reads as it did. -/
def logTakeSpec : ChangeSpec := { name := "logTake", fn := fun _ => fun
  | [d1, d2, d3, d4] => { results := [.lit (.bool true)], args := [d1, d2, d3, d4] }
  | _ => none }
def logTakeRow : OpenClaim := { program := "ytebhcadolnjplaa", sum := "c6dcc4f255127c637f2eae8fb3a40df8020b94214f27a72d3d8ed64ee3900fe4", func := "watershed/watershedlaw10.LogTake", spec := "logTake", unfollowed := true, recurses := true, apart := false }
def LogTakeSaid : Prop := logTakeRow.holds Try.pinned (OpenSpec.ofChange logTakeSpec)

/-- ITS FALSE NEIGHBOUR: 'it returns false'. Refute it at one input. -/
def logTakeWrong : ChangeSpec := { name := "logTake", fn := fun _ => fun
  | [d1, d2, d3, d4] => { results := [.lit (.bool false)], args := [d1, d2, d3, d4] }
  | _ => none }
def LogTakeWrongFalsely : Prop := logTakeRow.holds Try.pinned (OpenSpec.ofChange logTakeWrong)

/-- 'watershedlaw10.LogCompact': WHATEVER THE INPUT: true; the input reads as it did. -/
def logCompactSpec : ChangeSpec := { name := "logCompact", fn := fun _ => fun
  | [d1, d2, d3, d4] => { results := [.lit (.bool true)], args := [d1, d2, d3, d4] }
  | _ => none }
def logCompactRow : OpenClaim := { program := "ytebhcadolnjplaa", sum := "c6dcc4f255127c637f2eae8fb3a40df8020b94214f27a72d3d8ed64ee3900fe4", func := "watershed/watershedlaw10.LogCompact", spec := "logCompact", unfollowed := true, recurses := true, apart := false }
def LogCompactSaid : Prop := logCompactRow.holds Try.pinned (OpenSpec.ofChange logCompactSpec)

/-- ITS FALSE NEIGHBOUR: 'it returns false'. Refute it at one input. -/
def logCompactWrong : ChangeSpec := { name := "logCompact", fn := fun _ => fun
  | [d1, d2, d3, d4] => { results := [.lit (.bool false)], args := [d1, d2, d3, d4] }
  | _ => none }
def LogCompactWrongFalsely : Prop := logCompactRow.holds Try.pinned (OpenSpec.ofChange logCompactWrong)

/-- 'watershedlaw15.RowsBytes': WHATEVER THE INPUT: true; the input reads as it did. -/
def rowsBytesSpec : ChangeSpec := { name := "rowsBytes", fn := fun _ => fun
  | [d1, d2] => { results := [.lit (.bool true)], args := [d1, d2] }
  | _ => none }
def rowsBytesRow : OpenClaim := { program := "ytebhcadolnjplaa", sum := "c6dcc4f255127c637f2eae8fb3a40df8020b94214f27a72d3d8ed64ee3900fe4", func := "watershed/watershedlaw15.RowsBytes", spec := "rowsBytes", inPlace := ["internal/bytealg.abigen_runtime_cmpstring", "slices.overlaps[watershed/api.Row]"], unfollowed := true, recurses := true, apart := false }
def RowsBytesSaid : Prop := rowsBytesRow.holds Try.pinned (OpenSpec.ofChange rowsBytesSpec)

/-- ITS FALSE NEIGHBOUR: 'it returns false'. Refute it at one input. -/
def rowsBytesWrong : ChangeSpec := { name := "rowsBytes", fn := fun _ => fun
  | [d1, d2] => { results := [.lit (.bool false)], args := [d1, d2] }
  | _ => none }
def RowsBytesWrongFalsely : Prop := rowsBytesRow.holds Try.pinned (OpenSpec.ofChange rowsBytesWrong)

/-- 'watershedlaw15.RowsParts': WHATEVER THE INPUT: true; the input reads as it did. -/
def rowsPartsSpec : ChangeSpec := { name := "rowsParts", fn := fun _ => fun
  | [d1, d2, d3] => { results := [.lit (.bool true)], args := [d1, d2, d3] }
  | _ => none }
def rowsPartsRow : OpenClaim := { program := "ytebhcadolnjplaa", sum := "c6dcc4f255127c637f2eae8fb3a40df8020b94214f27a72d3d8ed64ee3900fe4", func := "watershed/watershedlaw15.RowsParts", spec := "rowsParts", inPlace := ["internal/bytealg.abigen_runtime_cmpstring", "slices.overlaps[watershed/api.Row]"], unfollowed := true, recurses := true, apart := false }
def RowsPartsSaid : Prop := rowsPartsRow.holds Try.pinned (OpenSpec.ofChange rowsPartsSpec)

/-- ITS FALSE NEIGHBOUR: 'it returns false'. Refute it at one input. -/
def rowsPartsWrong : ChangeSpec := { name := "rowsParts", fn := fun _ => fun
  | [d1, d2, d3] => { results := [.lit (.bool false)], args := [d1, d2, d3] }
  | _ => none }
def RowsPartsWrongFalsely : Prop := rowsPartsRow.holds Try.pinned (OpenSpec.ofChange rowsPartsWrong)

/-- 'watershedlaw15.RowsLast': WHATEVER THE INPUT: true; the input reads as it did. -/
def rowsLastSpec : ChangeSpec := { name := "rowsLast", fn := fun _ => fun
  | [d] => { results := [.lit (.bool true)], args := [d] }
  | _ => none }
def rowsLastRow : OpenClaim := { program := "ytebhcadolnjplaa", sum := "c6dcc4f255127c637f2eae8fb3a40df8020b94214f27a72d3d8ed64ee3900fe4", func := "watershed/watershedlaw15.RowsLast", spec := "rowsLast", inPlace := ["internal/bytealg.abigen_runtime_cmpstring", "slices.overlaps[watershed/api.Row]"], unfollowed := true, recurses := true, apart := false }
def RowsLastSaid : Prop := rowsLastRow.holds Try.pinned (OpenSpec.ofChange rowsLastSpec)

/-- ITS FALSE NEIGHBOUR: 'it returns false'. Refute it at one input. -/
def rowsLastWrong : ChangeSpec := { name := "rowsLast", fn := fun _ => fun
  | [d] => { results := [.lit (.bool false)], args := [d] }
  | _ => none }
def RowsLastWrongFalsely : Prop := rowsLastRow.holds Try.pinned (OpenSpec.ofChange rowsLastWrong)

/- THE SECOND FORM. 'bulk': how many values and letters a reading holds, each counted each time it is reached (what is shared counts as often as it is met; a slice's spare places count too). A statement '..UptoSaid' is the law's where the arguments, and the package variables that the reading takes, are together of bulk at most 1048576: NARROWER than '..Said'. Prove '..Said' where nothing that the law and all that it calls make is longer than what came in: it says more and counts as full. Else prove '..UptoSaid'. A law counts once. -/
mutual
def uptoBulk {H : Type} : DataW H → Nat
  | .lit (.string bytes) => bytes.length + 1
  | .lit _ => 1
  | .nil => 1
  | .ptr d => uptoBulk d + 1
  | .slice elems spare => uptoBulkAll elems + uptoBulkAll spare + 1
  | .agg parts => uptoBulkAll parts + 1
  | .iface _ d => uptoBulk d + 1
  | .map entries => uptoBulkEntries entries + 1
  | .held _ => 1
def uptoBulkAll {H : Type} : List (DataW H) → Nat
  | [] => 0
  | d :: r => uptoBulk d + uptoBulkAll r
def uptoBulkEntries {H : Type} : List (Lit × DataW H) → Nat
  | [] => 0
  | x :: r => uptoBulkEntry x + uptoBulkEntries r
def uptoBulkEntry {H : Type} : Lit × DataW H → Nat
  | (.string bytes, d) => bytes.length + uptoBulk d + 1
  | (_, d) => uptoBulk d + 1
 end
def uptoSmall : (H : Type) → List (DataW H) → Bool := fun _ ds => decide (uptoBulkAll ds ≤ 1048576)
def OpenSpec.upto (s : _root_.Go.ChangeSpec) : _root_.Go.OpenSpec := { _root_.Go.OpenSpec.ofChange s with cond := some uptoSmall }

/-- 'watershedlaw10.LogNil', WHERE WHAT IT READS IS OF BULK AT MOST 1048576: true; the input reads as it did. -/
def logNilUptoRow : OpenClaim := { program := "ytebhcadolnjplaa", sum := "c6dcc4f255127c637f2eae8fb3a40df8020b94214f27a72d3d8ed64ee3900fe4", func := "watershed/watershedlaw10.LogNil", spec := "logNil", unfollowed := true, recurses := true, apart := false, narrowed := true }
def LogNilUptoSaid : Prop := logNilUptoRow.holds Try.pinned (OpenSpec.upto logNilSpec)

/-- 'watershedlaw10.LogEnds', WHERE WHAT IT READS IS OF BULK AT MOST 1048576: true; the input reads as it did. -/
def logEndsUptoRow : OpenClaim := { program := "ytebhcadolnjplaa", sum := "c6dcc4f255127c637f2eae8fb3a40df8020b94214f27a72d3d8ed64ee3900fe4", func := "watershed/watershedlaw10.LogEnds", spec := "logEnds", unfollowed := true, recurses := true, apart := false, narrowed := true }
def LogEndsUptoSaid : Prop := logEndsUptoRow.holds Try.pinned (OpenSpec.upto logEndsSpec)

/-- 'watershedlaw10.LogTake', WHERE WHAT IT READS IS OF BULK AT MOST 1048576: true; the input reads as it did. -/
def logTakeUptoRow : OpenClaim := { program := "ytebhcadolnjplaa", sum := "c6dcc4f255127c637f2eae8fb3a40df8020b94214f27a72d3d8ed64ee3900fe4", func := "watershed/watershedlaw10.LogTake", spec := "logTake", unfollowed := true, recurses := true, apart := false, narrowed := true }
def LogTakeUptoSaid : Prop := logTakeUptoRow.holds Try.pinned (OpenSpec.upto logTakeSpec)

/-- 'watershedlaw10.LogCompact', WHERE WHAT IT READS IS OF BULK AT MOST 1048576: true; the input reads as it did. -/
def logCompactUptoRow : OpenClaim := { program := "ytebhcadolnjplaa", sum := "c6dcc4f255127c637f2eae8fb3a40df8020b94214f27a72d3d8ed64ee3900fe4", func := "watershed/watershedlaw10.LogCompact", spec := "logCompact", unfollowed := true, recurses := true, apart := false, narrowed := true }
def LogCompactUptoSaid : Prop := logCompactUptoRow.holds Try.pinned (OpenSpec.upto logCompactSpec)

/-- 'watershedlaw15.RowsBytes', WHERE WHAT IT READS IS OF BULK AT MOST 1048576: true; the input reads as it did. -/
def rowsBytesUptoRow : OpenClaim := { program := "ytebhcadolnjplaa", sum := "c6dcc4f255127c637f2eae8fb3a40df8020b94214f27a72d3d8ed64ee3900fe4", func := "watershed/watershedlaw15.RowsBytes", spec := "rowsBytes", inPlace := ["internal/bytealg.abigen_runtime_cmpstring", "slices.overlaps[watershed/api.Row]"], unfollowed := true, recurses := true, apart := false, narrowed := true }
def RowsBytesUptoSaid : Prop := rowsBytesUptoRow.holds Try.pinned (OpenSpec.upto rowsBytesSpec)

/-- 'watershedlaw15.RowsParts', WHERE WHAT IT READS IS OF BULK AT MOST 1048576: true; the input reads as it did. -/
def rowsPartsUptoRow : OpenClaim := { program := "ytebhcadolnjplaa", sum := "c6dcc4f255127c637f2eae8fb3a40df8020b94214f27a72d3d8ed64ee3900fe4", func := "watershed/watershedlaw15.RowsParts", spec := "rowsParts", inPlace := ["internal/bytealg.abigen_runtime_cmpstring", "slices.overlaps[watershed/api.Row]"], unfollowed := true, recurses := true, apart := false, narrowed := true }
def RowsPartsUptoSaid : Prop := rowsPartsUptoRow.holds Try.pinned (OpenSpec.upto rowsPartsSpec)

/-- 'watershedlaw15.RowsLast', WHERE WHAT IT READS IS OF BULK AT MOST 1048576: true; the input reads as it did. -/
def rowsLastUptoRow : OpenClaim := { program := "ytebhcadolnjplaa", sum := "c6dcc4f255127c637f2eae8fb3a40df8020b94214f27a72d3d8ed64ee3900fe4", func := "watershed/watershedlaw15.RowsLast", spec := "rowsLast", inPlace := ["internal/bytealg.abigen_runtime_cmpstring", "slices.overlaps[watershed/api.Row]"], unfollowed := true, recurses := true, apart := false, narrowed := true }
def RowsLastUptoSaid : Prop := rowsLastUptoRow.holds Try.pinned (OpenSpec.upto rowsLastSpec)

end Rows
end Go.Proofs.Ytebhcadolnjplaa
