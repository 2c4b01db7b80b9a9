/-
  No cell of these rows narrows 'for every input' (looked for: loops, veiled, ifaces, maps, wideKeys, modest, calm, conditions, laid).
  DERIVED. THE GIVEN ROWS OF THIS SEAT. 7 by the template 'for every input the law returns true; each argument reads behind the call as it read before'; 0 by the template 'total and deterministic' (their statements: YtnjaiiifafbbjaaTotals.lean).
  GIVEN WITH THE SEED: the statements are not yours to turn. If you find one false, say at which input.
  Laid BY PROGRAM, IN A SANDBOX (cutbox-rows.mjs): the forced cells as the released guide's own fill.sh prints them over the translation 83ed51cd65317d51… (all of the seat's roots in one cut). By AI agents, Wed Nov 11 2026. No macro, syntax, notation, axiom, sorry.
-/
import Derived.Test.YtnjaiiifafbbjaaChecked
import GoSem.Claim
import GoSem.ClaimJoined
import GoSem.ClaimMapViews
import Derived.JoinedTies
import Derived.KernelRfl
namespace Go.Proofs.Ytnjaiiifafbbjaa
/- THE CELL 'sum', in the pinned program and in every row, IS THE sha256 OF THE DUMP (.gsa) THAT YtnjaiiifafbbjaaProg.lean LOADS. Nothing in Lean hashes anything: it is a label: what it is worth is what the hold of that sum in a sandbox is worth. -/
noncomputable def Try.pinned : Pinned := { name := "ytnjaiiifafbbjaa", sum := "83ed51cd65317d5182a171e5737f438678902932f59e662d9304bfa5ffff9406", checked := Try.checked }
namespace Rows
def none {H : Type} : Left H := { results := [], args := [] }

/-- 'watershedlaw07.DiskAppends': WHATEVER THE INPUT: true; the input reads as it did. -/
def diskAppendsSpec : ChangeSpec := { name := "diskAppends", fn := fun _ => fun
  | [d1, d2, d3] => { results := [.lit (.bool true)], args := [d1, d2, d3] }
  | _ => none }
def diskAppendsRow : OpenClaim := { program := "ytnjaiiifafbbjaa", sum := "83ed51cd65317d5182a171e5737f438678902932f59e662d9304bfa5ffff9406", func := "watershed/watershedlaw07.DiskAppends", spec := "diskAppends", unfollowed := true, recurses := true, apart := false }
def DiskAppendsSaid : Prop := diskAppendsRow.holds Try.pinned (OpenSpec.ofChange diskAppendsSpec)

/-- ITS FALSE NEIGHBOUR: 'it returns false'. Refute it at one input. -/
def diskAppendsWrong : ChangeSpec := { name := "diskAppends", fn := fun _ => fun
  | [d1, d2, d3] => { results := [.lit (.bool false)], args := [d1, d2, d3] }
  | _ => none }
def DiskAppendsWrongFalsely : Prop := diskAppendsRow.holds Try.pinned (OpenSpec.ofChange diskAppendsWrong)

/-- 'watershedlaw10.LogTake': WHATEVER THE INPUT: true; the input reads as it did. -/
def logTakeSpec : ChangeSpec := { name := "logTake", fn := fun _ => fun
  | [d1, d2, d3, d4] => { results := [.lit (.bool true)], args := [d1, d2, d3, d4] }
  | _ => none }
def logTakeRow : OpenClaim := { program := "ytnjaiiifafbbjaa", sum := "83ed51cd65317d5182a171e5737f438678902932f59e662d9304bfa5ffff9406", func := "watershed/watershedlaw10.LogTake", spec := "logTake", unfollowed := true, recurses := true, apart := false }
def LogTakeSaid : Prop := logTakeRow.holds Try.pinned (OpenSpec.ofChange logTakeSpec)

/-- ITS FALSE NEIGHBOUR: 'it returns false'. Refute it at one input. -/
def logTakeWrong : ChangeSpec := { name := "logTake", fn := fun _ => fun
  | [d1, d2, d3, d4] => { results := [.lit (.bool false)], args := [d1, d2, d3, d4] }
  | _ => none }
def LogTakeWrongFalsely : Prop := logTakeRow.holds Try.pinned (OpenSpec.ofChange logTakeWrong)

/-- 'watershedlaw10.LogCompact': WHATEVER THE INPUT: true; the input reads as it did. -/
def logCompactSpec : ChangeSpec := { name := "logCompact", fn := fun _ => fun
  | [d1, d2, d3, d4] => { results := [.lit (.bool true)], args := [d1, d2, d3, d4] }
  | _ => none }
def logCompactRow : OpenClaim := { program := "ytnjaiiifafbbjaa", sum := "83ed51cd65317d5182a171e5737f438678902932f59e662d9304bfa5ffff9406", func := "watershed/watershedlaw10.LogCompact", spec := "logCompact", unfollowed := true, recurses := true, apart := false }
def LogCompactSaid : Prop := logCompactRow.holds Try.pinned (OpenSpec.ofChange logCompactSpec)

/-- ITS FALSE NEIGHBOUR: 'it returns false'. Refute it at one input. -/
def logCompactWrong : ChangeSpec := { name := "logCompact", fn := fun _ => fun
  | [d1, d2, d3, d4] => { results := [.lit (.bool false)], args := [d1, d2, d3, d4] }
  | _ => none }
def LogCompactWrongFalsely : Prop := logCompactRow.holds Try.pinned (OpenSpec.ofChange logCompactWrong)

/-- 'watershedlaw13.FerryCrosses': WHATEVER THE INPUT: true; the input reads as it did. -/
def ferryCrossesSpec : ChangeSpec := { name := "ferryCrosses", fn := fun _ => fun
  | [d1, d2, d3] => { results := [.lit (.bool true)], args := [d1, d2, d3] }
  | _ => none }
def ferryCrossesRow : OpenClaim := { program := "ytnjaiiifafbbjaa", sum := "83ed51cd65317d5182a171e5737f438678902932f59e662d9304bfa5ffff9406", func := "watershed/watershedlaw13.FerryCrosses", spec := "ferryCrosses", apart := false }
def FerryCrossesSaid : Prop := ferryCrossesRow.holds Try.pinned (OpenSpec.ofChange ferryCrossesSpec)

/-- ITS FALSE NEIGHBOUR: 'it returns false'. Refute it at one input. -/
def ferryCrossesWrong : ChangeSpec := { name := "ferryCrosses", fn := fun _ => fun
  | [d1, d2, d3] => { results := [.lit (.bool false)], args := [d1, d2, d3] }
  | _ => none }
def FerryCrossesWrongFalsely : Prop := ferryCrossesRow.holds Try.pinned (OpenSpec.ofChange ferryCrossesWrong)

/-- 'watershedlaw17.PastRuns': WHATEVER THE INPUT: true; the input reads as it did. -/
def pastRunsSpec : ChangeSpec := { name := "pastRuns", fn := fun _ => fun
  | [d1, d2] => { results := [.lit (.bool true)], args := [d1, d2] }
  | _ => none }
def pastRunsRow : OpenClaim := { program := "ytnjaiiifafbbjaa", sum := "83ed51cd65317d5182a171e5737f438678902932f59e662d9304bfa5ffff9406", func := "watershed/watershedlaw17.PastRuns", spec := "pastRuns", unfollowed := true, recurses := true, apart := false }
def PastRunsSaid : Prop := pastRunsRow.holds Try.pinned (OpenSpec.ofChange pastRunsSpec)

/-- ITS FALSE NEIGHBOUR: 'it returns false'. Refute it at one input. -/
def pastRunsWrong : ChangeSpec := { name := "pastRuns", fn := fun _ => fun
  | [d1, d2] => { results := [.lit (.bool false)], args := [d1, d2] }
  | _ => none }
def PastRunsWrongFalsely : Prop := pastRunsRow.holds Try.pinned (OpenSpec.ofChange pastRunsWrong)

/-- 'watershedlaw17.PastReads': WHATEVER THE INPUT: true; the input reads as it did. -/
def pastReadsSpec : ChangeSpec := { name := "pastReads", fn := fun _ => fun
  | [d] => { results := [.lit (.bool true)], args := [d] }
  | _ => none }
def pastReadsRow : OpenClaim := { program := "ytnjaiiifafbbjaa", sum := "83ed51cd65317d5182a171e5737f438678902932f59e662d9304bfa5ffff9406", func := "watershed/watershedlaw17.PastReads", spec := "pastReads", unfollowed := true, recurses := true, apart := false }
def PastReadsSaid : Prop := pastReadsRow.holds Try.pinned (OpenSpec.ofChange pastReadsSpec)

/-- ITS FALSE NEIGHBOUR: 'it returns false'. Refute it at one input. -/
def pastReadsWrong : ChangeSpec := { name := "pastReads", fn := fun _ => fun
  | [d] => { results := [.lit (.bool false)], args := [d] }
  | _ => none }
def PastReadsWrongFalsely : Prop := pastReadsRow.holds Try.pinned (OpenSpec.ofChange pastReadsWrong)

/-- 'watershedlaw17.PastGrows': WHATEVER THE INPUT: true; the input reads as it did. -/
def pastGrowsSpec : ChangeSpec := { name := "pastGrows", fn := fun _ => fun
  | [d1, d2, d3] => { results := [.lit (.bool true)], args := [d1, d2, d3] }
  | _ => none }
def pastGrowsRow : OpenClaim := { program := "ytnjaiiifafbbjaa", sum := "83ed51cd65317d5182a171e5737f438678902932f59e662d9304bfa5ffff9406", func := "watershed/watershedlaw17.PastGrows", spec := "pastGrows", unfollowed := true, recurses := true, apart := false }
def PastGrowsSaid : Prop := pastGrowsRow.holds Try.pinned (OpenSpec.ofChange pastGrowsSpec)

/-- ITS FALSE NEIGHBOUR: 'it returns false'. Refute it at one input. -/
def pastGrowsWrong : ChangeSpec := { name := "pastGrows", fn := fun _ => fun
  | [d1, d2, d3] => { results := [.lit (.bool false)], args := [d1, d2, d3] }
  | _ => none }
def PastGrowsWrongFalsely : Prop := pastGrowsRow.holds Try.pinned (OpenSpec.ofChange pastGrowsWrong)

/- THE SECOND FORM. 'bulk': how many values and letters a reading holds, each counted each time it is reached (what is shared counts as often as it is met; a slice's spare places count too). A statement '..UptoSaid' is the law's where the arguments, and the package variables that the reading takes, are together of bulk at most 1048576: NARROWER than '..Said'. Prove '..Said' where nothing that the law and all that it calls make is longer than what came in: it says more and counts as full. Else prove '..UptoSaid'. A law counts once. -/
mutual
def uptoBulk {H : Type} : DataW H → Nat
  | .lit (.string bytes) => bytes.length + 1
  | .lit _ => 1
  | .nil => 1
  | .ptr d => uptoBulk d + 1
  | .slice elems spare => uptoBulkAll elems + uptoBulkAll spare + 1
  | .agg parts => uptoBulkAll parts + 1
  | .iface _ d => uptoBulk d + 1
  | .map entries => uptoBulkEntries entries + 1
  | .held _ => 1
def uptoBulkAll {H : Type} : List (DataW H) → Nat
  | [] => 0
  | d :: r => uptoBulk d + uptoBulkAll r
def uptoBulkEntries {H : Type} : List (Lit × DataW H) → Nat
  | [] => 0
  | x :: r => uptoBulkEntry x + uptoBulkEntries r
def uptoBulkEntry {H : Type} : Lit × DataW H → Nat
  | (.string bytes, d) => bytes.length + uptoBulk d + 1
  | (_, d) => uptoBulk d + 1
 end
def uptoSmall : (H : Type) → List (DataW H) → Bool := fun _ ds => decide (uptoBulkAll ds ≤ 1048576)
def OpenSpec.upto (s : _root_.Go.ChangeSpec) : _root_.Go.OpenSpec := { _root_.Go.OpenSpec.ofChange s with cond := some uptoSmall }

/-- 'watershedlaw07.DiskAppends', WHERE WHAT IT READS IS OF BULK AT MOST 1048576: true; the input reads as it did. -/
def diskAppendsUptoRow : OpenClaim := { program := "ytnjaiiifafbbjaa", sum := "83ed51cd65317d5182a171e5737f438678902932f59e662d9304bfa5ffff9406", func := "watershed/watershedlaw07.DiskAppends", spec := "diskAppends", unfollowed := true, recurses := true, apart := false, narrowed := true }
def DiskAppendsUptoSaid : Prop := diskAppendsUptoRow.holds Try.pinned (OpenSpec.upto diskAppendsSpec)

/-- 'watershedlaw10.LogTake', WHERE WHAT IT READS IS OF BULK AT MOST 1048576: true; the input reads as it did. -/
def logTakeUptoRow : OpenClaim := { program := "ytnjaiiifafbbjaa", sum := "83ed51cd65317d5182a171e5737f438678902932f59e662d9304bfa5ffff9406", func := "watershed/watershedlaw10.LogTake", spec := "logTake", unfollowed := true, recurses := true, apart := false, narrowed := true }
def LogTakeUptoSaid : Prop := logTakeUptoRow.holds Try.pinned (OpenSpec.upto logTakeSpec)

/-- 'watershedlaw10.LogCompact', WHERE WHAT IT READS IS OF BULK AT MOST 1048576: true; the input reads as it did. -/
def logCompactUptoRow : OpenClaim := { program := "ytnjaiiifafbbjaa", sum := "83ed51cd65317d5182a171e5737f438678902932f59e662d9304bfa5ffff9406", func := "watershed/watershedlaw10.LogCompact", spec := "logCompact", unfollowed := true, recurses := true, apart := false, narrowed := true }
def LogCompactUptoSaid : Prop := logCompactUptoRow.holds Try.pinned (OpenSpec.upto logCompactSpec)

/-- 'watershedlaw13.FerryCrosses', WHERE WHAT IT READS IS OF BULK AT MOST 1048576: true; the input reads as it did. -/
def ferryCrossesUptoRow : OpenClaim := { program := "ytnjaiiifafbbjaa", sum := "83ed51cd65317d5182a171e5737f438678902932f59e662d9304bfa5ffff9406", func := "watershed/watershedlaw13.FerryCrosses", spec := "ferryCrosses", apart := false, narrowed := true }
def FerryCrossesUptoSaid : Prop := ferryCrossesUptoRow.holds Try.pinned (OpenSpec.upto ferryCrossesSpec)

/-- 'watershedlaw17.PastRuns', WHERE WHAT IT READS IS OF BULK AT MOST 1048576: true; the input reads as it did. -/
def pastRunsUptoRow : OpenClaim := { program := "ytnjaiiifafbbjaa", sum := "83ed51cd65317d5182a171e5737f438678902932f59e662d9304bfa5ffff9406", func := "watershed/watershedlaw17.PastRuns", spec := "pastRuns", unfollowed := true, recurses := true, apart := false, narrowed := true }
def PastRunsUptoSaid : Prop := pastRunsUptoRow.holds Try.pinned (OpenSpec.upto pastRunsSpec)

/-- 'watershedlaw17.PastReads', WHERE WHAT IT READS IS OF BULK AT MOST 1048576: true; the input reads as it did. -/
def pastReadsUptoRow : OpenClaim := { program := "ytnjaiiifafbbjaa", sum := "83ed51cd65317d5182a171e5737f438678902932f59e662d9304bfa5ffff9406", func := "watershed/watershedlaw17.PastReads", spec := "pastReads", unfollowed := true, recurses := true, apart := false, narrowed := true }
def PastReadsUptoSaid : Prop := pastReadsUptoRow.holds Try.pinned (OpenSpec.upto pastReadsSpec)

/-- 'watershedlaw17.PastGrows', WHERE WHAT IT READS IS OF BULK AT MOST 1048576: true; the input reads as it did. -/
def pastGrowsUptoRow : OpenClaim := { program := "ytnjaiiifafbbjaa", sum := "83ed51cd65317d5182a171e5737f438678902932f59e662d9304bfa5ffff9406", func := "watershed/watershedlaw17.PastGrows", spec := "pastGrows", unfollowed := true, recurses := true, apart := false, narrowed := true }
def PastGrowsUptoSaid : Prop := pastGrowsUptoRow.holds Try.pinned (OpenSpec.upto pastGrowsSpec)

end Rows
end Go.Proofs.Ytnjaiiifafbbjaa
