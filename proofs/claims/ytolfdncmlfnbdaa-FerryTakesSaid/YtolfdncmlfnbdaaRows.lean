/-
  No cell of these rows narrows 'for every input' (looked for: loops, veiled, ifaces, maps, wideKeys, modest, calm, conditions, laid).
  DERIVED. THE GIVEN ROWS OF THIS SEAT. 8 by the template 'for every input the law returns true; each argument reads behind the call as it read before'; 0 by the template 'total and deterministic' (their statements: YtolfdncmlfnbdaaTotals.lean).
  GIVEN WITH THE SEED: the statements are not yours to turn. If you find one false, say at which input.
  Laid BY PROGRAM, IN A SANDBOX (cutbox-rows.mjs): the forced cells as the released guide's own fill.sh prints them over the translation 0dfadaab5b353d13… (all of the seat's roots in one cut). By AI agents, Wed Nov 11 2026. No macro, syntax, notation, axiom, sorry.
-/
import Derived.Test.YtolfdncmlfnbdaaChecked
import GoSem.Claim
import GoSem.ClaimJoined
import GoSem.ClaimMapViews
import Derived.JoinedTies
import Derived.KernelRfl
namespace Go.Proofs.Ytolfdncmlfnbdaa
/- THE CELL 'sum', in the pinned program and in every row, IS THE sha256 OF THE DUMP (.gsa) THAT YtolfdncmlfnbdaaProg.lean LOADS. Nothing in Lean hashes anything: it is a label: what it is worth is what the hold of that sum in a sandbox is worth. -/
noncomputable def Try.pinned : Pinned := { name := "ytolfdncmlfnbdaa", sum := "0dfadaab5b353d132d0ad594e261b990c3f5426f4aef06dccdc4979b30f4c8a2", checked := Try.checked }
namespace Rows
def none {H : Type} : Left H := { results := [], args := [] }

/-- 'watershedlaw02.WireWrites': WHATEVER THE INPUT: true; the input reads as it did. -/
def wireWritesSpec : ChangeSpec := { name := "wireWrites", fn := fun _ => fun
  | [d1, d2, d3, d4] => { results := [.lit (.bool true)], args := [d1, d2, d3, d4] }
  | _ => none }
def wireWritesRow : OpenClaim := { program := "ytolfdncmlfnbdaa", sum := "0dfadaab5b353d132d0ad594e261b990c3f5426f4aef06dccdc4979b30f4c8a2", func := "watershed/watershedlaw02.WireWrites", spec := "wireWrites", apart := false }
def WireWritesSaid : Prop := wireWritesRow.holds Try.pinned (OpenSpec.ofChange wireWritesSpec)

/-- ITS FALSE NEIGHBOUR: 'it returns false'. Refute it at one input. -/
def wireWritesWrong : ChangeSpec := { name := "wireWrites", fn := fun _ => fun
  | [d1, d2, d3, d4] => { results := [.lit (.bool false)], args := [d1, d2, d3, d4] }
  | _ => none }
def WireWritesWrongFalsely : Prop := wireWritesRow.holds Try.pinned (OpenSpec.ofChange wireWritesWrong)

/-- 'watershedlaw02.WireReads': WHATEVER THE INPUT: true; the input reads as it did. -/
def wireReadsSpec : ChangeSpec := { name := "wireReads", fn := fun _ => fun
  | [d1, d2] => { results := [.lit (.bool true)], args := [d1, d2] }
  | _ => none }
def wireReadsRow : OpenClaim := { program := "ytolfdncmlfnbdaa", sum := "0dfadaab5b353d132d0ad594e261b990c3f5426f4aef06dccdc4979b30f4c8a2", func := "watershed/watershedlaw02.WireReads", spec := "wireReads", apart := false }
def WireReadsSaid : Prop := wireReadsRow.holds Try.pinned (OpenSpec.ofChange wireReadsSpec)

/-- ITS FALSE NEIGHBOUR: 'it returns false'. Refute it at one input. -/
def wireReadsWrong : ChangeSpec := { name := "wireReads", fn := fun _ => fun
  | [d1, d2] => { results := [.lit (.bool false)], args := [d1, d2] }
  | _ => none }
def WireReadsWrongFalsely : Prop := wireReadsRow.holds Try.pinned (OpenSpec.ofChange wireReadsWrong)

/-- 'watershedlaw02.WireEnds': WHATEVER THE INPUT: true; the input reads as it did. -/
def wireEndsSpec : ChangeSpec := { name := "wireEnds", fn := fun _ => fun
  | [] => { results := [.lit (.bool true)], args := [] }
  | _ => none }
def wireEndsRow : OpenClaim := { program := "ytolfdncmlfnbdaa", sum := "0dfadaab5b353d132d0ad594e261b990c3f5426f4aef06dccdc4979b30f4c8a2", func := "watershed/watershedlaw02.WireEnds", spec := "wireEnds", apart := false }
def WireEndsSaid : Prop := wireEndsRow.holds Try.pinned (OpenSpec.ofChange wireEndsSpec)

/-- ITS FALSE NEIGHBOUR: 'it returns false'. Refute it at one input. -/
def wireEndsWrong : ChangeSpec := { name := "wireEnds", fn := fun _ => fun
  | [] => { results := [.lit (.bool false)], args := [] }
  | _ => none }
def WireEndsWrongFalsely : Prop := wireEndsRow.holds Try.pinned (OpenSpec.ofChange wireEndsWrong)

/-- 'watershedlaw06.QuorumTells': WHATEVER THE INPUT: true; the input reads as it did. -/
def quorumTellsSpec : ChangeSpec := { name := "quorumTells", fn := fun _ => fun
  | [d1, d2, d3] => { results := [.lit (.bool true)], args := [d1, d2, d3] }
  | _ => none }
def quorumTellsRow : OpenClaim := { program := "ytolfdncmlfnbdaa", sum := "0dfadaab5b353d132d0ad594e261b990c3f5426f4aef06dccdc4979b30f4c8a2", func := "watershed/watershedlaw06.QuorumTells", spec := "quorumTells", recurses := true, apart := false }
def QuorumTellsSaid : Prop := quorumTellsRow.holds Try.pinned (OpenSpec.ofChange quorumTellsSpec)

/-- ITS FALSE NEIGHBOUR: 'it returns false'. Refute it at one input. -/
def quorumTellsWrong : ChangeSpec := { name := "quorumTells", fn := fun _ => fun
  | [d1, d2, d3] => { results := [.lit (.bool false)], args := [d1, d2, d3] }
  | _ => none }
def QuorumTellsWrongFalsely : Prop := quorumTellsRow.holds Try.pinned (OpenSpec.ofChange quorumTellsWrong)

/-- 'watershedlaw06.QuorumAll': WHATEVER THE INPUT: true; the input reads as it did. -/
def quorumAllSpec : ChangeSpec := { name := "quorumAll", fn := fun _ => fun
  | [] => { results := [.lit (.bool true)], args := [] }
  | _ => none }
def quorumAllRow : OpenClaim := { program := "ytolfdncmlfnbdaa", sum := "0dfadaab5b353d132d0ad594e261b990c3f5426f4aef06dccdc4979b30f4c8a2", func := "watershed/watershedlaw06.QuorumAll", spec := "quorumAll", recurses := true, apart := false }
def QuorumAllSaid : Prop := quorumAllRow.holds Try.pinned (OpenSpec.ofChange quorumAllSpec)

/-- ITS FALSE NEIGHBOUR: 'it returns false'. Refute it at one input. -/
def quorumAllWrong : ChangeSpec := { name := "quorumAll", fn := fun _ => fun
  | [] => { results := [.lit (.bool false)], args := [] }
  | _ => none }
def QuorumAllWrongFalsely : Prop := quorumAllRow.holds Try.pinned (OpenSpec.ofChange quorumAllWrong)

/-- 'watershedlaw13.FerryTells': WHATEVER THE INPUT: true; the input reads as it did. -/
def ferryTellsSpec : ChangeSpec := { name := "ferryTells", fn := fun _ => fun
  | [d1, d2] => { results := [.lit (.bool true)], args := [d1, d2] }
  | _ => none }
def ferryTellsRow : OpenClaim := { program := "ytolfdncmlfnbdaa", sum := "0dfadaab5b353d132d0ad594e261b990c3f5426f4aef06dccdc4979b30f4c8a2", func := "watershed/watershedlaw13.FerryTells", spec := "ferryTells", apart := false }
def FerryTellsSaid : Prop := ferryTellsRow.holds Try.pinned (OpenSpec.ofChange ferryTellsSpec)

/-- ITS FALSE NEIGHBOUR: 'it returns false'. Refute it at one input. -/
def ferryTellsWrong : ChangeSpec := { name := "ferryTells", fn := fun _ => fun
  | [d1, d2] => { results := [.lit (.bool false)], args := [d1, d2] }
  | _ => none }
def FerryTellsWrongFalsely : Prop := ferryTellsRow.holds Try.pinned (OpenSpec.ofChange ferryTellsWrong)

/-- 'watershedlaw13.FerryTakes': WHATEVER THE INPUT: true; the input reads as it did. -/
def ferryTakesSpec : ChangeSpec := { name := "ferryTakes", fn := fun _ => fun
  | [d1, d2] => { results := [.lit (.bool true)], args := [d1, d2] }
  | _ => none }
def ferryTakesRow : OpenClaim := { program := "ytolfdncmlfnbdaa", sum := "0dfadaab5b353d132d0ad594e261b990c3f5426f4aef06dccdc4979b30f4c8a2", func := "watershed/watershedlaw13.FerryTakes", spec := "ferryTakes", apart := false }
def FerryTakesSaid : Prop := ferryTakesRow.holds Try.pinned (OpenSpec.ofChange ferryTakesSpec)

/-- ITS FALSE NEIGHBOUR: 'it returns false'. Refute it at one input. -/
def ferryTakesWrong : ChangeSpec := { name := "ferryTakes", fn := fun _ => fun
  | [d1, d2] => { results := [.lit (.bool false)], args := [d1, d2] }
  | _ => none }
def FerryTakesWrongFalsely : Prop := ferryTakesRow.holds Try.pinned (OpenSpec.ofChange ferryTakesWrong)

/-- 'watershedlaw13.FerryEnds': WHATEVER THE INPUT: true; the input reads as it did. -/
def ferryEndsSpec : ChangeSpec := { name := "ferryEnds", fn := fun _ => fun
  | [] => { results := [.lit (.bool true)], args := [] }
  | _ => none }
def ferryEndsRow : OpenClaim := { program := "ytolfdncmlfnbdaa", sum := "0dfadaab5b353d132d0ad594e261b990c3f5426f4aef06dccdc4979b30f4c8a2", func := "watershed/watershedlaw13.FerryEnds", spec := "ferryEnds", apart := false }
def FerryEndsSaid : Prop := ferryEndsRow.holds Try.pinned (OpenSpec.ofChange ferryEndsSpec)

/-- ITS FALSE NEIGHBOUR: 'it returns false'. Refute it at one input. -/
def ferryEndsWrong : ChangeSpec := { name := "ferryEnds", fn := fun _ => fun
  | [] => { results := [.lit (.bool false)], args := [] }
  | _ => none }
def FerryEndsWrongFalsely : Prop := ferryEndsRow.holds Try.pinned (OpenSpec.ofChange ferryEndsWrong)

/- THE SECOND FORM. 'bulk': how many values and letters a reading holds, each counted each time it is reached (what is shared counts as often as it is met; a slice's spare places count too). A statement '..UptoSaid' is the law's where the arguments, and the package variables that the reading takes, are together of bulk at most 1048576: NARROWER than '..Said'. Prove '..Said' where nothing that the law and all that it calls make is longer than what came in: it says more and counts as full. Else prove '..UptoSaid'. A law counts once. -/
mutual
def uptoBulk {H : Type} : DataW H → Nat
  | .lit (.string bytes) => bytes.length + 1
  | .lit _ => 1
  | .nil => 1
  | .ptr d => uptoBulk d + 1
  | .slice elems spare => uptoBulkAll elems + uptoBulkAll spare + 1
  | .agg parts => uptoBulkAll parts + 1
  | .iface _ d => uptoBulk d + 1
  | .map entries => uptoBulkEntries entries + 1
  | .held _ => 1
def uptoBulkAll {H : Type} : List (DataW H) → Nat
  | [] => 0
  | d :: r => uptoBulk d + uptoBulkAll r
def uptoBulkEntries {H : Type} : List (Lit × DataW H) → Nat
  | [] => 0
  | x :: r => uptoBulkEntry x + uptoBulkEntries r
def uptoBulkEntry {H : Type} : Lit × DataW H → Nat
  | (.string bytes, d) => bytes.length + uptoBulk d + 1
  | (_, d) => uptoBulk d + 1
 end
def uptoSmall : (H : Type) → List (DataW H) → Bool := fun _ ds => decide (uptoBulkAll ds ≤ 1048576)
def OpenSpec.upto (s : _root_.Go.ChangeSpec) : _root_.Go.OpenSpec := { _root_.Go.OpenSpec.ofChange s with cond := some uptoSmall }

/-- 'watershedlaw02.WireWrites', WHERE WHAT IT READS IS OF BULK AT MOST 1048576: true; the input reads as it did. -/
def wireWritesUptoRow : OpenClaim := { program := "ytolfdncmlfnbdaa", sum := "0dfadaab5b353d132d0ad594e261b990c3f5426f4aef06dccdc4979b30f4c8a2", func := "watershed/watershedlaw02.WireWrites", spec := "wireWrites", apart := false, narrowed := true }
def WireWritesUptoSaid : Prop := wireWritesUptoRow.holds Try.pinned (OpenSpec.upto wireWritesSpec)

/-- 'watershedlaw02.WireReads', WHERE WHAT IT READS IS OF BULK AT MOST 1048576: true; the input reads as it did. -/
def wireReadsUptoRow : OpenClaim := { program := "ytolfdncmlfnbdaa", sum := "0dfadaab5b353d132d0ad594e261b990c3f5426f4aef06dccdc4979b30f4c8a2", func := "watershed/watershedlaw02.WireReads", spec := "wireReads", apart := false, narrowed := true }
def WireReadsUptoSaid : Prop := wireReadsUptoRow.holds Try.pinned (OpenSpec.upto wireReadsSpec)

/-- 'watershedlaw02.WireEnds', WHERE WHAT IT READS IS OF BULK AT MOST 1048576: true; the input reads as it did. -/
def wireEndsUptoRow : OpenClaim := { program := "ytolfdncmlfnbdaa", sum := "0dfadaab5b353d132d0ad594e261b990c3f5426f4aef06dccdc4979b30f4c8a2", func := "watershed/watershedlaw02.WireEnds", spec := "wireEnds", apart := false, narrowed := true }
def WireEndsUptoSaid : Prop := wireEndsUptoRow.holds Try.pinned (OpenSpec.upto wireEndsSpec)

/-- 'watershedlaw06.QuorumTells', WHERE WHAT IT READS IS OF BULK AT MOST 1048576: true; the input reads as it did. -/
def quorumTellsUptoRow : OpenClaim := { program := "ytolfdncmlfnbdaa", sum := "0dfadaab5b353d132d0ad594e261b990c3f5426f4aef06dccdc4979b30f4c8a2", func := "watershed/watershedlaw06.QuorumTells", spec := "quorumTells", recurses := true, apart := false, narrowed := true }
def QuorumTellsUptoSaid : Prop := quorumTellsUptoRow.holds Try.pinned (OpenSpec.upto quorumTellsSpec)

/-- 'watershedlaw06.QuorumAll', WHERE WHAT IT READS IS OF BULK AT MOST 1048576: true; the input reads as it did. -/
def quorumAllUptoRow : OpenClaim := { program := "ytolfdncmlfnbdaa", sum := "0dfadaab5b353d132d0ad594e261b990c3f5426f4aef06dccdc4979b30f4c8a2", func := "watershed/watershedlaw06.QuorumAll", spec := "quorumAll", recurses := true, apart := false, narrowed := true }
def QuorumAllUptoSaid : Prop := quorumAllUptoRow.holds Try.pinned (OpenSpec.upto quorumAllSpec)

/-- 'watershedlaw13.FerryTells', WHERE WHAT IT READS IS OF BULK AT MOST 1048576: true; the input reads as it did. -/
def ferryTellsUptoRow : OpenClaim := { program := "ytolfdncmlfnbdaa", sum := "0dfadaab5b353d132d0ad594e261b990c3f5426f4aef06dccdc4979b30f4c8a2", func := "watershed/watershedlaw13.FerryTells", spec := "ferryTells", apart := false, narrowed := true }
def FerryTellsUptoSaid : Prop := ferryTellsUptoRow.holds Try.pinned (OpenSpec.upto ferryTellsSpec)

/-- 'watershedlaw13.FerryTakes', WHERE WHAT IT READS IS OF BULK AT MOST 1048576: true; the input reads as it did. -/
def ferryTakesUptoRow : OpenClaim := { program := "ytolfdncmlfnbdaa", sum := "0dfadaab5b353d132d0ad594e261b990c3f5426f4aef06dccdc4979b30f4c8a2", func := "watershed/watershedlaw13.FerryTakes", spec := "ferryTakes", apart := false, narrowed := true }
def FerryTakesUptoSaid : Prop := ferryTakesUptoRow.holds Try.pinned (OpenSpec.upto ferryTakesSpec)

/-- 'watershedlaw13.FerryEnds', WHERE WHAT IT READS IS OF BULK AT MOST 1048576: true; the input reads as it did. -/
def ferryEndsUptoRow : OpenClaim := { program := "ytolfdncmlfnbdaa", sum := "0dfadaab5b353d132d0ad594e261b990c3f5426f4aef06dccdc4979b30f4c8a2", func := "watershed/watershedlaw13.FerryEnds", spec := "ferryEnds", apart := false, narrowed := true }
def FerryEndsUptoSaid : Prop := ferryEndsUptoRow.holds Try.pinned (OpenSpec.upto ferryEndsSpec)

end Rows
end Go.Proofs.Ytolfdncmlfnbdaa
