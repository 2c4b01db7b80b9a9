/-
  DERIVED. GIVEN WITH THE SEED: THE CARDS: each row of YthbbbjkgfdnkhaaDoorRows.lean that lists a variable, with what it lists TIED to the program's text (the seventh form; the later family's looks); each row that meets fmt, with fmt's text TOLD by the authors' own Lean function (tested against real Go, not proved from fmt's source: count such statements apart). THE CARD IS WHAT COUNTS. Prove the row's statement (the work); the ties are given (YthbbbjkgfdnkhaaDoorTie.lean); close each card by the builder's one call (the guide's Derived/Test/ToyasCard.lean, 'card_holds'). Laid BY PROGRAM, IN A SANDBOX (cutbox-door.mjs). By AI agents, Wed Nov 11 2026. No macro, syntax, notation, axiom, sorry.
-/
import Derived.Test.YthbbbjkgfdnkhaaDoorRows
import GoSem.ClaimSeven
namespace Go.Proofs.YthbbbjkgfdnkhaaDoor
namespace Rows

/-- THE TIED CARD OF 'watershedlaw14.ActTells'. -/
def actTellsCard : Claim7 := { stood := { row := actTellsRow, standIns := [], harness := (true, "c60da069d5d77187e93a662ab88e939a5124abd7a56eb44d0ab4451dadd5f14e"), looks := false }, kinds := [], alts := [], laidByText := true, laidKinds := [.data, .data, .data], laidTests := true, laidLooks := .later }
def ActTellsCardSaid : Prop := Claim7.holds Tryd.pinned (.plain (OpenSpec.ofChange actTellsSpec)) actTellsCard

/-- THE TIED CARD OF 'watershedlaw14.ActValues'. -/
def actValuesCard : Claim7 := { stood := { row := actValuesRow, standIns := [], harness := (true, "c60da069d5d77187e93a662ab88e939a5124abd7a56eb44d0ab4451dadd5f14e"), looks := false }, kinds := [], alts := [], laidByText := true, laidKinds := [.data, .data, .data], laidTests := true, laidLooks := .later }
def ActValuesCardSaid : Prop := Claim7.holds Tryd.pinned (.plain (OpenSpec.ofChange actValuesSpec)) actValuesCard

/-- THE TIED CARD OF 'watershedlaw14.ActEnds'. -/
def actEndsCard : Claim7 := { stood := { row := actEndsRow, standIns := [], harness := (true, "c60da069d5d77187e93a662ab88e939a5124abd7a56eb44d0ab4451dadd5f14e"), looks := false }, kinds := [], alts := [], laidByText := true, laidKinds := [.data, .data, .data], laidTests := true, laidLooks := .later }
def ActEndsCardSaid : Prop := Claim7.holds Tryd.pinned (.plain (OpenSpec.ofChange actEndsSpec)) actEndsCard

/-- THE TIED CARD OF 'watershedlaw14.ActParts'. -/
def actPartsCard : Claim7 := { stood := { row := actPartsRow, standIns := [], harness := (true, "c60da069d5d77187e93a662ab88e939a5124abd7a56eb44d0ab4451dadd5f14e"), looks := false }, kinds := [], alts := [], laidByText := true, laidKinds := [.data, .data, .data], laidTests := true, laidLooks := .later }
def ActPartsCardSaid : Prop := Claim7.holds Tryd.pinned (.plain (OpenSpec.ofChange actPartsSpec)) actPartsCard

/-- THE TIED CARD OF 'watershedlaw14.ActRound'. -/
def actRoundCard : Claim7 := { stood := { row := actRoundRow, standIns := [], harness := (true, "c60da069d5d77187e93a662ab88e939a5124abd7a56eb44d0ab4451dadd5f14e"), looks := false }, kinds := [], alts := [], laidByText := true, laidKinds := [.data, .data, .data], laidTests := true, laidLooks := .later }
def ActRoundCardSaid : Prop := Claim7.holds Tryd.pinned (.plain (OpenSpec.ofChange actRoundSpec)) actRoundCard

/-- THE SECOND FORM's CARD OF 'watershedlaw14.ActTells'. -/
def actTellsUptoCard : Claim7 := { stood := { row := actTellsUptoRow, standIns := [], harness := (true, "c60da069d5d77187e93a662ab88e939a5124abd7a56eb44d0ab4451dadd5f14e"), looks := false }, kinds := [], alts := [], laidByText := true, laidKinds := [.data, .data, .data], laidTests := true, laidLooks := .later }
def ActTellsUptoCardSaid : Prop := Claim7.holds Tryd.pinned (.plain (OpenSpec.upto actTellsSpec)) actTellsUptoCard

/-- THE SECOND FORM's CARD OF 'watershedlaw14.ActValues'. -/
def actValuesUptoCard : Claim7 := { stood := { row := actValuesUptoRow, standIns := [], harness := (true, "c60da069d5d77187e93a662ab88e939a5124abd7a56eb44d0ab4451dadd5f14e"), looks := false }, kinds := [], alts := [], laidByText := true, laidKinds := [.data, .data, .data], laidTests := true, laidLooks := .later }
def ActValuesUptoCardSaid : Prop := Claim7.holds Tryd.pinned (.plain (OpenSpec.upto actValuesSpec)) actValuesUptoCard

/-- THE SECOND FORM's CARD OF 'watershedlaw14.ActEnds'. -/
def actEndsUptoCard : Claim7 := { stood := { row := actEndsUptoRow, standIns := [], harness := (true, "c60da069d5d77187e93a662ab88e939a5124abd7a56eb44d0ab4451dadd5f14e"), looks := false }, kinds := [], alts := [], laidByText := true, laidKinds := [.data, .data, .data], laidTests := true, laidLooks := .later }
def ActEndsUptoCardSaid : Prop := Claim7.holds Tryd.pinned (.plain (OpenSpec.upto actEndsSpec)) actEndsUptoCard

/-- THE SECOND FORM's CARD OF 'watershedlaw14.ActParts'. -/
def actPartsUptoCard : Claim7 := { stood := { row := actPartsUptoRow, standIns := [], harness := (true, "c60da069d5d77187e93a662ab88e939a5124abd7a56eb44d0ab4451dadd5f14e"), looks := false }, kinds := [], alts := [], laidByText := true, laidKinds := [.data, .data, .data], laidTests := true, laidLooks := .later }
def ActPartsUptoCardSaid : Prop := Claim7.holds Tryd.pinned (.plain (OpenSpec.upto actPartsSpec)) actPartsUptoCard

/-- THE SECOND FORM's CARD OF 'watershedlaw14.ActRound'. -/
def actRoundUptoCard : Claim7 := { stood := { row := actRoundUptoRow, standIns := [], harness := (true, "c60da069d5d77187e93a662ab88e939a5124abd7a56eb44d0ab4451dadd5f14e"), looks := false }, kinds := [], alts := [], laidByText := true, laidKinds := [.data, .data, .data], laidTests := true, laidLooks := .later }
def ActRoundUptoCardSaid : Prop := Claim7.holds Tryd.pinned (.plain (OpenSpec.upto actRoundSpec)) actRoundUptoCard
end Rows
end Go.Proofs.YthbbbjkgfdnkhaaDoor
