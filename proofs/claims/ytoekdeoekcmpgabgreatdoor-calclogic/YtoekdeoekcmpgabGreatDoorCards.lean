/-
  DERIVED. GIVEN WITH THE SEED: THE CARDS: each row of YtoekdeoekcmpgabGreatDoorRows.lean that lists a variable, with what it lists TIED to the program's text (the seventh form; the later family's looks); each row that meets fmt, with fmt's text TOLD by the authors' own Lean function (tested against real Go, not proved from fmt's source: count such statements apart). THE CARD IS WHAT COUNTS. Prove the row's statement (the work); the ties are given (YtoekdeoekcmpgabGreatDoorTie.lean); close each card by the builder's one call (the guide's Derived/Test/ToyasCard.lean, 'card_holds'). Laid BY PROGRAM, IN A SANDBOX (cutbox-door.mjs). By AI agents, Wed Nov 11 2026. No macro, syntax, notation, axiom, sorry.
-/
import Derived.Test.YtoekdeoekcmpgabGreatDoorRows
import GoSem.ClaimSeven
namespace Go.Proofs.YtoekdeoekcmpgabGreatDoor
namespace Rows

/-- THE TIED CARD OF 'bureaulaw03.CalcLogic'. -/
def calcLogicCard : Claim7 := { stood := { row := calcLogicRow, standIns := [], harness := (true, "a7cc6550b713e83c6df4030daa033503adfccd209396bba0b332a3f9acef3640"), looks := true }, kinds := [], alts := [], laidByText := true, laidKinds := [.data, .data, .data, .data, .sentinel, .sentinel, .pinned], laidTests := true, laidLooks := .later }
def CalcLogicCardSaid : Prop := Claim7.holds Tryz.pinned (.plain (OpenSpec.ofChange calcLogicSpec)) calcLogicCard

/-- THE TIED CARD OF 'bureaulaw03.CalcBack'. -/
def calcBackCard : Claim7 := { stood := { row := calcBackRow, standIns := [], harness := (true, "a7cc6550b713e83c6df4030daa033503adfccd209396bba0b332a3f9acef3640"), looks := true }, kinds := [], alts := [], laidByText := true, laidKinds := [.data, .data, .data, .data, .sentinel, .sentinel, .pinned], laidTests := true, laidLooks := .later }
def CalcBackCardSaid : Prop := Claim7.holds Tryz.pinned (.plain (OpenSpec.ofChange calcBackSpec)) calcBackCard

/-- THE SECOND FORM's CARD OF 'bureaulaw03.CalcLogic'. -/
def calcLogicUptoCard : Claim7 := { stood := { row := calcLogicUptoRow, standIns := [], harness := (true, "a7cc6550b713e83c6df4030daa033503adfccd209396bba0b332a3f9acef3640"), looks := true }, kinds := [], alts := [], laidByText := true, laidKinds := [.data, .data, .data, .data, .sentinel, .sentinel, .pinned], laidTests := true, laidLooks := .later }
def CalcLogicUptoCardSaid : Prop := Claim7.holds Tryz.pinned (.plain (OpenSpec.upto calcLogicSpec)) calcLogicUptoCard

/-- THE SECOND FORM's CARD OF 'bureaulaw03.CalcBack'. -/
def calcBackUptoCard : Claim7 := { stood := { row := calcBackUptoRow, standIns := [], harness := (true, "a7cc6550b713e83c6df4030daa033503adfccd209396bba0b332a3f9acef3640"), looks := true }, kinds := [], alts := [], laidByText := true, laidKinds := [.data, .data, .data, .data, .sentinel, .sentinel, .pinned], laidTests := true, laidLooks := .later }
def CalcBackUptoCardSaid : Prop := Claim7.holds Tryz.pinned (.plain (OpenSpec.upto calcBackSpec)) calcBackUptoCard
end Rows
end Go.Proofs.YtoekdeoekcmpgabGreatDoor
