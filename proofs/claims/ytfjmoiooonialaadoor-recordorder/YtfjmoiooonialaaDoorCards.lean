/-
  DERIVED. GIVEN WITH THE SEED: THE CARDS: each row of YtfjmoiooonialaaDoorRows.lean that lists a variable, with what it lists TIED to the program's text (the seventh form; the later family's looks); each row that meets fmt, with fmt's text TOLD by the authors' own Lean function (tested against real Go, not proved from fmt's source: count such statements apart). THE CARD IS WHAT COUNTS. Prove the row's statement (the work); the ties are given (YtfjmoiooonialaaDoorTie.lean); close each card by the builder's one call (the guide's Derived/Test/ToyasCard.lean, 'card_holds'). Laid BY PROGRAM, IN A SANDBOX (cutbox-door.mjs). By AI agents, Wed Nov 11 2026. No macro, syntax, notation, axiom, sorry.
-/
import Derived.Test.YtfjmoiooonialaaDoorRows
import GoSem.ClaimSeven
namespace Go.Proofs.YtfjmoiooonialaaDoor
namespace Rows

/-- THE TIED CARD OF 'bureaulaw04.RecordCmp'. -/
def recordCmpCard : Claim7 := { stood := { row := recordCmpRow, standIns := [], harness := (true, "b9d75408a9cb23a1b6ed085248fa3a880f3035615a9db9e726ef7b0134ee21e6"), looks := false }, kinds := [], alts := [], laidByText := true, laidKinds := [.data, .pinned], laidTests := true, laidLooks := .later }
def RecordCmpCardSaid : Prop := Claim7.holds Tryd.pinned (.plain (OpenSpec.ofChange recordCmpSpec)) recordCmpCard

/-- THE TIED CARD OF 'bureaulaw04.RecordOrder'. -/
def recordOrderCard : Claim7 := { stood := { row := recordOrderRow, standIns := [], harness := (true, "b9d75408a9cb23a1b6ed085248fa3a880f3035615a9db9e726ef7b0134ee21e6"), looks := false }, kinds := [], alts := [], laidByText := true, laidKinds := [.data, .pinned], laidTests := true, laidLooks := .later }
def RecordOrderCardSaid : Prop := Claim7.holds Tryd.pinned (.plain (OpenSpec.ofChange recordOrderSpec)) recordOrderCard

/-- THE SECOND FORM's CARD OF 'bureaulaw04.RecordCmp'. -/
def recordCmpUptoCard : Claim7 := { stood := { row := recordCmpUptoRow, standIns := [], harness := (true, "b9d75408a9cb23a1b6ed085248fa3a880f3035615a9db9e726ef7b0134ee21e6"), looks := false }, kinds := [], alts := [], laidByText := true, laidKinds := [.data, .pinned], laidTests := true, laidLooks := .later }
def RecordCmpUptoCardSaid : Prop := Claim7.holds Tryd.pinned (.plain (OpenSpec.upto recordCmpSpec)) recordCmpUptoCard

/-- THE SECOND FORM's CARD OF 'bureaulaw04.RecordOrder'. -/
def recordOrderUptoCard : Claim7 := { stood := { row := recordOrderUptoRow, standIns := [], harness := (true, "b9d75408a9cb23a1b6ed085248fa3a880f3035615a9db9e726ef7b0134ee21e6"), looks := false }, kinds := [], alts := [], laidByText := true, laidKinds := [.data, .pinned], laidTests := true, laidLooks := .later }
def RecordOrderUptoCardSaid : Prop := Claim7.holds Tryd.pinned (.plain (OpenSpec.upto recordOrderSpec)) recordOrderUptoCard
end Rows
end Go.Proofs.YtfjmoiooonialaaDoor
