/- The document's Scan. -/
import Derived.Test.YtkooijhdjjdigabDoorKI
namespace Go.Proofs.YtkooijhdjjdigabDoor
open Go.ChangeShapes Go.WideShapes Go.ChangeAt Go.RowKit
set_option linter.unusedVariables false

/-- What Scan answers: the tokens, a place, an error. -/
def scanR (l : List UInt8) : List Tk × Int × Int := if 2000 < l.length then ([], 0, 3) else if 0 ≤ (toksS l).2.2 then ([], (toksS l).2.2, 250) else ((toksS l).1, 0, 0)
end Go.Proofs.YtkooijhdjjdigabDoor
