/- The document's Letter, Digit, Blank, Lower, Pair. -/
import Derived.Test.YtkooijhdjjdigabDoorKA
namespace Go.Proofs.YtkooijhdjjdigabDoor
open Go.ChangeShapes Go.WideShapes Go.ChangeAt Go.RowKit
set_option linter.unusedVariables false

end Go.Proofs.YtkooijhdjjdigabDoor
