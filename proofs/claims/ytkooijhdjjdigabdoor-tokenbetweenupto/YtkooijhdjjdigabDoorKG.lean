/- The document's Fold to small letters; its Bytes, of a blob. -/
import Derived.Test.YtkooijhdjjdigabDoorKF
namespace Go.Proofs.YtkooijhdjjdigabDoor
open Go.ChangeShapes Go.WideShapes Go.ChangeAt Go.RowKit
set_option linter.unusedVariables false
end Go.Proofs.YtkooijhdjjdigabDoor
