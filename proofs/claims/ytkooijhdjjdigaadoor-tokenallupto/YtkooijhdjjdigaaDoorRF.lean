/- From a row to the walks: the library's variable. -/
import Derived.Test.YtkooijhdjjdigaaDoorCQ
import Derived.Test.YtkooijhdjjdigaaDoorCards
import Derived.Test.YtkooijhdjjdigaaDoorTie
import Derived.Deep.DeepHandedRow
import Derived.Lay
import Derived.SevenTiedAt
import Derived.Shelf.Vars
import Derived.ShutString
import Derived.SizedLaws
namespace Go.Proofs.YtkooijhdjjdigaaDoor
open Go.ChangeShapes Go.WideShapes Go.ChangeAt Go.RowKit
set_option linter.unusedVariables false

theorem own : ownKnob Tryd.prog.godebug = none := by kernel_rfl
theorem laidOut : laidOutB Tryd.prog = true := by kernel_rfl
theorem env_of {W : World} {p : Prop} (hL : p) (hsh : W.ShapedOpen Tryd.prog) : Env W :=
  Go.Proofs.cell_of_shapedOpen_int (zero := #[.int .i64 0]) (t := 3) hsh (of_decide_eq_true (by kernel_rfl)) (by kernel_rfl) rfl (by kernel_rfl) (by kernel_rfl) Tryd.underlying3
theorem code_scan (s : ByteArray) : ScanOk s := fun V hV => scan_e s V hV
end Go.Proofs.YtkooijhdjjdigaaDoor
