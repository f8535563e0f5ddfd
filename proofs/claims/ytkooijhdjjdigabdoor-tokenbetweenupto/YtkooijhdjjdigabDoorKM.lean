/- The document's IsName, Name. -/
import Derived.Test.YtkooijhdjjdigabDoorKL
namespace Go.Proofs.YtkooijhdjjdigabDoor
open Go.ChangeShapes Go.WideShapes Go.ChangeAt Go.RowKit
set_option linter.unusedVariables false

theorem name_nil : nameB [] = false := by simp [nameB]
theorem name_cons (c : UInt8) (r : List UInt8) (h : letB c = true) (hl : (c :: r).length ≤ 32) : nameB (c :: r) = (c :: r).all fun c => letB c || digB c := by simp [nameB, h]; intro h1; simp at hl; omega
end Go.Proofs.YtkooijhdjjdigabDoor
