/- The document's Words. -/
import Derived.Test.YtkooijhdjjdigabDoorKI
namespace Go.Proofs.YtkooijhdjjdigabDoor
open Go.ChangeShapes Go.WideShapes Go.ChangeAt Go.RowKit
set_option linter.unusedVariables false

/-- The words of a text, at its blanks, behind one that is begun. -/
def wrds : List UInt8 → List UInt8 → List (List UInt8)
  | cur, [] => if cur = [] then [] else [cur]
  | cur, c :: r => if c.toNat = 32 then (if cur = [] then wrds [] r else cur :: wrds [] r) else wrds (cur ++ [c]) r
def stL (l : List (List UInt8)) : List Value := l.map fun x => .string ⟨x.toArray⟩
theorem stL_append (l r : List (List UInt8)) : stL (l ++ r) = stL l ++ stL r := by simp [stL]
theorem stL_length (l : List (List UInt8)) : (stL l).length = l.length := by simp [stL]
end Go.Proofs.YtkooijhdjjdigabDoor
