/- The document's keywords and names. -/
import Derived.Test.YtkooijhdjjdigabDoorKK
namespace Go.Proofs.YtkooijhdjjdigabDoor
open Go.ChangeShapes Go.WideShapes Go.ChangeAt Go.RowKit
set_option linter.unusedVariables false

/-- The keywords. -/
def kwTab : List (List UInt8) := [
  [65, 66, 79, 82, 84],
  [65, 68, 68],
  [65, 76, 76],
  [65, 76, 84, 69, 82],
  [65, 78, 68],
  [65, 83],
  [65, 83, 67],
  [66, 69, 71, 73, 78],
  [66, 69, 84, 87, 69, 69, 78],
  [66, 89],
  [67, 65, 83, 69],
  [67, 65, 83, 84],
  [67, 72, 69, 67, 75],
  [67, 79, 76, 76, 65, 84, 69],
  [67, 79, 76, 85, 77, 78],
  [67, 79, 77, 77, 73, 84],
  [67, 82, 69, 65, 84, 69],
  [67, 82, 79, 83, 83],
  [68, 69, 70, 65, 85, 76, 84],
  [68, 69, 70, 69, 82, 82, 69, 68],
  [68, 69, 76, 69, 84, 69],
  [68, 69, 83, 67],
  [68, 73, 83, 84, 73, 78, 67, 84],
  [68, 82, 79, 80],
  [69, 76, 83, 69],
  [69, 78, 68],
  [69, 88, 67, 69, 80, 84],
  [69, 88, 67, 76, 85, 83, 73, 86, 69],
  [69, 88, 73, 83, 84, 83],
  [70, 82, 79, 77],
  [71, 76, 79, 66],
  [71, 82, 79, 85, 80],
  [72, 65, 86, 73, 78, 71],
  [73, 70],
  [73, 71, 78, 79, 82, 69],
  [73, 77, 77, 69, 68, 73, 65, 84, 69],
  [73, 78],
  [73, 78, 68, 69, 88],
  [73, 78, 78, 69, 82],
  [73, 78, 83, 69, 82, 84],
  [73, 78, 84, 69, 82, 83, 69, 67, 84],
  [73, 78, 84, 79],
  [73, 83],
  [74, 79, 73, 78],
  [75, 69, 89],
  [76, 69, 70, 84],
  [76, 73, 75, 69],
  [76, 73, 77, 73, 84],
  [78, 79, 84],
  [78, 85, 76, 76],
  [79, 70, 70, 83, 69, 84],
  [79, 78],
  [79, 82],
  [79, 82, 68, 69, 82],
  [79, 85, 84, 69, 82],
  [80, 82, 73, 77, 65, 82, 89],
  [82, 69, 67, 85, 82, 83, 73, 86, 69],
  [82, 69, 76, 69, 65, 83, 69],
  [82, 69, 78, 65, 77, 69],
  [82, 69, 80, 76, 65, 67, 69],
  [82, 79, 76, 76, 66, 65, 67, 75],
  [83, 65, 86, 69, 80, 79, 73, 78, 84],
  [83, 69, 76, 69, 67, 84],
  [83, 69, 84],
  [84, 65, 66, 76, 69],
  [84, 72, 69, 78],
  [84, 79],
  [84, 82, 65, 78, 83, 65, 67, 84, 73, 79, 78],
  [85, 78, 73, 79, 78],
  [85, 78, 73, 81, 85, 69],
  [85, 80, 68, 65, 84, 69],
  [85, 83, 73, 78, 71],
  [86, 65, 76, 85, 69, 83],
  [86, 73, 69, 87],
  [87, 72, 69, 78],
  [87, 72, 69, 82, 69],
  [87, 73, 84, 72]]
/-- The keyword that a word is in any case. -/
def keyR (l : List UInt8) : Option (List UInt8) := kwTab.find? fun x => decide (x.map lowB = l.map lowB)
def keyV (o : Option (List UInt8)) : Value := match o with | some l => .tuple #[.string ⟨l.toArray⟩, .bool true] | none => .tuple #[.string ⟨#[]⟩, .bool false]
theorem own_cell {w : World} {base : Nat} {v : Value} {K : List (List UInt8)} (h : w.ownsRow base 9 1 v K.length (stL K)) : ∃ p c, v = .slice p K.length c ∧ (0 < K.length → ∃ g, p = some ⟨g, 0, none⟩ ∧ ∀ V, Below w.heap.size w V → ∀ i x, K[i]? = some x → V.cell? ⟨g, i, none⟩ = some (.string ⟨x.toArray⟩)) := by
  rcases h.2 with ⟨rfl, h0⟩ | ⟨g, cap, cur, rfl, hbg, hg, hnc, hcm, hcs, htake⟩
  · exact ⟨none, 0, by rw [h0], fun hh => by omega⟩
  · refine ⟨some ⟨g, 0, none⟩, cap, rfl, fun _ => ⟨g, rfl, fun V hV i x hx => ?_⟩⟩
    have hi := (List.getElem?_eq_some_iff.1 hx).1
    have h1 : V.heap[g]? = some (.cells cur 9 (0, 0)) := (hV.block g (Array.getElem?_eq_some_iff.1 hg).1).trans hg
    rw [cell_of_row V g i _ _ _ h1, ← Array.getElem?_toList]
    have h2 : (cur.toList.take (K.length * 1))[i]? = (stL K)[i]? := by rw [htake]
    rw [List.getElem?_take, if_pos (by omega)] at h2
    rw [h2, stL, List.getElem?_map, hx]
    rfl

/-- A name, as the document has it: at most 32 letters, digits and underscores, no digit first. -/
def nameB (l : List UInt8) : Bool := decide (l.length ≤ 32) && (l.head?.map letB).getD false && l.all fun c => letB c || digB c
end Go.Proofs.YtkooijhdjjdigabDoor
