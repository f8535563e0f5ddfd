/- Rows of values in memory: the document's Check. -/
import Derived.Test.YtfjmoiooonialaaVM
import Derived.LoopN
namespace Go.Proofs.Ytfjmoiooonialaa
open Go.ChangeShapes Go.WideShapes Go.ChangeAt Go.RowKit
set_option linter.unusedVariables false

/-- A row of values, as it lies in memory. -/
abbrev RowAt (w : World) (b o len : Nat) (K N : Nat → Int) (T : Nat → ByteArray) : Prop :=
  ∀ i, i < len → w.cell? ⟨b, o + i * 3, none⟩ = some (.int .i64 (K i)) ∧ w.cell? ⟨b, o + i * 3 + 1, none⟩ = some (.int .i64 (N i)) ∧ w.cell? ⟨b, o + i * 3 + 2, none⟩ = some (.string (T i))

theorem RowAt.later {w w' : World} {b o len : Nat} {K N : Nat → Int} {T : Nat → ByteArray} (h : RowAt w b o len K N T) (hb : Below w.heap.size w w') : RowAt w' b o len K N T :=
  fun i hi => ⟨cell_later hb (h i hi).1, cell_later hb (h i hi).2.1, cell_later hb (h i hi).2.2⟩

end Go.Proofs.Ytfjmoiooonialaa
