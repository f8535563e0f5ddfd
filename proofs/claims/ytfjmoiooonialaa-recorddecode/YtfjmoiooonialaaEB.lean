/- Rows of any length. -/
import Derived.Test.YtfjmoiooonialaaXJ
import Derived.LoopN
namespace Go.Proofs.Ytfjmoiooonialaa
open Go.ChangeShapes Go.WideShapes Go.ChangeAt Go.RowKit
set_option linter.unusedVariables false

/-- Rows of any length. -/
def RowP (w : World) (p : Option Addr) (len : Nat) (K N : Nat → Int) (T : Nat → ByteArray) : Prop := 0 < len → ∃ b o, p = some ⟨b, o, none⟩ ∧ RowAt w b o len K N T
theorem RowP.later {w w' : World} {p : Option Addr} {len : Nat} {K N : Nat → Int} {T : Nat → ByteArray} (h : RowP w p len K N T) (hb : Below w.heap.size w w') : RowP w' p len K N T := fun h0 => let ⟨b, o, hp, hr⟩ := h h0; ⟨b, o, hp, hr.later hb⟩
end Go.Proofs.Ytfjmoiooonialaa
