/-
  No cell of these rows narrows 'for every input' (looked for: loops, veiled, ifaces, maps, wideKeys, modest, calm, conditions, laid).
  DERIVED. THE GIVEN ROWS OF THIS SEAT. 4 by the template 'for every input the law returns true; each argument reads behind the call as it read before'; 0 by the template 'total and deterministic' (their statements: YthgclfhfipfknaaGreatTotals.lean).
  GIVEN WITH THE SEED: the statements are not yours to turn. If you find one false, say at which input.
  Laid BY PROGRAM, IN A SANDBOX (cutbox-rows.mjs): the forced cells as the released guide's own fill.sh prints them over the translation 17d579f598994afe… (all of the seat's roots in one cut). By AI agents, Wed Nov 11 2026. No macro, syntax, notation, axiom, sorry.
-/
import Derived.Test.YthgclfhfipfknaaGreatChecked
import GoSem.Claim
import GoSem.ClaimJoined
import GoSem.ClaimMapViews
import Derived.JoinedTies
import Derived.KernelRfl
namespace Go.Proofs.YthgclfhfipfknaaGreat
/- THE CELL 'sum', in the pinned program and in every row, IS THE sha256 OF THE DUMP (.gsa) THAT YthgclfhfipfknaaGreatProg.lean LOADS. Nothing in Lean hashes anything: it is a label: what it is worth is what the hold of that sum in a sandbox is worth. -/
noncomputable def Tryz.pinned : Pinned := { name := "ythgclfhfipfknaagreat", sum := "17d579f598994afed017e4a2d5fe6fb314133ec797d63300ead8a8873064de16", checked := Tryz.checked }
namespace Rows
def none {H : Type} : Left H := { results := [], args := [] }

/-- 'bureaulaw11.SpillPlays': WHATEVER THE INPUT: true; the input reads as it did. -/
def spillPlaysSpec : ChangeSpec := { name := "spillPlays", fn := fun _ => fun
  | [d] => { results := [.lit (.bool true)], args := [d] }
  | _ => none }
def spillPlaysRow : OpenClaim := { program := "ythgclfhfipfknaagreat", sum := "17d579f598994afed017e4a2d5fe6fb314133ec797d63300ead8a8873064de16", func := "bureau/bureaulaw11.SpillPlays", spec := "spillPlays", inPlace := ["maps.clone", "internal/abi.NoEscape"], unfollowed := true, recurses := true, apart := false }
def SpillPlaysSaid : Prop := spillPlaysRow.holds Tryz.pinned (OpenSpec.ofChange spillPlaysSpec)

/-- ITS FALSE NEIGHBOUR: 'it returns false'. Refute it at one input. -/
def spillPlaysWrong : ChangeSpec := { name := "spillPlays", fn := fun _ => fun
  | [d] => { results := [.lit (.bool false)], args := [d] }
  | _ => none }
def SpillPlaysWrongFalsely : Prop := spillPlaysRow.holds Tryz.pinned (OpenSpec.ofChange spillPlaysWrong)

/-- 'bureaulaw11.SpillBack': WHATEVER THE INPUT: true; the input reads as it did. -/
def spillBackSpec : ChangeSpec := { name := "spillBack", fn := fun _ => fun
  | [d] => { results := [.lit (.bool true)], args := [d] }
  | _ => none }
def spillBackRow : OpenClaim := { program := "ythgclfhfipfknaagreat", sum := "17d579f598994afed017e4a2d5fe6fb314133ec797d63300ead8a8873064de16", func := "bureau/bureaulaw11.SpillBack", spec := "spillBack", inPlace := ["maps.clone", "internal/abi.NoEscape"], unfollowed := true, recurses := true, apart := false }
def SpillBackSaid : Prop := spillBackRow.holds Tryz.pinned (OpenSpec.ofChange spillBackSpec)

/-- ITS FALSE NEIGHBOUR: 'it returns false'. Refute it at one input. -/
def spillBackWrong : ChangeSpec := { name := "spillBack", fn := fun _ => fun
  | [d] => { results := [.lit (.bool false)], args := [d] }
  | _ => none }
def SpillBackWrongFalsely : Prop := spillBackRow.holds Tryz.pinned (OpenSpec.ofChange spillBackWrong)

/-- 'bureaulaw11.SpillAny': WHATEVER THE INPUT: true; the input reads as it did. -/
def spillAnySpec : ChangeSpec := { name := "spillAny", fn := fun _ => fun
  | [d1, d2] => { results := [.lit (.bool true)], args := [d1, d2] }
  | _ => none }
def spillAnyRow : OpenClaim := { program := "ythgclfhfipfknaagreat", sum := "17d579f598994afed017e4a2d5fe6fb314133ec797d63300ead8a8873064de16", func := "bureau/bureaulaw11.SpillAny", spec := "spillAny", inPlace := ["maps.clone", "internal/abi.NoEscape"], unfollowed := true, recurses := true, apart := false }
def SpillAnySaid : Prop := spillAnyRow.holds Tryz.pinned (OpenSpec.ofChange spillAnySpec)

/-- ITS FALSE NEIGHBOUR: 'it returns false'. Refute it at one input. -/
def spillAnyWrong : ChangeSpec := { name := "spillAny", fn := fun _ => fun
  | [d1, d2] => { results := [.lit (.bool false)], args := [d1, d2] }
  | _ => none }
def SpillAnyWrongFalsely : Prop := spillAnyRow.holds Tryz.pinned (OpenSpec.ofChange spillAnyWrong)

/-- 'bureaulaw12.TreeRefuses': WHATEVER THE INPUT: true; the input reads as it did. -/
def treeRefusesSpec : ChangeSpec := { name := "treeRefuses", fn := fun _ => fun
  | [d1, d2, d3] => { results := [.lit (.bool true)], args := [d1, d2, d3] }
  | _ => none }
def treeRefusesRow : OpenClaim := { program := "ythgclfhfipfknaagreat", sum := "17d579f598994afed017e4a2d5fe6fb314133ec797d63300ead8a8873064de16", func := "bureau/bureaulaw12.TreeRefuses", spec := "treeRefuses", inPlace := ["maps.clone", "internal/abi.NoEscape", "slices.overlaps[bureau/tree.cell]"], unfollowed := true, recurses := true, apart := false }
def TreeRefusesSaid : Prop := treeRefusesRow.holds Tryz.pinned (OpenSpec.ofChange treeRefusesSpec)

/-- ITS FALSE NEIGHBOUR: 'it returns false'. Refute it at one input. -/
def treeRefusesWrong : ChangeSpec := { name := "treeRefuses", fn := fun _ => fun
  | [d1, d2, d3] => { results := [.lit (.bool false)], args := [d1, d2, d3] }
  | _ => none }
def TreeRefusesWrongFalsely : Prop := treeRefusesRow.holds Tryz.pinned (OpenSpec.ofChange treeRefusesWrong)

/- THE SECOND FORM. 'bulk': how many values and letters a reading holds, each counted each time it is reached (what is shared counts as often as it is met; a slice's spare places count too). A statement '..UptoSaid' is the law's where the arguments, and the package variables that the reading takes, are together of bulk at most 1048576: NARROWER than '..Said'. Prove '..Said' where nothing that the law and all that it calls make is longer than what came in: it says more and counts as full. Else prove '..UptoSaid'. A law counts once. -/
mutual
def uptoBulk {H : Type} : DataW H → Nat
  | .lit (.string bytes) => bytes.length + 1
  | .lit _ => 1
  | .nil => 1
  | .ptr d => uptoBulk d + 1
  | .slice elems spare => uptoBulkAll elems + uptoBulkAll spare + 1
  | .agg parts => uptoBulkAll parts + 1
  | .iface _ d => uptoBulk d + 1
  | .map entries => uptoBulkEntries entries + 1
  | .held _ => 1
def uptoBulkAll {H : Type} : List (DataW H) → Nat
  | [] => 0
  | d :: r => uptoBulk d + uptoBulkAll r
def uptoBulkEntries {H : Type} : List (Lit × DataW H) → Nat
  | [] => 0
  | x :: r => uptoBulkEntry x + uptoBulkEntries r
def uptoBulkEntry {H : Type} : Lit × DataW H → Nat
  | (.string bytes, d) => bytes.length + uptoBulk d + 1
  | (_, d) => uptoBulk d + 1
 end
def uptoSmall : (H : Type) → List (DataW H) → Bool := fun _ ds => decide (uptoBulkAll ds ≤ 1048576)
def OpenSpec.upto (s : _root_.Go.ChangeSpec) : _root_.Go.OpenSpec := { _root_.Go.OpenSpec.ofChange s with cond := some uptoSmall }

/-- 'bureaulaw11.SpillPlays', WHERE WHAT IT READS IS OF BULK AT MOST 1048576: true; the input reads as it did. -/
def spillPlaysUptoRow : OpenClaim := { program := "ythgclfhfipfknaagreat", sum := "17d579f598994afed017e4a2d5fe6fb314133ec797d63300ead8a8873064de16", func := "bureau/bureaulaw11.SpillPlays", spec := "spillPlays", inPlace := ["maps.clone", "internal/abi.NoEscape"], unfollowed := true, recurses := true, apart := false, narrowed := true }
def SpillPlaysUptoSaid : Prop := spillPlaysUptoRow.holds Tryz.pinned (OpenSpec.upto spillPlaysSpec)

/-- 'bureaulaw11.SpillBack', WHERE WHAT IT READS IS OF BULK AT MOST 1048576: true; the input reads as it did. -/
def spillBackUptoRow : OpenClaim := { program := "ythgclfhfipfknaagreat", sum := "17d579f598994afed017e4a2d5fe6fb314133ec797d63300ead8a8873064de16", func := "bureau/bureaulaw11.SpillBack", spec := "spillBack", inPlace := ["maps.clone", "internal/abi.NoEscape"], unfollowed := true, recurses := true, apart := false, narrowed := true }
def SpillBackUptoSaid : Prop := spillBackUptoRow.holds Tryz.pinned (OpenSpec.upto spillBackSpec)

/-- 'bureaulaw11.SpillAny', WHERE WHAT IT READS IS OF BULK AT MOST 1048576: true; the input reads as it did. -/
def spillAnyUptoRow : OpenClaim := { program := "ythgclfhfipfknaagreat", sum := "17d579f598994afed017e4a2d5fe6fb314133ec797d63300ead8a8873064de16", func := "bureau/bureaulaw11.SpillAny", spec := "spillAny", inPlace := ["maps.clone", "internal/abi.NoEscape"], unfollowed := true, recurses := true, apart := false, narrowed := true }
def SpillAnyUptoSaid : Prop := spillAnyUptoRow.holds Tryz.pinned (OpenSpec.upto spillAnySpec)

/-- 'bureaulaw12.TreeRefuses', WHERE WHAT IT READS IS OF BULK AT MOST 1048576: true; the input reads as it did. -/
def treeRefusesUptoRow : OpenClaim := { program := "ythgclfhfipfknaagreat", sum := "17d579f598994afed017e4a2d5fe6fb314133ec797d63300ead8a8873064de16", func := "bureau/bureaulaw12.TreeRefuses", spec := "treeRefuses", inPlace := ["maps.clone", "internal/abi.NoEscape", "slices.overlaps[bureau/tree.cell]"], unfollowed := true, recurses := true, apart := false, narrowed := true }
def TreeRefusesUptoSaid : Prop := treeRefusesUptoRow.holds Tryz.pinned (OpenSpec.upto treeRefusesSpec)

end Rows
end Go.Proofs.YthgclfhfipfknaaGreat
