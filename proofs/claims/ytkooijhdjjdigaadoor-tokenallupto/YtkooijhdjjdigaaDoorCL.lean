/- The tokens that are gone over: plainly; the program's own walk over them. -/
import Derived.Test.YtkooijhdjjdigaaDoorCK
import Derived.LoopIn
import Derived.RangeFuncBox
import Derived.Maps.AppendAt
import Derived.Maps.OwnIn
namespace Go.Proofs.YtkooijhdjjdigaaDoor
open Go.ChangeShapes Go.WideShapes Go.ChangeAt Go.RowKit Go.Shelf
set_option linter.unusedVariables false
attribute [local go_sem] Oper.semAt_some

theorem grown_of_below {A B : World} (h : Below A.heap.size A B) : A.grownBy B none := ⟨h.os, h.tape, h.output, h.size, fun k hk _ => h.block k hk⟩
/-- The tokens that walk goes over from a place on, each with the place behind it; at last the one that is none. -/
def wkl : Nat → List UInt8 → Nat → List (Tk × Nat)
  | 0, _, _ => []
  | f + 1, l, a => if l = [] then [] else match tok l with
    | none => [(⟨0, a, []⟩, a)]
    | some (n, k) => (⟨k, a, tokT (l.take n) k⟩, a + n) :: wkl f (l.drop (n + skp false (l.drop n))) (a + n + skp false (l.drop n))
def wklS (l : List UInt8) : List (Tk × Nat) := wkl (l.length + 1) (l.drop (skp false l)) (skp false l)
theorem wkl_nil (f a : Nat) : wkl f [] a = [] := by cases f <;> simp [wkl]
theorem wkl_bad {f a : Nat} {l : List UInt8} (hl : l ≠ []) (h : tok l = none) : wkl (f + 1) l a = [(⟨0, a, []⟩, a)] := by rw [wkl, if_neg hl, h]
theorem wkl_ok {f a n k : Nat} {l : List UInt8} (hl : l ≠ []) (h : tok l = some (n, k)) : wkl (f + 1) l a =
    (⟨k, a, tokT (l.take n) k⟩, a + n) :: wkl f (l.drop (n + skp false (l.drop n))) (a + n + skp false (l.drop n)) := by rw [wkl, if_neg hl, h]
theorem wkl_toks : ∀ (f : Nat) (l : List UInt8) (a : Nat), wkl f l a = (toks f l a).1.zip (toks f l a).2.1 ++ (if 0 ≤ (toks f l a).2.2 then [(⟨0, (toks f l a).2.2.toNat, []⟩, (toks f l a).2.2.toNat)] else [])
  | 0, l, a => by simp [wkl, toks]
  | f + 1, [], a => by rw [wkl_nil, toks_nil]; simp
  | f + 1, c :: l, a => by
    cases h : tok (c :: l) with
    | none => rw [wkl_bad (by simp) h, toks_bad h]; simp
    | some x => rw [wkl_ok (by simp) h, toks_ok h, wkl_toks f]; simp
end Go.Proofs.YtkooijhdjjdigaaDoor
