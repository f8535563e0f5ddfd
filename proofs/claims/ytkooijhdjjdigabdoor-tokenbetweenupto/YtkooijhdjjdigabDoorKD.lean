/- The document's Lower, Nibble, Single, Quote, Blob. -/
import Derived.Test.YtkooijhdjjdigabDoorKC
namespace Go.Proofs.YtkooijhdjjdigabDoor
open Go.ChangeShapes Go.WideShapes Go.ChangeAt Go.RowKit
set_option linter.unusedVariables false

def lowB (b : UInt8) : UInt8 := if 65 ≤ b.toNat ∧ b.toNat ≤ 90 then b + 32 else b
def nibR (c : UInt8) : Option Nat := if 48 ≤ c.toNat ∧ c.toNat ≤ 57 then some (c.toNat - 48) else if 97 ≤ c.toNat ∧ c.toNat ≤ 102 then some (c.toNat - 87) else none
def nibI (c : UInt8) : Int := match nibR c with | some a => (a : Int) | none => -1
theorem lowB_nat (c : UInt8) : (lowB c).toNat = if 65 ≤ c.toNat ∧ c.toNat ≤ 90 then c.toNat + 32 else c.toNat := by
  unfold lowB
  split
  · rw [UInt8.toNat_add]; simp; omega
  · rfl
theorem nib_low (c : UInt8) : (nibI (lowB c) < 0) ↔ hexB c = false := by
  unfold nibI nibR hexB
  have := lowB_nat c
  generalize (lowB c).toNat = p at *
  split at this
  · by_cases h1 : 48 ≤ p ∧ p ≤ 57
    · omega
    · rw [if_neg h1]
      by_cases h2 : 97 ≤ p ∧ p ≤ 102
      · rw [if_pos h2]; simp; omega
      · rw [if_neg h2]; simp; omega
  · by_cases h1 : 48 ≤ p ∧ p ≤ 57
    · rw [if_pos h1]; simp; omega
    · rw [if_neg h1]
      by_cases h2 : 97 ≤ p ∧ p ≤ 102
      · rw [if_pos h2]; simp; omega
      · rw [if_neg h2]; simp; omega
/-- Where a text's end is that begins behind j; -1: nowhere. -/
def endI (o : Option Nat) (j : Nat) : Int := match o with | some n => ((j + n : Nat) : Int) | none => -1
theorem endI_map (o : Option Nat) (j k : Nat) : endI (o.map (· + k)) j = endI o (j + k) := by cases o <;> simp [endI]; omega
theorem quo_not {c : UInt8} {r : List UInt8} (h : c.toNat ≠ 39) : quo (c :: r) = (quo r).map (· + 1) := by
  cases r with
  | nil => simp [quo, h]
  | cons d r => rw [quo, if_neg h]
theorem quo_two {c d : UInt8} {r : List UInt8} (h : c.toNat = 39) (h2 : d.toNat = 39) : quo (c :: d :: r) = (quo r).map (· + 2) := by rw [quo, if_pos h, if_pos h2]
theorem quo_end {c : UInt8} {r : List UInt8} (h : c.toNat = 39) (h2 : (r.head?.map UInt8.toNat) ≠ some 39) : quo (c :: r) = some 1 := by
  cases r with
  | nil => rw [quo, if_pos h]
  | cons d r => rw [quo, if_pos h, if_neg (by simpa using h2)]

end Go.Proofs.YtkooijhdjjdigabDoor
