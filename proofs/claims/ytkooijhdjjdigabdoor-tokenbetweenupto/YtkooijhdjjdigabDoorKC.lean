/- The document's Skip, Quote. -/
import Derived.Test.YtkooijhdjjdigabDoorKB
namespace Go.Proofs.YtkooijhdjjdigabDoor
open Go.ChangeShapes Go.WideShapes Go.ChangeAt Go.RowKit
set_option linter.unusedVariables false

theorem skp_blk {c : UInt8} {r : List UInt8} (h : blkB c = true) : skp false (c :: r) = skp false r + 1 := by rw [skp, if_pos h]
theorem skp_on {c : UInt8} {r : List UInt8} (h : c.toNat ≠ 10) : skp true (c :: r) = skp true r + 1 := by rw [skp, if_neg h]
theorem skp_rem' {c : UInt8} {r : List UInt8} (h : blkB c = false) (hc : c.toNat = 45 ∧ (r.head?.map UInt8.toNat) = some 45) : skp false (c :: r) = skp true r + 1 := by
  rw [skp, if_neg (by simp [h]), if_pos hc]
theorem skp_rem {c d : UInt8} {r : List UInt8} (h : blkB c = false) (hc : c.toNat = 45) (hd : d.toNat = 45) : skp false (c :: d :: r) = skp true (c :: d :: r) :=
  (skp_rem' h ⟨hc, by simp [hd]⟩).trans (skp_on (by omega)).symm
theorem skp_not {c : UInt8} {r : List UInt8} (h : blkB c = false) (hc : ¬ (c.toNat = 45 ∧ (r.head?.map UInt8.toNat) = some 45)) : skp false (c :: r) = 0 := by
  rw [skp, if_neg (by simp [h]), if_neg hc]
theorem skp_ten {c : UInt8} {r : List UInt8} (h : c.toNat = 10) : skp true (c :: r) = skp false (c :: r) := by
  rw [skp, if_pos h, skp_blk (by simp [blkB, h])]

end Go.Proofs.YtkooijhdjjdigabDoor
