/- The document's Letter, Digit, Blank, Lower, Pair. -/
import Derived.Test.YtkooijhdjjdigaaDoorKA
namespace Go.Proofs.YtkooijhdjjdigaaDoor
open Go.ChangeShapes Go.WideShapes Go.ChangeAt Go.RowKit
set_option linter.unusedVariables false

theorem letter_e (c : UInt8) (w : World) : Calls Tryd.prog 44 #[.int .u8 (c.toNat : Int)] w fun e w' => e = .returned (.bool (letB c)) ∧ w = w' := by
  have hlt := c.toNat_lt
  unfold letB
  obtain ⟨q, hq⟩ : ∃ q, c.toNat = q := ⟨_, rfl⟩
  rw [hq] at hlt ⊢
  clear hq
  go_enter Tryd.func44, Tryd.ntmps44
  go_wp2
  all_goals
    go_ret
    refine ⟨?_, rfl⟩
    simp
    try (rw [Bool.eq_iff_iff]; simp; omega)
    try omega
theorem digit_e (c : UInt8) (w : World) : Calls Tryd.prog 45 #[.int .u8 (c.toNat : Int)] w fun e w' => e = .returned (.bool (digB c)) ∧ w = w' := by
  have hlt := c.toNat_lt
  unfold digB
  obtain ⟨q, hq⟩ : ∃ q, c.toNat = q := ⟨_, rfl⟩
  rw [hq] at hlt ⊢
  clear hq
  go_enter Tryd.func45, Tryd.ntmps45
  go_wp2
  all_goals
    go_ret
    refine ⟨?_, rfl⟩
    simp
    try (rw [Bool.eq_iff_iff]; simp; omega)
    try omega
theorem blank_e (c : UInt8) (w : World) : Calls Tryd.prog 41 #[.int .u8 (c.toNat : Int)] w fun e w' => e = .returned (.bool (blkB c)) ∧ w = w' := by
  have hlt := c.toNat_lt
  unfold blkB
  obtain ⟨q, hq⟩ : ∃ q, c.toNat = q := ⟨_, rfl⟩
  rw [hq] at hlt ⊢
  clear hq
  go_enter Tryd.func41, Tryd.ntmps41
  go_wp2
  all_goals
    go_ret
    refine ⟨?_, rfl⟩
    simp
    try (rw [Bool.eq_iff_iff]; simp; omega)
    try omega
theorem pair_e (a b : UInt8) (w : World) : Calls Tryd.prog 46 #[.int .u8 (a.toNat : Int), .int .u8 (b.toNat : Int)] w fun e w' => e = .returned (.bool (paiB a b)) ∧ w = w' := by
  unfold paiB
  obtain ⟨q, hq⟩ : ∃ q, a.toNat = q := ⟨_, rfl⟩
  obtain ⟨p, hp⟩ : ∃ p, b.toNat = p := ⟨_, rfl⟩
  rw [hq, hp]
  clear hq hp
  go_enter Tryd.func46, Tryd.ntmps46
  go_wp2
  all_goals
    go_ret
    refine ⟨?_, rfl⟩
    simp
    try (rw [Bool.eq_iff_iff]; simp; omega)
    try omega
end Go.Proofs.YtkooijhdjjdigaaDoor
