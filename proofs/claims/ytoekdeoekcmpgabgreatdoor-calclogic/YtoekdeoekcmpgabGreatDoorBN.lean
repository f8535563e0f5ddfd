/- Package calc: the closures of texts, comparisons and logic. -/
import Derived.Test.YtoekdeoekcmpgabGreatDoorVC2
import Derived.Test.YtoekdeoekcmpgabGreatDoorKS
import Derived.Laws.Concat
namespace Go.Proofs.YtoekdeoekcmpgabGreatDoor
open Go.ChangeShapes Go.WideShapes Go.ChangeAt Go.RowKit
set_option linter.unusedVariables false

set_option maxHeartbeats 1000000 in
theorem ask_ne (n : Int) (w : World) : Calls Tryz.prog 77 #[.int .i64 n] w fun e w' => e = .returned (.bool (decide (n ≠ 0))) ∧ w = w' := by
  go_enter Tryz.func77, Tryz.ntmps77
  go_wp2
  go_ret
  refine ⟨?_, rfl⟩
  first | rfl | (by_cases h : n = 0 <;> simp [h, bne])
set_option maxHeartbeats 1000000 in
theorem ask_lt (n : Int) (w : World) : Calls Tryz.prog 78 #[.int .i64 n] w fun e w' => e = .returned (.bool (decide (n < 0))) ∧ w = w' := by
  go_enter Tryz.func78, Tryz.ntmps78
  go_wp2
  go_ret
  refine ⟨?_, rfl⟩
  first | rfl | (by_cases h : n = 0 <;> simp [h, bne])
set_option maxHeartbeats 1000000 in
theorem ask_le (n : Int) (w : World) : Calls Tryz.prog 79 #[.int .i64 n] w fun e w' => e = .returned (.bool (decide (n ≤ 0))) ∧ w = w' := by
  go_enter Tryz.func79, Tryz.ntmps79
  go_wp2
  go_ret
  refine ⟨?_, rfl⟩
  first | rfl | (by_cases h : n = 0 <;> simp [h, bne])
set_option maxHeartbeats 1000000 in
theorem ask_gt (n : Int) (w : World) : Calls Tryz.prog 80 #[.int .i64 n] w fun e w' => e = .returned (.bool (decide (0 < n))) ∧ w = w' := by
  go_enter Tryz.func80, Tryz.ntmps80
  go_wp2
  go_ret
  refine ⟨?_, rfl⟩
  first | rfl | (by_cases h : n = 0 <;> simp [h, bne])
set_option maxHeartbeats 1000000 in
theorem ask_ge (n : Int) (w : World) : Calls Tryz.prog 81 #[.int .i64 n] w fun e w' => e = .returned (.bool (decide (0 ≤ n))) ∧ w = w' := by
  go_enter Tryz.func81, Tryz.ntmps81
  go_wp2
  go_ret
  refine ⟨?_, rfl⟩
  first | rfl | (by_cases h : n = 0 <;> simp [h, bne])
set_option maxHeartbeats 1000000 in
theorem ask_eq (n : Int) (w : World) : Calls Tryz.prog 82 #[.int .i64 n] w fun e w' => e = .returned (.bool (decide (n = 0))) ∧ w = w' := by
  go_enter Tryz.func82, Tryz.ntmps82
  go_wp2
  go_ret
  refine ⟨?_, rfl⟩
  first | rfl | (by_cases h : n = 0 <;> simp [h, bne])
end Go.Proofs.YtoekdeoekcmpgabGreatDoor
