/- Proved here: for every list of pages and every text the Go function bureaulaw11.SpillAny returns true, whatever is in memory: over any pages, and for any text, every call of package spill ends with an answer or with ErrBad, a payload that is told has at most 4000 bytes, and a stub whose chain is told can be dropped. No condition. -/
import Derived.Test.YthgclfhfipfknaaGreatPNI
namespace Go.Proofs.YthgclfhfipfknaaGreat
open Go.ChangeShapes Go.WideShapes Go.ChangeAt Go.RowKit Go.Deep
set_option linter.unusedVariables false

set_option maxRecDepth 100000 in
set_option maxHeartbeats 8000000 in
theorem sa_closed : joinedFacts Tryz.prog 5 Tryz.f5 Rows.spillAnySpec Rows.spillAnyRow = true := by
  unfold joinedFacts
  repeat' (with_reducible refine Bool.and_eq_true_iff.2 ⟨?_, ?_⟩)
  all_goals (as_aux_lemma => kernel_rfl)
theorem spillAny_holds : Rows.SpillAnySaid :=
  OpenClaim.holds_of_wide 5 Tryz.f5 rfl rfl rfl rfl rfl rfl rfl ⟨rfl, rfl, rfl, rfl, rfl⟩ rfl rfl rfl rfl rfl (by kernel_rfl) Tryz.func5 sa_closed
    (of_decide_eq_true (by kernel_rfl)) (by unfold Func.isWrapper; first | (rw [if_pos (by decide +kernel)]; kernel_rfl) | (rw [if_neg (by decide +kernel)]; exact ⟨rfl, rfl⟩))
    (fun os started H enc _ => spillAny_lifted os started H enc)
#print axioms spillAny_holds
end Go.Proofs.YthgclfhfipfknaaGreat
