/- The document's May. -/
import Derived.Test.YtfjmoiooonialaaVM
namespace Go.Proofs.Ytfjmoiooonialaa
open Go.ChangeShapes Go.WideShapes Go.ChangeAt Go.RowKit
set_option linter.unusedVariables false

theorem empty_dec (d : Array UInt8) : d.isEmpty = decide (d = #[]) := by rw [Bool.eq_iff_iff]; simp

set_option maxHeartbeats 1000000 in
set_option maxRecDepth 10000 in
theorem rmay_walk (k n : Int) (t : ByteArray) (w : World) : Calls Try.prog 25 #[val k n t] w fun e w' => e = .returned (.bool (mayB k n t)) ∧ Below w.heap.size w w' := by
  have hem : t.toList = t.data.toList := by rw [ByteArray.toList_eq]
  have hcl : ∀ (k : Int), (k = 2 ∨ k = 3) → Calls Try.prog 25 #[val k n t] w fun e w' => e = .returned (.bool (decide (n = 0) && decide (t.size ≤ 400))) ∧ Below w.heap.size w w' := by
    intro k hk
    rcases hk with rfl | rfl
    all_goals
      go_enter Try.func25, Try.ntmps25
      go_wp2
      all_goals
        go_ret
        refine ⟨?_, (Below.refl _ _).alloc (Nat.le_refl _) _⟩
        simp_all <;> omega
  by_cases h0 : k = 0
  · subst h0
    rw [may0]
    clear hcl
    go_enter Try.func25, Try.ntmps25
    go_wp2
    all_goals
      go_ret
      refine ⟨?_, (Below.refl _ _).alloc (Nat.le_refl _) _⟩
      simp_all [empty_dec]
  by_cases h1 : k = 1
  · subst h1
    rw [may1]
    clear hcl
    go_enter Try.func25, Try.ntmps25
    go_wp2
    all_goals
      go_ret
      refine ⟨?_, (Below.refl _ _).alloc (Nat.le_refl _) _⟩
      simp_all [empty_dec]
  by_cases h2 : k = 2
  · subst h2; rw [may2]; exact hcl 2 (.inl rfl)
  by_cases h3 : k = 3
  · subst h3; rw [may3]; exact hcl 3 (.inr rfl)
  rw [may_no h0 h1 h2 h3]
  clear hcl
  go_enter Try.func25, Try.ntmps25
  go_wp2
  go_ret
  exact ⟨rfl, (Below.refl _ _).alloc (Nat.le_refl _) _⟩

end Go.Proofs.Ytfjmoiooonialaa
