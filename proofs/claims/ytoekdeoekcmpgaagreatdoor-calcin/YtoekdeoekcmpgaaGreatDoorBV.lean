/- The document's Bool, Logic, Sum, Difference. -/
import Derived.Test.YtoekdeoekcmpgaaGreatDoorBU
import Derived.Test.YtoekdeoekcmpgaaGreatDoorKT
namespace Go.Proofs.YtoekdeoekcmpgaaGreatDoor
open Go.ChangeShapes Go.WideShapes Go.ChangeAt Go.RowKit
set_option linter.unusedVariables false

set_option maxHeartbeats 1000000 in
theorem rbool_walk (b : Bool) (w : World) : Calls Tryz.prog 49 #[.bool b] w fun e w' => e = .returned (truthV b) ∧ Below w.heap.size w w' := by
  have HW : Hid (∀ V, _ → _) := res_later w
  cases b
  all_goals
    go_enter Tryz.func49, Tryz.ntmps49
    go_wp2_with (first
      | (go_at_call 31; with_reducible refine Calls.mono (rint_walk _ _) ?_; rintro e w1 ⟨rfl, hb1⟩; obtain ⟨d0, d1, d2, f0, f1, f2, a0, a1, a2, b0, b1, b2, HK1, HB1, HL1⟩ := HW.out _ hb1; clear hb1))
    exact ret_valg Tryz.results49 rfl HK1.out ⟨rfl, below_set3g HB1.out (Nat.le_refl _) _ _ _⟩

set_option maxHeartbeats 2000000 in
set_option maxRecDepth 10000 in
theorem rlogic_and (x y : Int) (hx : x = 1 ∨ x = 0 ∨ x = -1) (hy : y = 1 ∨ y = 0 ∨ y = -1) (w : World) : Calls Tryz.prog 48 #[.int .i64 21, .int .i64 x, .int .i64 y] w fun e w' => e = .returned (setB false (x == 1) (decide (0 ≤ x)) (y == 1) (decide (0 ≤ y))) ∧ Below w.heap.size w w' := by
  have HW : Hid (∀ V, _ → _) := res_later w
  have H0 : Hid (∀ V, Calls Tryz.prog 45 #[.int .i64 0] V fun e w' => e = .returned (val 1 0 ⟨#[]⟩) ∧ Below V.heap.size V w') := fun V => three_yes 0 (by decide) V
  have H1 : Hid (∀ V, Calls Tryz.prog 45 #[.int .i64 1] V fun e w' => e = .returned (val 1 1 ⟨#[]⟩) ∧ Below V.heap.size V w') := fun V => three_yes 1 (by decide) V
  rcases hx with rfl | rfl | rfl <;> rcases hy with rfl | rfl | rfl
  all_goals
    go_enter Tryz.func48, Tryz.ntmps48
    go_wp2_with (first
      | (go_at_call 45; with_reducible refine Calls.mono (H0.out _) ?_; rintro e w1 ⟨rfl, hb1⟩; obtain ⟨d0, d1, d2, f0, f1, f2, a0, a1, a2, b0, b1, b2, HK1, HB1, HL1⟩ := HW.out _ hb1; clear hb1)
      | (go_at_call 45; with_reducible refine Calls.mono (H1.out _) ?_; rintro e w1 ⟨rfl, hb1⟩; obtain ⟨d0, d1, d2, f0, f1, f2, a0, a1, a2, b0, b1, b2, HK1, HB1, HL1⟩ := HW.out _ hb1; clear hb1)
      | (go_at_call 37; with_reducible refine Calls.mono (rnull_walk _) ?_; rintro e w1 ⟨rfl, hb1⟩; obtain ⟨d0, d1, d2, f0, f1, f2, a0, a1, a2, b0, b1, b2, HK1, HB1, HL1⟩ := HW.out _ hb1; clear hb1))
    exact ret_valg Tryz.results48 rfl HK1.out ⟨rfl, below_set3g HB1.out (Nat.le_refl _) _ _ _⟩

set_option maxHeartbeats 2000000 in
set_option maxRecDepth 10000 in
theorem rlogic_or (x y : Int) (hx : x = 1 ∨ x = 0 ∨ x = -1) (hy : y = 1 ∨ y = 0 ∨ y = -1) (w : World) : Calls Tryz.prog 48 #[.int .i64 22, .int .i64 x, .int .i64 y] w fun e w' => e = .returned (setB true (x == 1) (decide (0 ≤ x)) (y == 1) (decide (0 ≤ y))) ∧ Below w.heap.size w w' := by
  have HW : Hid (∀ V, _ → _) := res_later w
  have H0 : Hid (∀ V, Calls Tryz.prog 45 #[.int .i64 0] V fun e w' => e = .returned (val 1 0 ⟨#[]⟩) ∧ Below V.heap.size V w') := fun V => three_yes 0 (by decide) V
  have H1 : Hid (∀ V, Calls Tryz.prog 45 #[.int .i64 1] V fun e w' => e = .returned (val 1 1 ⟨#[]⟩) ∧ Below V.heap.size V w') := fun V => three_yes 1 (by decide) V
  rcases hx with rfl | rfl | rfl <;> rcases hy with rfl | rfl | rfl
  all_goals
    go_enter Tryz.func48, Tryz.ntmps48
    go_wp2_with (first
      | (go_at_call 45; with_reducible refine Calls.mono (H0.out _) ?_; rintro e w1 ⟨rfl, hb1⟩; obtain ⟨d0, d1, d2, f0, f1, f2, a0, a1, a2, b0, b1, b2, HK1, HB1, HL1⟩ := HW.out _ hb1; clear hb1)
      | (go_at_call 45; with_reducible refine Calls.mono (H1.out _) ?_; rintro e w1 ⟨rfl, hb1⟩; obtain ⟨d0, d1, d2, f0, f1, f2, a0, a1, a2, b0, b1, b2, HK1, HB1, HL1⟩ := HW.out _ hb1; clear hb1)
      | (go_at_call 37; with_reducible refine Calls.mono (rnull_walk _) ?_; rintro e w1 ⟨rfl, hb1⟩; obtain ⟨d0, d1, d2, f0, f1, f2, a0, a1, a2, b0, b1, b2, HK1, HB1, HL1⟩ := HW.out _ hb1; clear hb1))
    exact ret_valg Tryz.results48 rfl HK1.out ⟨rfl, below_set3g HB1.out (Nat.le_refl _) _ _ _⟩

set_option maxHeartbeats 2000000 in
set_option maxRecDepth 10000 in
theorem rsum_walk (x y : Int) (hx : inR x) (hy : inR y) (w : World) : Calls Tryz.prog 85 #[.int .i64 x, .int .i64 y] w fun e w' => e = .returned (optV (sumO x y)) ∧ Below w.heap.size w w' := by
  have HW : Hid (∀ V, _ → _) := res_later w
  unfold sumO
  unfold inR at hx hy
  by_cases hp : 0 < y
  · have hn : ¬ y < 0 := by omega
    have hw : IntKind.i64.wrap (9223372036854775807 - y) = 9223372036854775807 - y := by rw [IntKind.wrap_i64]; omega
    by_cases hq : 9223372036854775807 - y < x
    · have hr : ¬ inR (x + y) := by unfold inR; omega
      rw [if_neg hr]
      clear hr hx hy
      go_enter Tryz.func85, Tryz.ntmps85
      go_wp2_with (first
        | (go_at_call 31; with_reducible refine Calls.mono (rint_walk _ _) ?_; rintro e w1 ⟨rfl, hb1⟩; obtain ⟨d0, d1, d2, f0, f1, f2, a0, a1, a2, b0, b1, b2, HK1, HB1, HL1⟩ := HW.out _ hb1; clear hb1)
        | (go_at_call 37; with_reducible refine Calls.mono (rnull_walk _) ?_; rintro e w1 ⟨rfl, hb1⟩; obtain ⟨d0, d1, d2, f0, f1, f2, a0, a1, a2, b0, b1, b2, HK1, HB1, HL1⟩ := HW.out _ hb1; clear hb1))
      exact ret_valg Tryz.results85 rfl HK1.out ⟨rfl, below_set3g HB1.out (Nat.le_refl _) _ _ _⟩
    · have hr : inR (x + y) := by unfold inR; omega
      have hv : IntKind.i64.wrap (x + y) = x + y := by rw [IntKind.wrap_i64]; omega
      rw [if_pos hr]
      clear hr hx hy
      go_enter Tryz.func85, Tryz.ntmps85
      go_wp2_with (first
        | (go_at_call 31; with_reducible refine Calls.mono (rint_walk _ _) ?_; rintro e w1 ⟨rfl, hb1⟩; obtain ⟨d0, d1, d2, f0, f1, f2, a0, a1, a2, b0, b1, b2, HK1, HB1, HL1⟩ := HW.out _ hb1; clear hb1)
        | (go_at_call 37; with_reducible refine Calls.mono (rnull_walk _) ?_; rintro e w1 ⟨rfl, hb1⟩; obtain ⟨d0, d1, d2, f0, f1, f2, a0, a1, a2, b0, b1, b2, HK1, HB1, HL1⟩ := HW.out _ hb1; clear hb1))
      exact ret_valg Tryz.results85 rfl HK1.out ⟨rfl, below_set3g HB1.out (Nat.le_refl _) _ _ _⟩
  by_cases hn : y < 0
  · skip
    have hw : IntKind.i64.wrap (-9223372036854775808 - y) = -9223372036854775808 - y := by rw [IntKind.wrap_i64]; omega
    by_cases hq : x < -9223372036854775808 - y
    · have hr : ¬ inR (x + y) := by unfold inR; omega
      rw [if_neg hr]
      clear hr hx hy
      go_enter Tryz.func85, Tryz.ntmps85
      go_wp2_with (first
        | (go_at_call 31; with_reducible refine Calls.mono (rint_walk _ _) ?_; rintro e w1 ⟨rfl, hb1⟩; obtain ⟨d0, d1, d2, f0, f1, f2, a0, a1, a2, b0, b1, b2, HK1, HB1, HL1⟩ := HW.out _ hb1; clear hb1)
        | (go_at_call 37; with_reducible refine Calls.mono (rnull_walk _) ?_; rintro e w1 ⟨rfl, hb1⟩; obtain ⟨d0, d1, d2, f0, f1, f2, a0, a1, a2, b0, b1, b2, HK1, HB1, HL1⟩ := HW.out _ hb1; clear hb1))
      exact ret_valg Tryz.results85 rfl HK1.out ⟨rfl, below_set3g HB1.out (Nat.le_refl _) _ _ _⟩
    · have hr : inR (x + y) := by unfold inR; omega
      have hv : IntKind.i64.wrap (x + y) = x + y := by rw [IntKind.wrap_i64]; omega
      rw [if_pos hr]
      clear hr hx hy
      go_enter Tryz.func85, Tryz.ntmps85
      go_wp2_with (first
        | (go_at_call 31; with_reducible refine Calls.mono (rint_walk _ _) ?_; rintro e w1 ⟨rfl, hb1⟩; obtain ⟨d0, d1, d2, f0, f1, f2, a0, a1, a2, b0, b1, b2, HK1, HB1, HL1⟩ := HW.out _ hb1; clear hb1)
        | (go_at_call 37; with_reducible refine Calls.mono (rnull_walk _) ?_; rintro e w1 ⟨rfl, hb1⟩; obtain ⟨d0, d1, d2, f0, f1, f2, a0, a1, a2, b0, b1, b2, HK1, HB1, HL1⟩ := HW.out _ hb1; clear hb1))
      exact ret_valg Tryz.results85 rfl HK1.out ⟨rfl, below_set3g HB1.out (Nat.le_refl _) _ _ _⟩
  · have hr : inR (x + y) := by unfold inR; omega
    have hv : IntKind.i64.wrap (x + y) = x + y := by rw [IntKind.wrap_i64]; omega
    rw [if_pos hr]
    clear hr hx hy
    go_enter Tryz.func85, Tryz.ntmps85
    go_wp2_with (first
      | (go_at_call 31; with_reducible refine Calls.mono (rint_walk _ _) ?_; rintro e w1 ⟨rfl, hb1⟩; obtain ⟨d0, d1, d2, f0, f1, f2, a0, a1, a2, b0, b1, b2, HK1, HB1, HL1⟩ := HW.out _ hb1; clear hb1)
      | (go_at_call 37; with_reducible refine Calls.mono (rnull_walk _) ?_; rintro e w1 ⟨rfl, hb1⟩; obtain ⟨d0, d1, d2, f0, f1, f2, a0, a1, a2, b0, b1, b2, HK1, HB1, HL1⟩ := HW.out _ hb1; clear hb1))
    exact ret_valg Tryz.results85 rfl HK1.out ⟨rfl, below_set3g HB1.out (Nat.le_refl _) _ _ _⟩

set_option maxHeartbeats 2000000 in
set_option maxRecDepth 10000 in
theorem rdif_walk (x y : Int) (hx : inR x) (hy : inR y) (w : World) : Calls Tryz.prog 86 #[.int .i64 x, .int .i64 y] w fun e w' => e = .returned (optV (difO x y)) ∧ Below w.heap.size w w' := by
  have HW : Hid (∀ V, _ → _) := res_later w
  unfold difO
  unfold inR at hx hy
  by_cases hp : 0 < y
  · have hn : ¬ y < 0 := by omega
    have hw : IntKind.i64.wrap (-9223372036854775808 + y) = -9223372036854775808 + y := by rw [IntKind.wrap_i64]; omega
    by_cases hq : x < -9223372036854775808 + y
    · have hr : ¬ inR (x - y) := by unfold inR; omega
      rw [if_neg hr]
      clear hr hx hy
      go_enter Tryz.func86, Tryz.ntmps86
      go_wp2_with (first
        | (go_at_call 31; with_reducible refine Calls.mono (rint_walk _ _) ?_; rintro e w1 ⟨rfl, hb1⟩; obtain ⟨d0, d1, d2, f0, f1, f2, a0, a1, a2, b0, b1, b2, HK1, HB1, HL1⟩ := HW.out _ hb1; clear hb1)
        | (go_at_call 37; with_reducible refine Calls.mono (rnull_walk _) ?_; rintro e w1 ⟨rfl, hb1⟩; obtain ⟨d0, d1, d2, f0, f1, f2, a0, a1, a2, b0, b1, b2, HK1, HB1, HL1⟩ := HW.out _ hb1; clear hb1))
      exact ret_valg Tryz.results86 rfl HK1.out ⟨rfl, below_set3g HB1.out (Nat.le_refl _) _ _ _⟩
    · have hr : inR (x - y) := by unfold inR; omega
      have hv : IntKind.i64.wrap (x - y) = x - y := by rw [IntKind.wrap_i64]; omega
      rw [if_pos hr]
      clear hr hx hy
      go_enter Tryz.func86, Tryz.ntmps86
      go_wp2_with (first
        | (go_at_call 31; with_reducible refine Calls.mono (rint_walk _ _) ?_; rintro e w1 ⟨rfl, hb1⟩; obtain ⟨d0, d1, d2, f0, f1, f2, a0, a1, a2, b0, b1, b2, HK1, HB1, HL1⟩ := HW.out _ hb1; clear hb1)
        | (go_at_call 37; with_reducible refine Calls.mono (rnull_walk _) ?_; rintro e w1 ⟨rfl, hb1⟩; obtain ⟨d0, d1, d2, f0, f1, f2, a0, a1, a2, b0, b1, b2, HK1, HB1, HL1⟩ := HW.out _ hb1; clear hb1))
      exact ret_valg Tryz.results86 rfl HK1.out ⟨rfl, below_set3g HB1.out (Nat.le_refl _) _ _ _⟩
  by_cases hn : y < 0
  · skip
    have hw : IntKind.i64.wrap (9223372036854775807 + y) = 9223372036854775807 + y := by rw [IntKind.wrap_i64]; omega
    by_cases hq : 9223372036854775807 + y < x
    · have hr : ¬ inR (x - y) := by unfold inR; omega
      rw [if_neg hr]
      clear hr hx hy
      go_enter Tryz.func86, Tryz.ntmps86
      go_wp2_with (first
        | (go_at_call 31; with_reducible refine Calls.mono (rint_walk _ _) ?_; rintro e w1 ⟨rfl, hb1⟩; obtain ⟨d0, d1, d2, f0, f1, f2, a0, a1, a2, b0, b1, b2, HK1, HB1, HL1⟩ := HW.out _ hb1; clear hb1)
        | (go_at_call 37; with_reducible refine Calls.mono (rnull_walk _) ?_; rintro e w1 ⟨rfl, hb1⟩; obtain ⟨d0, d1, d2, f0, f1, f2, a0, a1, a2, b0, b1, b2, HK1, HB1, HL1⟩ := HW.out _ hb1; clear hb1))
      exact ret_valg Tryz.results86 rfl HK1.out ⟨rfl, below_set3g HB1.out (Nat.le_refl _) _ _ _⟩
    · have hr : inR (x - y) := by unfold inR; omega
      have hv : IntKind.i64.wrap (x - y) = x - y := by rw [IntKind.wrap_i64]; omega
      rw [if_pos hr]
      clear hr hx hy
      go_enter Tryz.func86, Tryz.ntmps86
      go_wp2_with (first
        | (go_at_call 31; with_reducible refine Calls.mono (rint_walk _ _) ?_; rintro e w1 ⟨rfl, hb1⟩; obtain ⟨d0, d1, d2, f0, f1, f2, a0, a1, a2, b0, b1, b2, HK1, HB1, HL1⟩ := HW.out _ hb1; clear hb1)
        | (go_at_call 37; with_reducible refine Calls.mono (rnull_walk _) ?_; rintro e w1 ⟨rfl, hb1⟩; obtain ⟨d0, d1, d2, f0, f1, f2, a0, a1, a2, b0, b1, b2, HK1, HB1, HL1⟩ := HW.out _ hb1; clear hb1))
      exact ret_valg Tryz.results86 rfl HK1.out ⟨rfl, below_set3g HB1.out (Nat.le_refl _) _ _ _⟩
  · have hr : inR (x - y) := by unfold inR; omega
    have hv : IntKind.i64.wrap (x - y) = x - y := by rw [IntKind.wrap_i64]; omega
    rw [if_pos hr]
    clear hr hx hy
    go_enter Tryz.func86, Tryz.ntmps86
    go_wp2_with (first
      | (go_at_call 31; with_reducible refine Calls.mono (rint_walk _ _) ?_; rintro e w1 ⟨rfl, hb1⟩; obtain ⟨d0, d1, d2, f0, f1, f2, a0, a1, a2, b0, b1, b2, HK1, HB1, HL1⟩ := HW.out _ hb1; clear hb1)
      | (go_at_call 37; with_reducible refine Calls.mono (rnull_walk _) ?_; rintro e w1 ⟨rfl, hb1⟩; obtain ⟨d0, d1, d2, f0, f1, f2, a0, a1, a2, b0, b1, b2, HK1, HB1, HL1⟩ := HW.out _ hb1; clear hb1))
    exact ret_valg Tryz.results86 rfl HK1.out ⟨rfl, below_set3g HB1.out (Nat.le_refl _) _ _ _⟩
end Go.Proofs.YtoekdeoekcmpgaaGreatDoor
