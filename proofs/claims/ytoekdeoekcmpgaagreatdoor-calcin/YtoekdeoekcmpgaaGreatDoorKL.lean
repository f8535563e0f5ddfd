/- Package calc: sums, differences, quotients, remainders, and whether they are int64s. -/
import Derived.Test.YtoekdeoekcmpgaaGreatDoorKJ
namespace Go.Proofs.YtoekdeoekcmpgaaGreatDoor
open Go.ChangeShapes Go.WideShapes Go.ChangeAt Go.RowKit
set_option linter.unusedVariables false

def inR (n : Int) : Prop := -9223372036854775808 ≤ n ∧ n ≤ 9223372036854775807
instance (n : Int) : Decidable (inR n) := by unfold inR; infer_instance

/-- What an operation on integers answers: the number, if there is one. -/
def arE (o : Option Int) (e : Ending) : Prop := match o with | some m => e = .returned (.tuple #[.int .i64 m, .bool true]) | none => ∃ n, e = .returned (.tuple #[.int .i64 n, .bool false])
def sumO (x y : Int) : Option Int := if inR (x + y) then some (x + y) else none
def difO (x y : Int) : Option Int := if inR (x - y) then some (x - y) else none

set_option maxHeartbeats 1000000 in
theorem sum_walk (x y : Int) (hx : inR x) (hy : inR y) (w : World) : Calls Tryz.prog 77 #[.int .i64 x, .int .i64 y] w fun e w' => arE (sumO x y) e ∧ w = w' := by
  unfold inR at hx hy
  unfold sumO
  obtain ⟨n, hw⟩ : ∃ n, IntKind.i64.wrap (x + y) = n := ⟨_, rfl⟩
  have hn : n = x + y ∨ n = x + y - 18446744073709551616 ∨ n = x + y + 18446744073709551616 := by rw [← hw, IntKind.wrap_i64]; omega
  have hn2 : -9223372036854775808 ≤ n ∧ n ≤ 9223372036854775807 := by rw [← hw, IntKind.wrap_i64]; omega
  by_cases hr : inR (x + y)
  · rw [if_pos hr]
    unfold inR at hr
    have hnn : n = x + y := by omega
    by_cases h0 : 0 < y
    · have h1 : x < n := by omega
      have HN : Hid (n = x + y) := hnn
      clear hn hn2 hr hnn
      go_enter Tryz.func77, Tryz.ntmps77
      go_wp2
      all_goals (try go_region)
      all_goals (try go_wp2)
      all_goals go_ret2
      all_goals exact ⟨by rw [← HN.out]; rfl, rfl⟩
    · have h1 : ¬ x < n := by omega
      have HN : Hid (n = x + y) := hnn
      clear hn hn2 hr hnn
      go_enter Tryz.func77, Tryz.ntmps77
      go_wp2
      all_goals (try go_region)
      all_goals (try go_wp2)
      all_goals go_ret2
      all_goals exact ⟨by rw [← HN.out]; rfl, rfl⟩
  · rw [if_neg hr]
    unfold inR at hr
    by_cases h0 : 0 < y
    · have h1 : ¬ x < n := by omega
      clear hn hn2 hr
      go_enter Tryz.func77, Tryz.ntmps77
      go_wp2
      all_goals (try go_region)
      all_goals (try go_wp2)
      all_goals go_ret2
      all_goals exact ⟨⟨_, rfl⟩, rfl⟩
    · have h1 : x < n := by omega
      clear hn hn2 hr
      go_enter Tryz.func77, Tryz.ntmps77
      go_wp2
      all_goals (try go_region)
      all_goals (try go_wp2)
      all_goals go_ret2
      all_goals exact ⟨⟨_, rfl⟩, rfl⟩

set_option maxHeartbeats 1000000 in
theorem dif_walk (x y : Int) (hx : inR x) (hy : inR y) (w : World) : Calls Tryz.prog 73 #[.int .i64 x, .int .i64 y] w fun e w' => arE (difO x y) e ∧ w = w' := by
  unfold inR at hx hy
  unfold difO
  obtain ⟨n, hw⟩ : ∃ n, IntKind.i64.wrap (x - y) = n := ⟨_, rfl⟩
  have hn : n = x - y ∨ n = x - y - 18446744073709551616 ∨ n = x - y + 18446744073709551616 := by rw [← hw, IntKind.wrap_i64]; omega
  have hn2 : -9223372036854775808 ≤ n ∧ n ≤ 9223372036854775807 := by rw [← hw, IntKind.wrap_i64]; omega
  by_cases hr : inR (x - y)
  · rw [if_pos hr]
    unfold inR at hr
    have hnn : n = x - y := by omega
    by_cases h0 : 0 < y
    · have h1 : n < x := by omega
      have HN : Hid (n = x - y) := hnn
      clear hn hn2 hr hnn
      go_enter Tryz.func73, Tryz.ntmps73
      go_wp2
      all_goals (try go_region)
      all_goals (try go_wp2)
      all_goals go_ret2
      all_goals exact ⟨by rw [← HN.out]; rfl, rfl⟩
    · have h1 : ¬ n < x := by omega
      have HN : Hid (n = x - y) := hnn
      clear hn hn2 hr hnn
      go_enter Tryz.func73, Tryz.ntmps73
      go_wp2
      all_goals (try go_region)
      all_goals (try go_wp2)
      all_goals go_ret2
      all_goals exact ⟨by rw [← HN.out]; rfl, rfl⟩
  · rw [if_neg hr]
    unfold inR at hr
    by_cases h0 : 0 < y
    · have h1 : ¬ n < x := by omega
      clear hn hn2 hr
      go_enter Tryz.func73, Tryz.ntmps73
      go_wp2
      all_goals (try go_region)
      all_goals (try go_wp2)
      all_goals go_ret2
      all_goals exact ⟨⟨_, rfl⟩, rfl⟩
    · have h1 : n < x := by omega
      clear hn hn2 hr
      go_enter Tryz.func73, Tryz.ntmps73
      go_wp2
      all_goals (try go_region)
      all_goals (try go_wp2)
      all_goals go_ret2
      all_goals exact ⟨⟨_, rfl⟩, rfl⟩

end Go.Proofs.YtoekdeoekcmpgaaGreatDoor
