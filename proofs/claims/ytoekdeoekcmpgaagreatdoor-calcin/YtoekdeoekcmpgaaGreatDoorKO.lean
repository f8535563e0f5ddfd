/- Package calc: onNumbers, unlessNull. -/
import Derived.Test.YtoekdeoekcmpgaaGreatDoorKN
import Derived.Laws.EntriesVeiled
namespace Go.Proofs.YtoekdeoekcmpgaaGreatDoor
open Go.ChangeShapes Go.WideShapes Go.ChangeAt Go.RowKit
set_option linter.unusedVariables false

set_option maxHeartbeats 1000000 in
theorem unlessNull_walk (fn : Fn) (fst cap : Array Value) (w : World) : Calls Tryz.prog 81 #[.func fn fst cap] w fun e w' => ∃ p : Nat, e = .returned (.func (.func 112) #[] #[.pointer (some ⟨p, 0, none⟩)]) ∧ w'.cell? ⟨p, 0, none⟩ = some (.func fn fst cap) ∧ Below w.heap.size w w' := by
  have hmf : ∀ (fn : Fn) (first cap : Array Value) (w : World), (Instr.makeFunc fn first cap).run Tryz.prog w = .ok (.func fn first cap) w := fun _ _ _ _ => rfl
  go_enter Tryz.func81, Tryz.ntmps81
  go_wp2
  go_ret
  refine ⟨_, rfl, ?_, new_below w _ rfl⟩
  exact new_cells w _ _ rfl 0 _ rfl

set_option maxHeartbeats 1000000 in
theorem onNumbers_walk (f : Nat) (w : World) : Calls Tryz.prog 72 #[.func (.func f) #[] #[]] w fun e w' => ∃ p2 : Nat, e = .returned (.func (.func 109) #[] #[.pointer (some ⟨p2, 0, none⟩)]) ∧ ArFn w' p2 f ∧ Below w.heap.size w w' := by
  have hmf : ∀ (fn : Fn) (first cap : Array Value) (w : World), (Instr.makeFunc fn first cap).run Tryz.prog w = .ok (.func fn first cap) w := fun _ _ _ _ => rfl
  go_enter Tryz.func72, Tryz.ntmps72
  go_wp2_with (first
    | (go_at_call 81; with_reducible refine Calls.mono (unlessNull_walk _ _ _ _) ?_; rintro e w1 ⟨p3, rfl, hc3, hb1⟩))
  go_ret
  exact ⟨_, rfl, ⟨p3, w.heap.size, new_cells w1 _ _ rfl 0 _ rfl, cell_later (new_below w1 _ rfl) hc3, cell_later (new_below w1 _ rfl) (cell_later hb1 (new_cells w _ _ rfl 0 _ rfl))⟩, below_trans (below_trans (new_below w _ rfl) hb1) (new_below w1 _ rfl)⟩

/-- What ofTwo hands back for arithmetic. -/
def ArVal (f : Nat) (w : World) (e : Ending) (w' : World) : Prop := ∃ p2 : Nat, e = .returned (.func (.func 109) #[] #[.pointer (some ⟨p2, 0, none⟩)]) ∧ ArFn w' p2 f ∧ Below w.heap.size w w'

set_option maxHeartbeats 1000000 in
theorem ofTwo_add (c : Int) (w : World) : Calls Tryz.prog 46 #[.int .i64 7, .int .i64 c] w (ArVal 77 w) := by
  go_enter Tryz.func46, Tryz.ntmps46
  go_wp2_with (first
    | (go_at_call 72; with_reducible refine Calls.mono (onNumbers_walk 77 _) ?_; rintro e w1 ⟨p2, rfl, hA, hb1⟩))
  go_ret
  exact ⟨p2, rfl, hA, hb1⟩
set_option maxHeartbeats 1000000 in
theorem ofTwo_sub (c : Int) (w : World) : Calls Tryz.prog 46 #[.int .i64 8, .int .i64 c] w (ArVal 73 w) := by
  go_enter Tryz.func46, Tryz.ntmps46
  go_wp2_with (first
    | (go_at_call 72; with_reducible refine Calls.mono (onNumbers_walk 73 _) ?_; rintro e w1 ⟨p2, rfl, hA, hb1⟩))
  go_ret
  exact ⟨p2, rfl, hA, hb1⟩
set_option maxHeartbeats 1000000 in
theorem ofTwo_mul (c : Int) (w : World) : Calls Tryz.prog 46 #[.int .i64 9, .int .i64 c] w (ArVal 78 w) := by
  go_enter Tryz.func46, Tryz.ntmps46
  go_wp2_with (first
    | (go_at_call 72; with_reducible refine Calls.mono (onNumbers_walk 78 _) ?_; rintro e w1 ⟨p2, rfl, hA, hb1⟩))
  go_ret
  exact ⟨p2, rfl, hA, hb1⟩
set_option maxHeartbeats 1000000 in
theorem ofTwo_div (c : Int) (w : World) : Calls Tryz.prog 46 #[.int .i64 10, .int .i64 c] w (ArVal 79 w) := by
  go_enter Tryz.func46, Tryz.ntmps46
  go_wp2_with (first
    | (go_at_call 72; with_reducible refine Calls.mono (onNumbers_walk 79 _) ?_; rintro e w1 ⟨p2, rfl, hA, hb1⟩))
  go_ret
  exact ⟨p2, rfl, hA, hb1⟩
set_option maxHeartbeats 1000000 in
theorem ofTwo_rem (c : Int) (w : World) : Calls Tryz.prog 46 #[.int .i64 11, .int .i64 c] w (ArVal 80 w) := by
  go_enter Tryz.func46, Tryz.ntmps46
  go_wp2_with (first
    | (go_at_call 72; with_reducible refine Calls.mono (onNumbers_walk 80 _) ?_; rintro e w1 ⟨p2, rfl, hA, hb1⟩))
  go_ret
  exact ⟨p2, rfl, hA, hb1⟩
end Go.Proofs.YtoekdeoekcmpgaaGreatDoor
