/- Package calc: what asked, standing, settledBy and ofTwo hand back. -/
import Derived.Test.YtoekdeoekcmpgaaGreatDoorBP
namespace Go.Proofs.YtoekdeoekcmpgaaGreatDoor
open Go.ChangeShapes Go.WideShapes Go.ChangeAt Go.RowKit
set_option linter.unusedVariables false

/-- The value of a comparison: standing's closure over its question and its collation. -/
abbrev StFn (w : World) (fn : Nat) (c : Int) (v : Value) : Prop := ∃ pf pc : Nat, v = .func (.func 114) #[] #[.pointer (some ⟨pf, 0, none⟩), .pointer (some ⟨pc, 0, none⟩)] ∧ w.cell? ⟨pf, 0, none⟩ = some (.func (.func fn) #[] #[]) ∧ w.cell? ⟨pc, 0, none⟩ = some (.int .i64 c)

theorem second_cell (w : World) (a b : Value) (T U : Nat) : ((w.alloc (.cells #[a] T)).alloc (.cells #[b] U)).cell? ⟨w.heap.size + 1, 0, none⟩ = some b := by
  have h := new_cells (w.alloc (.cells #[a] T)) #[b] U rfl 0 b rfl
  have e : (w.alloc (.cells #[a] T)).heap.size = w.heap.size + 1 := by simp
  rw [e] at h
  exact h

set_option maxHeartbeats 1000000 in
theorem asked_eq (w : World) : Calls Tryz.prog 113 #[.int .i64 13] w fun e w' => e = .returned (.func (.func 142) #[] #[]) ∧ w = w' := by
  have hmf : ∀ (fn : Fn) (first cap : Array Value) (w : World), (Instr.makeFunc fn first cap).run Tryz.prog w = .ok (.func fn first cap) w := fun _ _ _ _ => rfl
  go_enter Tryz.func113, Tryz.ntmps113
  go_wp2
  go_ret
  exact ⟨rfl, rfl⟩

set_option maxHeartbeats 1000000 in
theorem standing_eq (c : Int) (w : World) : Calls Tryz.prog 83 #[.int .i64 13, .int .i64 c] w fun e w' => ∃ v, e = .returned v ∧ StFn w' 142 c v ∧ Below w.heap.size w w' := by
  have hmf : ∀ (fn : Fn) (first cap : Array Value) (w : World), (Instr.makeFunc fn first cap).run Tryz.prog w = .ok (.func fn first cap) w := fun _ _ _ _ => rfl
  go_enter Tryz.func83, Tryz.ntmps83
  go_wp2_with (first
    | (go_at_call 113; with_reducible refine Calls.mono (asked_eq _) ?_; rintro e w1 ⟨rfl, rfl⟩))
  go_ret
  exact ⟨_, rfl, ⟨_, _, rfl, second_cell w _ _ _ _, cell_later (new_below _ _ rfl) (new_cells w _ _ rfl 0 _ rfl)⟩, below_trans (new_below w _ rfl) (new_below _ _ rfl)⟩

set_option maxHeartbeats 1000000 in
theorem asked_ne (w : World) : Calls Tryz.prog 113 #[.int .i64 14] w fun e w' => e = .returned (.func (.func 137) #[] #[]) ∧ w = w' := by
  have hmf : ∀ (fn : Fn) (first cap : Array Value) (w : World), (Instr.makeFunc fn first cap).run Tryz.prog w = .ok (.func fn first cap) w := fun _ _ _ _ => rfl
  go_enter Tryz.func113, Tryz.ntmps113
  go_wp2
  go_ret
  exact ⟨rfl, rfl⟩

set_option maxHeartbeats 1000000 in
theorem standing_ne (c : Int) (w : World) : Calls Tryz.prog 83 #[.int .i64 14, .int .i64 c] w fun e w' => ∃ v, e = .returned v ∧ StFn w' 137 c v ∧ Below w.heap.size w w' := by
  have hmf : ∀ (fn : Fn) (first cap : Array Value) (w : World), (Instr.makeFunc fn first cap).run Tryz.prog w = .ok (.func fn first cap) w := fun _ _ _ _ => rfl
  go_enter Tryz.func83, Tryz.ntmps83
  go_wp2_with (first
    | (go_at_call 113; with_reducible refine Calls.mono (asked_ne _) ?_; rintro e w1 ⟨rfl, rfl⟩))
  go_ret
  exact ⟨_, rfl, ⟨_, _, rfl, second_cell w _ _ _ _, cell_later (new_below _ _ rfl) (new_cells w _ _ rfl 0 _ rfl)⟩, below_trans (new_below w _ rfl) (new_below _ _ rfl)⟩

set_option maxHeartbeats 1000000 in
theorem asked_lt (w : World) : Calls Tryz.prog 113 #[.int .i64 15] w fun e w' => e = .returned (.func (.func 138) #[] #[]) ∧ w = w' := by
  have hmf : ∀ (fn : Fn) (first cap : Array Value) (w : World), (Instr.makeFunc fn first cap).run Tryz.prog w = .ok (.func fn first cap) w := fun _ _ _ _ => rfl
  go_enter Tryz.func113, Tryz.ntmps113
  go_wp2
  go_ret
  exact ⟨rfl, rfl⟩

set_option maxHeartbeats 1000000 in
theorem standing_lt (c : Int) (w : World) : Calls Tryz.prog 83 #[.int .i64 15, .int .i64 c] w fun e w' => ∃ v, e = .returned v ∧ StFn w' 138 c v ∧ Below w.heap.size w w' := by
  have hmf : ∀ (fn : Fn) (first cap : Array Value) (w : World), (Instr.makeFunc fn first cap).run Tryz.prog w = .ok (.func fn first cap) w := fun _ _ _ _ => rfl
  go_enter Tryz.func83, Tryz.ntmps83
  go_wp2_with (first
    | (go_at_call 113; with_reducible refine Calls.mono (asked_lt _) ?_; rintro e w1 ⟨rfl, rfl⟩))
  go_ret
  exact ⟨_, rfl, ⟨_, _, rfl, second_cell w _ _ _ _, cell_later (new_below _ _ rfl) (new_cells w _ _ rfl 0 _ rfl)⟩, below_trans (new_below w _ rfl) (new_below _ _ rfl)⟩

set_option maxHeartbeats 1000000 in
theorem asked_le (w : World) : Calls Tryz.prog 113 #[.int .i64 16] w fun e w' => e = .returned (.func (.func 139) #[] #[]) ∧ w = w' := by
  have hmf : ∀ (fn : Fn) (first cap : Array Value) (w : World), (Instr.makeFunc fn first cap).run Tryz.prog w = .ok (.func fn first cap) w := fun _ _ _ _ => rfl
  go_enter Tryz.func113, Tryz.ntmps113
  go_wp2
  go_ret
  exact ⟨rfl, rfl⟩

set_option maxHeartbeats 1000000 in
theorem standing_le (c : Int) (w : World) : Calls Tryz.prog 83 #[.int .i64 16, .int .i64 c] w fun e w' => ∃ v, e = .returned v ∧ StFn w' 139 c v ∧ Below w.heap.size w w' := by
  have hmf : ∀ (fn : Fn) (first cap : Array Value) (w : World), (Instr.makeFunc fn first cap).run Tryz.prog w = .ok (.func fn first cap) w := fun _ _ _ _ => rfl
  go_enter Tryz.func83, Tryz.ntmps83
  go_wp2_with (first
    | (go_at_call 113; with_reducible refine Calls.mono (asked_le _) ?_; rintro e w1 ⟨rfl, rfl⟩))
  go_ret
  exact ⟨_, rfl, ⟨_, _, rfl, second_cell w _ _ _ _, cell_later (new_below _ _ rfl) (new_cells w _ _ rfl 0 _ rfl)⟩, below_trans (new_below w _ rfl) (new_below _ _ rfl)⟩

set_option maxHeartbeats 1000000 in
theorem asked_gt (w : World) : Calls Tryz.prog 113 #[.int .i64 17] w fun e w' => e = .returned (.func (.func 140) #[] #[]) ∧ w = w' := by
  have hmf : ∀ (fn : Fn) (first cap : Array Value) (w : World), (Instr.makeFunc fn first cap).run Tryz.prog w = .ok (.func fn first cap) w := fun _ _ _ _ => rfl
  go_enter Tryz.func113, Tryz.ntmps113
  go_wp2
  go_ret
  exact ⟨rfl, rfl⟩

set_option maxHeartbeats 1000000 in
theorem standing_gt (c : Int) (w : World) : Calls Tryz.prog 83 #[.int .i64 17, .int .i64 c] w fun e w' => ∃ v, e = .returned v ∧ StFn w' 140 c v ∧ Below w.heap.size w w' := by
  have hmf : ∀ (fn : Fn) (first cap : Array Value) (w : World), (Instr.makeFunc fn first cap).run Tryz.prog w = .ok (.func fn first cap) w := fun _ _ _ _ => rfl
  go_enter Tryz.func83, Tryz.ntmps83
  go_wp2_with (first
    | (go_at_call 113; with_reducible refine Calls.mono (asked_gt _) ?_; rintro e w1 ⟨rfl, rfl⟩))
  go_ret
  exact ⟨_, rfl, ⟨_, _, rfl, second_cell w _ _ _ _, cell_later (new_below _ _ rfl) (new_cells w _ _ rfl 0 _ rfl)⟩, below_trans (new_below w _ rfl) (new_below _ _ rfl)⟩

set_option maxHeartbeats 1000000 in
theorem asked_ge (w : World) : Calls Tryz.prog 113 #[.int .i64 18] w fun e w' => e = .returned (.func (.func 141) #[] #[]) ∧ w = w' := by
  have hmf : ∀ (fn : Fn) (first cap : Array Value) (w : World), (Instr.makeFunc fn first cap).run Tryz.prog w = .ok (.func fn first cap) w := fun _ _ _ _ => rfl
  go_enter Tryz.func113, Tryz.ntmps113
  go_wp2
  go_ret
  exact ⟨rfl, rfl⟩

set_option maxHeartbeats 1000000 in
theorem standing_ge (c : Int) (w : World) : Calls Tryz.prog 83 #[.int .i64 18, .int .i64 c] w fun e w' => ∃ v, e = .returned v ∧ StFn w' 141 c v ∧ Below w.heap.size w w' := by
  have hmf : ∀ (fn : Fn) (first cap : Array Value) (w : World), (Instr.makeFunc fn first cap).run Tryz.prog w = .ok (.func fn first cap) w := fun _ _ _ _ => rfl
  go_enter Tryz.func83, Tryz.ntmps83
  go_wp2_with (first
    | (go_at_call 113; with_reducible refine Calls.mono (asked_ge _) ?_; rintro e w1 ⟨rfl, rfl⟩))
  go_ret
  exact ⟨_, rfl, ⟨_, _, rfl, second_cell w _ _ _ _, cell_later (new_below _ _ rfl) (new_cells w _ _ rfl 0 _ rfl)⟩, below_trans (new_below w _ rfl) (new_below _ _ rfl)⟩

set_option maxHeartbeats 1000000 in
theorem asked_is (w : World) : Calls Tryz.prog 113 #[.int .i64 19] w fun e w' => e = .returned (.func (.func 142) #[] #[]) ∧ w = w' := by
  have hmf : ∀ (fn : Fn) (first cap : Array Value) (w : World), (Instr.makeFunc fn first cap).run Tryz.prog w = .ok (.func fn first cap) w := fun _ _ _ _ => rfl
  go_enter Tryz.func113, Tryz.ntmps113
  go_wp2
  go_ret
  exact ⟨rfl, rfl⟩

set_option maxHeartbeats 1000000 in
theorem standing_is (c : Int) (w : World) : Calls Tryz.prog 83 #[.int .i64 19, .int .i64 c] w fun e w' => ∃ v, e = .returned v ∧ StFn w' 142 c v ∧ Below w.heap.size w w' := by
  have hmf : ∀ (fn : Fn) (first cap : Array Value) (w : World), (Instr.makeFunc fn first cap).run Tryz.prog w = .ok (.func fn first cap) w := fun _ _ _ _ => rfl
  go_enter Tryz.func83, Tryz.ntmps83
  go_wp2_with (first
    | (go_at_call 113; with_reducible refine Calls.mono (asked_is _) ?_; rintro e w1 ⟨rfl, rfl⟩))
  go_ret
  exact ⟨_, rfl, ⟨_, _, rfl, second_cell w _ _ _ _, cell_later (new_below _ _ rfl) (new_cells w _ _ rfl 0 _ rfl)⟩, below_trans (new_below w _ rfl) (new_below _ _ rfl)⟩

set_option maxHeartbeats 1000000 in
theorem asked_isnot (w : World) : Calls Tryz.prog 113 #[.int .i64 20] w fun e w' => e = .returned (.func (.func 137) #[] #[]) ∧ w = w' := by
  have hmf : ∀ (fn : Fn) (first cap : Array Value) (w : World), (Instr.makeFunc fn first cap).run Tryz.prog w = .ok (.func fn first cap) w := fun _ _ _ _ => rfl
  go_enter Tryz.func113, Tryz.ntmps113
  go_wp2
  go_ret
  exact ⟨rfl, rfl⟩

set_option maxHeartbeats 1000000 in
theorem standing_isnot (c : Int) (w : World) : Calls Tryz.prog 83 #[.int .i64 20, .int .i64 c] w fun e w' => ∃ v, e = .returned v ∧ StFn w' 137 c v ∧ Below w.heap.size w w' := by
  have hmf : ∀ (fn : Fn) (first cap : Array Value) (w : World), (Instr.makeFunc fn first cap).run Tryz.prog w = .ok (.func fn first cap) w := fun _ _ _ _ => rfl
  go_enter Tryz.func83, Tryz.ntmps83
  go_wp2_with (first
    | (go_at_call 113; with_reducible refine Calls.mono (asked_isnot _) ?_; rintro e w1 ⟨rfl, rfl⟩))
  go_ret
  exact ⟨_, rfl, ⟨_, _, rfl, second_cell w _ _ _ _, cell_later (new_below _ _ rfl) (new_cells w _ _ rfl 0 _ rfl)⟩, below_trans (new_below w _ rfl) (new_below _ _ rfl)⟩

set_option maxHeartbeats 1000000 in
theorem settledBy_and (w : World) : Calls Tryz.prog 84 #[.bool false] w fun e w' => ∃ p : Nat, e = .returned (.func (.func 116) #[] #[.pointer (some ⟨p, 0, none⟩)]) ∧ w'.cell? ⟨p, 0, none⟩ = some (.bool false) ∧ Below w.heap.size w w' := by
  have hmf : ∀ (fn : Fn) (first cap : Array Value) (w : World), (Instr.makeFunc fn first cap).run Tryz.prog w = .ok (.func fn first cap) w := fun _ _ _ _ => rfl
  go_enter Tryz.func84, Tryz.ntmps84
  go_wp2
  go_ret
  exact ⟨_, rfl, new_cells w _ _ rfl 0 _ rfl, new_below w _ rfl⟩

set_option maxHeartbeats 1000000 in
theorem ofTwo_and (c : Int) (w : World) : Calls Tryz.prog 46 #[.int .i64 21, .int .i64 c] w fun e w' => ∃ p : Nat, e = .returned (.func (.func 116) #[] #[.pointer (some ⟨p, 0, none⟩)]) ∧ w'.cell? ⟨p, 0, none⟩ = some (.bool false) ∧ Below w.heap.size w w' := by
  go_enter Tryz.func46, Tryz.ntmps46
  go_wp2_with (first
    | (go_at_call 84; with_reducible refine Calls.mono (settledBy_and _) ?_; rintro e w1 ⟨p2, rfl, hA, hb1⟩))
  go_ret
  exact ⟨p2, rfl, hA, hb1⟩

set_option maxHeartbeats 1000000 in
theorem settledBy_or (w : World) : Calls Tryz.prog 84 #[.bool true] w fun e w' => ∃ p : Nat, e = .returned (.func (.func 116) #[] #[.pointer (some ⟨p, 0, none⟩)]) ∧ w'.cell? ⟨p, 0, none⟩ = some (.bool true) ∧ Below w.heap.size w w' := by
  have hmf : ∀ (fn : Fn) (first cap : Array Value) (w : World), (Instr.makeFunc fn first cap).run Tryz.prog w = .ok (.func fn first cap) w := fun _ _ _ _ => rfl
  go_enter Tryz.func84, Tryz.ntmps84
  go_wp2
  go_ret
  exact ⟨_, rfl, new_cells w _ _ rfl 0 _ rfl, new_below w _ rfl⟩

set_option maxHeartbeats 1000000 in
theorem ofTwo_or (c : Int) (w : World) : Calls Tryz.prog 46 #[.int .i64 22, .int .i64 c] w fun e w' => ∃ p : Nat, e = .returned (.func (.func 116) #[] #[.pointer (some ⟨p, 0, none⟩)]) ∧ w'.cell? ⟨p, 0, none⟩ = some (.bool true) ∧ Below w.heap.size w w' := by
  go_enter Tryz.func46, Tryz.ntmps46
  go_wp2_with (first
    | (go_at_call 84; with_reducible refine Calls.mono (settledBy_or _) ?_; rintro e w1 ⟨p2, rfl, hA, hb1⟩))
  go_ret
  exact ⟨p2, rfl, hA, hb1⟩

set_option maxHeartbeats 1000000 in
theorem ofTwo_concat (c : Int) (w : World) : Calls Tryz.prog 46 #[.int .i64 12, .int .i64 c] w fun e w' => ∃ p : Nat, e = .returned (.func (.func 112) #[] #[.pointer (some ⟨p, 0, none⟩)]) ∧ w'.cell? ⟨p, 0, none⟩ = some (.func (.func 82) #[] #[]) ∧ Below w.heap.size w w' := by
  have hmf : ∀ (fn : Fn) (first cap : Array Value) (w : World), (Instr.makeFunc fn first cap).run Tryz.prog w = .ok (.func fn first cap) w := fun _ _ _ _ => rfl
  go_enter Tryz.func46, Tryz.ntmps46
  go_wp2_with (first
    | (go_at_call 81; with_reducible refine Calls.mono (unlessNull_walk _ _ _ _) ?_; rintro e w1 ⟨p2, rfl, hA, hb1⟩))
  go_ret
  exact ⟨p2, rfl, hA, hb1⟩

set_option maxHeartbeats 1000000 in
theorem ofTwo_eq (c : Int) (w : World) : Calls Tryz.prog 46 #[.int .i64 13, .int .i64 c] w fun e w' => ∃ (p : Nat) (v : Value), e = .returned (.func (.func 112) #[] #[.pointer (some ⟨p, 0, none⟩)]) ∧ w'.cell? ⟨p, 0, none⟩ = some v ∧ StFn w' 142 c v ∧ Below w.heap.size w w' := by
  go_enter Tryz.func46, Tryz.ntmps46
  go_wp2_with (first
    | (go_at_call 83; with_reducible refine Calls.mono (standing_eq _ _) ?_; rintro e w1 ⟨v, rfl, hs, hb1⟩; obtain ⟨pf, pc, rfl, h1, h2⟩ := hs)
    | (go_at_call 81; with_reducible refine Calls.mono (unlessNull_walk _ _ _ _) ?_; rintro e w2 ⟨p2, rfl, hA, hb2⟩))
  go_ret
  exact ⟨p2, _, rfl, hA, ⟨pf, pc, rfl, cell_later hb2 h1, cell_later hb2 h2⟩, below_trans hb1 hb2⟩

set_option maxHeartbeats 1000000 in
theorem ofTwo_ne (c : Int) (w : World) : Calls Tryz.prog 46 #[.int .i64 14, .int .i64 c] w fun e w' => ∃ (p : Nat) (v : Value), e = .returned (.func (.func 112) #[] #[.pointer (some ⟨p, 0, none⟩)]) ∧ w'.cell? ⟨p, 0, none⟩ = some v ∧ StFn w' 137 c v ∧ Below w.heap.size w w' := by
  go_enter Tryz.func46, Tryz.ntmps46
  go_wp2_with (first
    | (go_at_call 83; with_reducible refine Calls.mono (standing_ne _ _) ?_; rintro e w1 ⟨v, rfl, hs, hb1⟩; obtain ⟨pf, pc, rfl, h1, h2⟩ := hs)
    | (go_at_call 81; with_reducible refine Calls.mono (unlessNull_walk _ _ _ _) ?_; rintro e w2 ⟨p2, rfl, hA, hb2⟩))
  go_ret
  exact ⟨p2, _, rfl, hA, ⟨pf, pc, rfl, cell_later hb2 h1, cell_later hb2 h2⟩, below_trans hb1 hb2⟩

set_option maxHeartbeats 1000000 in
theorem ofTwo_lt (c : Int) (w : World) : Calls Tryz.prog 46 #[.int .i64 15, .int .i64 c] w fun e w' => ∃ (p : Nat) (v : Value), e = .returned (.func (.func 112) #[] #[.pointer (some ⟨p, 0, none⟩)]) ∧ w'.cell? ⟨p, 0, none⟩ = some v ∧ StFn w' 138 c v ∧ Below w.heap.size w w' := by
  go_enter Tryz.func46, Tryz.ntmps46
  go_wp2_with (first
    | (go_at_call 83; with_reducible refine Calls.mono (standing_lt _ _) ?_; rintro e w1 ⟨v, rfl, hs, hb1⟩; obtain ⟨pf, pc, rfl, h1, h2⟩ := hs)
    | (go_at_call 81; with_reducible refine Calls.mono (unlessNull_walk _ _ _ _) ?_; rintro e w2 ⟨p2, rfl, hA, hb2⟩))
  go_ret
  exact ⟨p2, _, rfl, hA, ⟨pf, pc, rfl, cell_later hb2 h1, cell_later hb2 h2⟩, below_trans hb1 hb2⟩

set_option maxHeartbeats 1000000 in
theorem ofTwo_le (c : Int) (w : World) : Calls Tryz.prog 46 #[.int .i64 16, .int .i64 c] w fun e w' => ∃ (p : Nat) (v : Value), e = .returned (.func (.func 112) #[] #[.pointer (some ⟨p, 0, none⟩)]) ∧ w'.cell? ⟨p, 0, none⟩ = some v ∧ StFn w' 139 c v ∧ Below w.heap.size w w' := by
  go_enter Tryz.func46, Tryz.ntmps46
  go_wp2_with (first
    | (go_at_call 83; with_reducible refine Calls.mono (standing_le _ _) ?_; rintro e w1 ⟨v, rfl, hs, hb1⟩; obtain ⟨pf, pc, rfl, h1, h2⟩ := hs)
    | (go_at_call 81; with_reducible refine Calls.mono (unlessNull_walk _ _ _ _) ?_; rintro e w2 ⟨p2, rfl, hA, hb2⟩))
  go_ret
  exact ⟨p2, _, rfl, hA, ⟨pf, pc, rfl, cell_later hb2 h1, cell_later hb2 h2⟩, below_trans hb1 hb2⟩

set_option maxHeartbeats 1000000 in
theorem ofTwo_gt (c : Int) (w : World) : Calls Tryz.prog 46 #[.int .i64 17, .int .i64 c] w fun e w' => ∃ (p : Nat) (v : Value), e = .returned (.func (.func 112) #[] #[.pointer (some ⟨p, 0, none⟩)]) ∧ w'.cell? ⟨p, 0, none⟩ = some v ∧ StFn w' 140 c v ∧ Below w.heap.size w w' := by
  go_enter Tryz.func46, Tryz.ntmps46
  go_wp2_with (first
    | (go_at_call 83; with_reducible refine Calls.mono (standing_gt _ _) ?_; rintro e w1 ⟨v, rfl, hs, hb1⟩; obtain ⟨pf, pc, rfl, h1, h2⟩ := hs)
    | (go_at_call 81; with_reducible refine Calls.mono (unlessNull_walk _ _ _ _) ?_; rintro e w2 ⟨p2, rfl, hA, hb2⟩))
  go_ret
  exact ⟨p2, _, rfl, hA, ⟨pf, pc, rfl, cell_later hb2 h1, cell_later hb2 h2⟩, below_trans hb1 hb2⟩

set_option maxHeartbeats 1000000 in
theorem ofTwo_ge (c : Int) (w : World) : Calls Tryz.prog 46 #[.int .i64 18, .int .i64 c] w fun e w' => ∃ (p : Nat) (v : Value), e = .returned (.func (.func 112) #[] #[.pointer (some ⟨p, 0, none⟩)]) ∧ w'.cell? ⟨p, 0, none⟩ = some v ∧ StFn w' 141 c v ∧ Below w.heap.size w w' := by
  go_enter Tryz.func46, Tryz.ntmps46
  go_wp2_with (first
    | (go_at_call 83; with_reducible refine Calls.mono (standing_ge _ _) ?_; rintro e w1 ⟨v, rfl, hs, hb1⟩; obtain ⟨pf, pc, rfl, h1, h2⟩ := hs)
    | (go_at_call 81; with_reducible refine Calls.mono (unlessNull_walk _ _ _ _) ?_; rintro e w2 ⟨p2, rfl, hA, hb2⟩))
  go_ret
  exact ⟨p2, _, rfl, hA, ⟨pf, pc, rfl, cell_later hb2 h1, cell_later hb2 h2⟩, below_trans hb1 hb2⟩

set_option maxHeartbeats 1000000 in
theorem ofTwo_is (c : Int) (w : World) : Calls Tryz.prog 46 #[.int .i64 19, .int .i64 c] w fun e w' => ∃ v, e = .returned v ∧ StFn w' 142 c v ∧ Below w.heap.size w w' := by
  go_enter Tryz.func46, Tryz.ntmps46
  go_wp2_with (first
    | (go_at_call 83; with_reducible refine Calls.mono (standing_is _ _) ?_; rintro e w1 ⟨v, rfl, hA, hb1⟩))
  go_ret
  exact ⟨v, rfl, hA, hb1⟩

set_option maxHeartbeats 1000000 in
theorem ofTwo_isnot (c : Int) (w : World) : Calls Tryz.prog 46 #[.int .i64 20, .int .i64 c] w fun e w' => ∃ v, e = .returned v ∧ StFn w' 137 c v ∧ Below w.heap.size w w' := by
  go_enter Tryz.func46, Tryz.ntmps46
  go_wp2_with (first
    | (go_at_call 83; with_reducible refine Calls.mono (standing_isnot _ _) ?_; rintro e w1 ⟨v, rfl, hA, hb1⟩))
  go_ret
  exact ⟨v, rfl, hA, hb1⟩
end Go.Proofs.YtoekdeoekcmpgaaGreatDoor
