/- The walk of ValuePrints. -/
import Derived.Test.YtghemaghbpekfaaDoorRB
namespace Go.Proofs.YtghemaghbpekfaaDoor
open Go.ChangeShapes Go.WideShapes Go.ChangeAt Go.RowKit
set_option linter.unusedVariables false

set_option maxHeartbeats 2000000 in
set_option maxRecDepth 10000 in
theorem prints_walk (k n : Int) (t : ByteArray) (h0 : -9223372036854775808 ≤ n) (h1 : n ≤ 9223372036854775807) (w : World) (hE : Env w) :
    Calls Tryd.prog 4 #[val k n t] w fun e w' => e = .returned (.bool true) ∧ Below w.heap.size w w' := by
  obtain ⟨r, c, hp, hP⟩ := print_walk k n t h0 h1
  have HP : Hid (∀ w, Env w → Calls Tryd.prog 16 #[.agg #[.int .i64 k, .int .i64 n, .string t]] w fun e w' => e = .returned (.tuple #[.string r, .int .i64 c]) ∧ Below w.heap.size w w') := hP
  have HR : Hid (∀ w, Env w → Calls Tryd.prog 17 #[.agg #[.int .i64 k, .int .i64 n, .string t]] w fun e w' => e = .returned (.tuple #[.string r, .int .i64 c]) ∧ Below w.heap.size w w') := fun w hE => rprint_walk k n t h0 h1 r c hp w hE
  have HV : Hid (∀ V, Below (w.alloc (.cells #[.int .i64 k, .int .i64 n, .string t] 31)).heap.size (w.alloc (.cells #[.int .i64 k, .int .i64 n, .string t] 31)) V → _) := later_block w (.int .i64 k) (.int .i64 n) (.string t) 31
  have HE : Hid (∀ V, Below (w.alloc (.cells #[.int .i64 k, .int .i64 n, .string t] 31)).heap.size (w.alloc (.cells #[.int .i64 k, .int .i64 n, .string t] 31)) V → Env V) := fun V h => (hE.below (new_below w _ rfl)).below h
  have HE0 : Hid (Env (w.alloc (.cells #[.int .i64 k, .int .i64 n, .string t] 31))) := hE.below (new_below w _ rfl)
  have HB0 : Hid (∀ V, Below (w.alloc (.cells #[.int .i64 k, .int .i64 n, .string t] 31)).heap.size (w.alloc (.cells #[.int .i64 k, .int .i64 n, .string t] 31)) V → Below w.heap.size w V) := fun V h => below_trans (new_below w _ rfl) h
  clear hP hp
  go_enter Tryd.func4, Tryd.ntmps4
  go_wp2_with (first
    | (go_at_call 16; with_reducible refine Calls.mono (HP.out _ HE0.out) ?_; rintro e w1 ⟨rfl, hb1⟩; obtain ⟨a0, a1, a2, b0, b1, b2⟩ := HV.out _ hb1; have HB1 := hide hb1; clear hb1)
    | (go_at_call 17; with_reducible refine Calls.mono (HR.out _ (HE.out _ HB1.out)) ?_; rintro e w2 ⟨rfl, hb2⟩; have HB2 := hide (below_trans HB1.out hb2); clear hb2)
    | (go_at_call 7; with_reducible refine Calls.mono (head_walk _ (HE.out _ HB2.out)) ?_; rintro e w3 ⟨rfl, hb3⟩; have HB3 := hide (below_trans HB2.out hb3); clear hb3))
  go_ret
  exact ⟨by simp, HB0.out _ HB3.out⟩
end Go.Proofs.YtghemaghbpekfaaDoor
