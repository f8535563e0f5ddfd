/- The walk of ValueReads. -/
import Derived.Test.YtghemaghbpekfaaDoorRU
namespace Go.Proofs.YtghemaghbpekfaaDoor
open Go.ChangeShapes Go.WideShapes Go.ChangeAt Go.RowKit
set_option linter.unusedVariables false

set_option maxHeartbeats 2000000 in
set_option maxRecDepth 10000 in
theorem reads_walk (s : ByteArray) (w : World) (hE : Env w) :
    Calls Tryd.prog 5 #[.string s] w fun e w' => e = .returned (.bool true) ∧ Below w.heap.size w w' := by
  obtain ⟨k2, n2, t2, c2, hR, hRd⟩ := read_fixed s
  have HRd : Hid (∀ w, Env w → Calls Tryd.prog 18 #[.string s] w fun e w' => e = .returned (.tuple #[.agg #[.int .i64 k2, .int .i64 n2, .string t2], .int .i64 c2]) ∧ Below w.heap.size w w') := hRd
  have HRr : Hid (∀ w, Calls Tryd.prog 19 #[.string s] w fun e w' => e = .returned (.tuple #[.agg #[.int .i64 k2, .int .i64 n2, .string t2], .int .i64 c2]) ∧ Below w.heap.size w w') := fun w => rread_walk s k2 n2 t2 c2 hR w
  have HE : Hid (∀ V, Below w.heap.size w V → Env V) := fun V h => hE.below h
  have HE0 : Hid (Env w) := hE
  clear hR hRd hE
  go_enter Tryd.func5, Tryd.ntmps5
  go_wp2_with (first
    | (go_at_call 18; with_reducible refine Calls.mono (HRd.out _ HE0.out) ?_; rintro e w1 ⟨rfl, hb1⟩; have HB1 := hide hb1; clear hb1)
    | (go_at_call 19; with_reducible refine Calls.mono (HRr.out _) ?_; rintro e w2 ⟨rfl, hb2⟩; obtain ⟨a0, a1, a2, b0, b1, b2⟩ := later_block w1 (.int .i64 k2) (.int .i64 n2) (.string t2) 31 _ hb2; have HB2 := hide (below_trans HB1.out (below_trans (new_below w1 _ rfl) hb2)); have HBr := hide hb2; clear hb2)
    | (go_at_call 7; with_reducible refine Calls.mono (head_walk _ (HE.out _ (below_trans HB2.out (new_below w2 _ rfl)))) ?_; rintro e w3 ⟨rfl, hb3⟩; obtain ⟨g0, g1, g2, q0, q1, q2⟩ := later_block w2 (.int .i64 k2) (.int .i64 n2) (.string t2) 31 _ hb3; obtain ⟨a0, a1, a2, b0, b1, b2⟩ := later_block w1 (.int .i64 k2) (.int .i64 n2) (.string t2) 31 _ (below_trans HBr.out (below_trans (new_below w2 _ rfl) hb3)); have HB3 := hide (below_trans HB2.out (below_trans (new_below w2 _ rfl) hb3)); clear hb3))
  go_ret
  exact ⟨by simp, HB3.out⟩
end Go.Proofs.YtghemaghbpekfaaDoor
