/- The walk of ValueMay over no values. -/
import Derived.Test.YtghemaghbpekfaaDoorXE
namespace Go.Proofs.YtghemaghbpekfaaDoor
open Go.ChangeShapes Go.WideShapes Go.ChangeAt Go.RowKit
set_option linter.unusedVariables false

theorem rcheck_empty (a : Addr) (cap : Nat) (w : World) : Calls Tryd.prog 10 #[.slice (some a) 0 cap] w fun e w' => e = .returned (.int .i64 0) ∧ w = w' := by
  go_enter Tryd.func10, Tryd.ntmps10
  go_wp2
  refine wp_loop_rounds 1 ?_
  rw [rounds_succ]
  go_wp2
  go_ret
  exact ⟨rfl, rfl⟩
theorem copy_none (w : World) : Calls Tryd.prog 9 #[.slice none 0 0] w fun e w' => e = .returned (.slice none 0 0) ∧ w = w' := by
  go_enter Tryd.func9, Tryd.ntmps9
  go_wp2
  go_ret
  exact ⟨rfl, rfl⟩
theorem copy_empty (a : Addr) (cap : Nat) (w : World) : Calls Tryd.prog 9 #[.slice (some a) 0 cap] w fun e w' => e = .returned (.slice none 0 0) ∧ w = w' := by
  go_enter Tryd.func9, Tryd.ntmps9
  go_wp2
  go_ret
  exact ⟨rfl, rfl⟩

set_option maxHeartbeats 2000000 in
set_option maxRecDepth 10000 in
theorem vmay_none (n : Int) (s : ByteArray) (w : World) (hE : Env w) : Calls Tryd.prog 3 #[.slice none 0 0, .int .i64 n, .string s] w fun e w' => e = .returned (.bool true) ∧ Below w.heap.size w w' := by
  have HH := hide (head_walk w hE)
  clear hE
  go_enter Tryd.func3, Tryd.ntmps3
  go_wp2_with (first
    | (go_at_call 7; (with_reducible refine Calls.mono HH.out ?_); rintro e w1 ⟨rfl, hb⟩; have HB := hide hb; clear hb)
    | (go_at_call 9; (with_reducible refine Calls.mono (copy_none _) ?_); rintro e w2 ⟨rfl, rfl⟩)
    | (go_at_call 8; (with_reducible refine Calls.mono (check_none _) ?_); rintro e w3 ⟨rfl, rfl⟩)
    | (go_at_call 10; (with_reducible refine Calls.mono (rcheck_none _) ?_); rintro e w4 ⟨rfl, rfl⟩))
  refine wp_loop_rounds 1 ?_
  rw [rounds_succ]
  have HI : Hid (∀ V, Calls Tryd.prog 15 #[.int .i64 n] V fun e w' => e = .returned (.agg #[.int .i64 1, .int .i64 n, .string ⟨#[]⟩]) ∧ Below V.heap.size V w') := fun V => int_walk n V
  by_cases h4 : s.size ≤ 400
  · have l4 : ¬ (400 : Int) < (s.size : Int) := by omega
    have HT := hide (fun V => text_ok s h4 V)
    have HU := hide (fun V => blob_ok s h4 V)
    go_wp2_with (first
      | (go_at_call 13; (with_reducible refine Calls.mono (HT.out _) ?_); rintro e w5 ⟨rfl, hb⟩; have HB5 := hide (below_trans (below_trans HB.out hb) (new_below w5 (.cells #[.int .i64 2, .int .i64 0, .string s] 31) rfl)); clear hb)
      | (go_at_call 14; (with_reducible refine Calls.mono (HU.out _) ?_); rintro e w6 ⟨rfl, hb⟩; have HB6 := hide (below_trans (below_trans HB5.out hb) (new_below w6 (.cells #[.int .i64 3, .int .i64 0, .string s] 31) rfl)); have HX6 := hide hb; clear hb)
      | (go_at_call 15; (with_reducible refine Calls.mono (HI.out _) ?_); rintro e w7 ⟨rfl, hb⟩; have HB7 := hide (below_trans HB6.out hb); have HX7 := hide hb; obtain ⟨c0, c1, c2, c3, c4, c5⟩ := two_res HX6.out HX7.out; clear hb))
    go_ret
    exact ⟨rfl, HB7.out⟩
  · have l4 : (400 : Int) < (s.size : Int) := by omega
    have HT := hide (fun V => text_long s h4 V)
    have HU := hide (fun V => blob_long s h4 V)
    go_wp2_with (first
      | (go_at_call 13; (with_reducible refine Calls.mono (HT.out _) ?_); rintro e w5 ⟨rfl, hb⟩; have HB5 := hide (below_trans (below_trans HB.out hb) (new_below w5 (.cells #[.int .i64 0, .int .i64 0, .string ⟨#[]⟩] 31) rfl)); clear hb)
      | (go_at_call 14; (with_reducible refine Calls.mono (HU.out _) ?_); rintro e w6 ⟨rfl, hb⟩; have HB6 := hide (below_trans (below_trans HB5.out hb) (new_below w6 (.cells #[.int .i64 0, .int .i64 0, .string ⟨#[]⟩] 31) rfl)); have HX6 := hide hb; clear hb)
      | (go_at_call 15; (with_reducible refine Calls.mono (HI.out _) ?_); rintro e w7 ⟨rfl, hb⟩; have HB7 := hide (below_trans HB6.out hb); have HX7 := hide hb; obtain ⟨c0, c1, c2, c3, c4, c5⟩ := two_res HX6.out HX7.out; clear hb))
    go_ret
    exact ⟨rfl, HB7.out⟩

set_option maxHeartbeats 2000000 in
set_option maxRecDepth 10000 in
theorem vmay_empty (a : Addr) (cap : Nat) (n : Int) (s : ByteArray) (w : World) (hE : Env w) : Calls Tryd.prog 3 #[.slice (some a) 0 cap, .int .i64 n, .string s] w fun e w' => e = .returned (.bool true) ∧ Below w.heap.size w w' := by
  have HH := hide (head_walk w hE)
  clear hE
  go_enter Tryd.func3, Tryd.ntmps3
  go_wp2_with (first
    | (go_at_call 7; (with_reducible refine Calls.mono HH.out ?_); rintro e w1 ⟨rfl, hb⟩; have HB := hide hb; clear hb)
    | (go_at_call 9; (with_reducible refine Calls.mono (copy_empty a cap _) ?_); rintro e w2 ⟨rfl, rfl⟩)
    | (go_at_call 8; (with_reducible refine Calls.mono (check_none _) ?_); rintro e w3 ⟨rfl, rfl⟩)
    | (go_at_call 10; (with_reducible refine Calls.mono (rcheck_empty a cap _) ?_); rintro e w4 ⟨rfl, rfl⟩))
  refine wp_loop_rounds 1 ?_
  rw [rounds_succ]
  have HI : Hid (∀ V, Calls Tryd.prog 15 #[.int .i64 n] V fun e w' => e = .returned (.agg #[.int .i64 1, .int .i64 n, .string ⟨#[]⟩]) ∧ Below V.heap.size V w') := fun V => int_walk n V
  by_cases h4 : s.size ≤ 400
  · have l4 : ¬ (400 : Int) < (s.size : Int) := by omega
    have HT := hide (fun V => text_ok s h4 V)
    have HU := hide (fun V => blob_ok s h4 V)
    go_wp2_with (first
      | (go_at_call 13; (with_reducible refine Calls.mono (HT.out _) ?_); rintro e w5 ⟨rfl, hb⟩; have HB5 := hide (below_trans (below_trans HB.out hb) (new_below w5 (.cells #[.int .i64 2, .int .i64 0, .string s] 31) rfl)); clear hb)
      | (go_at_call 14; (with_reducible refine Calls.mono (HU.out _) ?_); rintro e w6 ⟨rfl, hb⟩; have HB6 := hide (below_trans (below_trans HB5.out hb) (new_below w6 (.cells #[.int .i64 3, .int .i64 0, .string s] 31) rfl)); have HX6 := hide hb; clear hb)
      | (go_at_call 15; (with_reducible refine Calls.mono (HI.out _) ?_); rintro e w7 ⟨rfl, hb⟩; have HB7 := hide (below_trans HB6.out hb); have HX7 := hide hb; obtain ⟨c0, c1, c2, c3, c4, c5⟩ := two_res HX6.out HX7.out; clear hb))
    go_ret
    exact ⟨rfl, HB7.out⟩
  · have l4 : (400 : Int) < (s.size : Int) := by omega
    have HT := hide (fun V => text_long s h4 V)
    have HU := hide (fun V => blob_long s h4 V)
    go_wp2_with (first
      | (go_at_call 13; (with_reducible refine Calls.mono (HT.out _) ?_); rintro e w5 ⟨rfl, hb⟩; have HB5 := hide (below_trans (below_trans HB.out hb) (new_below w5 (.cells #[.int .i64 0, .int .i64 0, .string ⟨#[]⟩] 31) rfl)); clear hb)
      | (go_at_call 14; (with_reducible refine Calls.mono (HU.out _) ?_); rintro e w6 ⟨rfl, hb⟩; have HB6 := hide (below_trans (below_trans HB5.out hb) (new_below w6 (.cells #[.int .i64 0, .int .i64 0, .string ⟨#[]⟩] 31) rfl)); have HX6 := hide hb; clear hb)
      | (go_at_call 15; (with_reducible refine Calls.mono (HI.out _) ?_); rintro e w7 ⟨rfl, hb⟩; have HB7 := hide (below_trans HB6.out hb); have HX7 := hide hb; obtain ⟨c0, c1, c2, c3, c4, c5⟩ := two_res HX6.out HX7.out; clear hb))
    go_ret
    exact ⟨rfl, HB7.out⟩

end Go.Proofs.YtghemaghbpekfaaDoor
