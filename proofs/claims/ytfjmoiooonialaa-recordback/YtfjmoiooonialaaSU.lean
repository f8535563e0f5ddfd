/- The law's own calls at fixed inputs. -/
import Derived.Test.YtfjmoiooonialaaST
import Derived.Test.YtfjmoiooonialaaSK
namespace Go.Proofs.Ytfjmoiooonialaa
open Go.ChangeShapes Go.WideShapes Go.ChangeAt Go.RowKit
set_option linter.unusedVariables false

abbrev fiveCells : Array Value := #[.int .i64 0, .int .i64 0, .string ⟨#[]⟩, .int .i64 1, .int .i64 1, .string ⟨#[]⟩, .int .i64 1, .int .i64 (-2), .string ⟨#[]⟩, .int .i64 1, .int .i64 300, .string ⟨#[]⟩, .int .i64 2, .int .i64 0, .string ⟨#[97, 98]⟩]
theorem five_new (w : World) : Five (w.alloc (.cells fiveCells 46)) w.heap.size := by
  have h := blk_new w (.cells fiveCells 46)
  refine ⟨?_, ?_, ?_, ?_, ?_, ?_, ?_, ?_, ?_, ?_, ?_, ?_, ?_, ?_, ?_⟩ <;> (rw [block_cell h]; rfl)

set_option maxHeartbeats 8000000 in
set_option maxRecDepth 10000 in
theorem awake_walk (w : World) : Calls Try.prog 11 #[] w fun e w' => e = .returned (.bool true) ∧ Below w.heap.size w w' := by
  have HP := hide (put_of 128 ⟨#[129, 0]⟩ (by decide) (by decide))
  have HN := hide (new_below w (.cells fiveCells 46) rfl)
  go_enter Try.func11, Try.ntmps11
  go_wp2_with (first
    | (go_at_call 13; (with_reducible refine Calls.mono (encode_five _ _ (five_new w)) ?_); rintro e w1 ⟨rfl, hb⟩; have HB1 := hide (below_trans HN.out hb); clear hb)
    | (go_at_call 16; (with_reducible refine Calls.mono (decode_bad _) ?_); rintro e w2 ⟨rfl, hb⟩; have HB2 := hide (below_trans HB1.out hb); clear hb)
    | (go_at_call 9; (with_reducible refine Calls.mono (HP.out _) ?_); rintro e w3 ⟨rfl, hb⟩; have HB3 := hide (below_trans HB2.out hb); clear hb))
  go_ret
  exact ⟨rfl, HB3.out⟩
end Go.Proofs.Ytfjmoiooonialaa
