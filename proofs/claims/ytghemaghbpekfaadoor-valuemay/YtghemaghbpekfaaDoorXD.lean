/- value.Text, value.Blob. -/
import Derived.Test.YtghemaghbpekfaaDoorXC
namespace Go.Proofs.YtghemaghbpekfaaDoor
open Go.ChangeShapes Go.WideShapes Go.ChangeAt Go.RowKit
set_option linter.unusedVariables false

set_option maxRecDepth 10000 in
theorem made_ok (k : Int) (s : ByteArray) (h : s.size ≤ 400) (w : World) : Calls Tryd.prog 20 #[.int .i64 k, .string s] w fun e w' => e = .returned (.tuple #[.agg #[.int .i64 k, .int .i64 0, .string s], .int .i64 0]) ∧ Below w.heap.size w w' := by
  have l : ¬ (400 : Int) < (s.size : Int) := by omega
  go_enter Tryd.func20, Tryd.ntmps20
  go_wp2_with fail
  go_returns
  exact ⟨rfl, new_below w _ rfl⟩
set_option maxRecDepth 10000 in
theorem made_long (k : Int) (s : ByteArray) (h : ¬ s.size ≤ 400) (w : World) : Calls Tryd.prog 20 #[.int .i64 k, .string s] w fun e w' => e = .returned (.tuple #[.agg #[.int .i64 0, .int .i64 0, .string ⟨#[]⟩], .int .i64 3]) ∧ Below w.heap.size w w' := by
  have l : (400 : Int) < (s.size : Int) := by omega
  go_enter Tryd.func20, Tryd.ntmps20
  go_wp2_with fail
  go_returns
  exact ⟨rfl, new_below w _ rfl⟩

set_option maxRecDepth 10000 in
theorem text_of (s : ByteArray) (x : Int) (y : ByteArray) (q : Int) (w : World) (h : ∀ V, Calls Tryd.prog 20 #[.int .i64 2, .string s] V fun e w' => e = .returned (.tuple #[.agg #[.int .i64 x, .int .i64 0, .string y], .int .i64 q]) ∧ Below V.heap.size V w') : Calls Tryd.prog 13 #[.string s] w fun e w' => e = .returned (.tuple #[.agg #[.int .i64 x, .int .i64 0, .string y], .int .i64 q]) ∧ Below w.heap.size w w' := by
  have HM := hide h
  clear h
  have HR : Hid (∀ V, Below (w.alloc (.cells #[.int .i64 0, .int .i64 0, .string ⟨#[]⟩] 31)).heap.size (w.alloc (.cells #[.int .i64 0, .int .i64 0, .string ⟨#[]⟩] 31)) V → V.heap[w.heap.size]? = some (.cells #[.int .i64 0, .int .i64 0, .string ⟨#[]⟩] 31 (0, 0))) := fun V hV => res_block w _ _ _ _ hV
  go_enter Tryd.func13, Tryd.ntmps13
  go_wp2_with (first
    | (go_at_call 20; (with_reducible refine Calls.mono (HM.out _) ?_); rintro e w1 ⟨rfl, hb⟩; have HX := hide hb; have hk := HR.out _ HX.out; have HK := hide hk; obtain ⟨c0, c1, c2, f0, f1, f2⟩ := res_facts hk; clear hb hk))
  exact ret_val2 Tryd.results13 rfl rfl HK.out ⟨rfl, below_set3 (below_trans (new_below w _ rfl) HX.out) _ _ _⟩
theorem text_ok (s : ByteArray) (h : s.size ≤ 400) (w : World) : Calls Tryd.prog 13 #[.string s] w fun e w' => e = .returned (.tuple #[.agg #[.int .i64 2, .int .i64 0, .string s], .int .i64 0]) ∧ Below w.heap.size w w' := text_of s _ _ _ w fun V => made_ok 2 s h V
theorem text_long (s : ByteArray) (h : ¬ s.size ≤ 400) (w : World) : Calls Tryd.prog 13 #[.string s] w fun e w' => e = .returned (.tuple #[.agg #[.int .i64 0, .int .i64 0, .string ⟨#[]⟩], .int .i64 3]) ∧ Below w.heap.size w w' := text_of s _ _ _ w fun V => made_long 2 s h V

set_option maxRecDepth 10000 in
theorem blob_of (s : ByteArray) (x : Int) (y : ByteArray) (q : Int) (w : World) (h : ∀ V, Calls Tryd.prog 20 #[.int .i64 3, .string s] V fun e w' => e = .returned (.tuple #[.agg #[.int .i64 x, .int .i64 0, .string y], .int .i64 q]) ∧ Below V.heap.size V w') : Calls Tryd.prog 14 #[.string s] w fun e w' => e = .returned (.tuple #[.agg #[.int .i64 x, .int .i64 0, .string y], .int .i64 q]) ∧ Below w.heap.size w w' := by
  have HM := hide h
  clear h
  have HR : Hid (∀ V, Below (w.alloc (.cells #[.int .i64 0, .int .i64 0, .string ⟨#[]⟩] 31)).heap.size (w.alloc (.cells #[.int .i64 0, .int .i64 0, .string ⟨#[]⟩] 31)) V → V.heap[w.heap.size]? = some (.cells #[.int .i64 0, .int .i64 0, .string ⟨#[]⟩] 31 (0, 0))) := fun V hV => res_block w _ _ _ _ hV
  go_enter Tryd.func14, Tryd.ntmps14
  go_wp2_with (first
    | (go_at_call 20; (with_reducible refine Calls.mono (HM.out _) ?_); rintro e w1 ⟨rfl, hb⟩; have HX := hide hb; have hk := HR.out _ HX.out; have HK := hide hk; obtain ⟨c0, c1, c2, f0, f1, f2⟩ := res_facts hk; clear hb hk))
  exact ret_val2 Tryd.results14 rfl rfl HK.out ⟨rfl, below_set3 (below_trans (new_below w _ rfl) HX.out) _ _ _⟩
theorem blob_ok (s : ByteArray) (h : s.size ≤ 400) (w : World) : Calls Tryd.prog 14 #[.string s] w fun e w' => e = .returned (.tuple #[.agg #[.int .i64 3, .int .i64 0, .string s], .int .i64 0]) ∧ Below w.heap.size w w' := blob_of s _ _ _ w fun V => made_ok 3 s h V
theorem blob_long (s : ByteArray) (h : ¬ s.size ≤ 400) (w : World) : Calls Tryd.prog 14 #[.string s] w fun e w' => e = .returned (.tuple #[.agg #[.int .i64 0, .int .i64 0, .string ⟨#[]⟩], .int .i64 3]) ∧ Below w.heap.size w w' := blob_of s _ _ _ w fun V => made_long 3 s h V

end Go.Proofs.YtghemaghbpekfaaDoor
