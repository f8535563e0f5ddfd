/- The order of a column: how two values stand by it. -/
import Derived.Test.YtfjmoiooonialaaDoorVC2
import Derived.Test.YtfjmoiooonialaaDoorRD
import Derived.Test.YtfjmoiooonialaaDoorXJ
import Derived.LoopN
namespace Go.Proofs.YtfjmoiooonialaaDoor
open Go.ChangeShapes Go.WideShapes Go.ChangeAt Go.RowKit
set_option linter.unusedVariables false

theorem cmpA_neg (k1 n1 : Int) (t1 : ByteArray) (k2 n2 : Int) (t2 : ByteArray) (c : Int) : cmpA k2 n2 t2 k1 n1 t1 c = -cmpA k1 n1 t1 k2 n2 t2 c := by
  unfold cmpA
  by_cases h : mayB k1 n1 t1 = true ∧ mayB k2 n2 t2 = true
  · rw [if_pos h, if_pos h.symm]
    exact cmpV_neg _ _ _ _ _ _ _
  · rw [if_neg h, if_neg (fun h' => h h'.symm)]
    rfl
theorem cmpA_range (k1 n1 : Int) (t1 : ByteArray) (k2 n2 : Int) (t2 : ByteArray) (c : Int) : -1 ≤ cmpA k1 n1 t1 k2 n2 t2 c ∧ cmpA k1 n1 t1 k2 n2 t2 c ≤ 1 := by
  unfold cmpA
  split
  · exact cmpV_range _ _ _ _ _ _ _
  · omega

/-- How two values stand by the order of their column. -/
def ordA (k1 n1 : Int) (t1 : ByteArray) (k2 n2 : Int) (t2 : ByteArray) (c : Int) : Bool → Int
  | true => -cmpA k1 n1 t1 k2 n2 t2 c
  | false => cmpA k1 n1 t1 k2 n2 t2 c

set_option maxHeartbeats 1000000 in
set_option maxRecDepth 10000 in
theorem cmpBy_walk (k1 n1 : Int) (t1 : ByteArray) (k2 n2 : Int) (t2 : ByteArray) (c : Int) (d : Bool) (w : World) : Calls Tryd.prog 16 #[val k1 n1 t1, val k2 n2 t2, .agg #[.int .i64 c, .bool d]] w fun e w' => e = .returned (.int .i64 (ordA k1 n1 t1 k2 n2 t2 c d)) ∧ Below w.heap.size w w' := by
  have HW : Hid (∀ k1 n1 t1 k2 n2 t2 c V, Calls Tryd.prog 30 #[.agg #[.int .i64 k1, .int .i64 n1, .string t1], .agg #[.int .i64 k2, .int .i64 n2, .string t2], .int .i64 c] V fun e w' => e = .returned (.int .i64 (cmpA k1 n1 t1 k2 n2 t2 c)) ∧ Below V.heap.size V w') := fun k1 n1 t1 k2 n2 t2 c V => cmp_walk k1 n1 t1 k2 n2 t2 c V
  have HNg := hide (cmpA_neg k1 n1 t1 k2 n2 t2 c)
  cases d
  · go_enter Tryd.func16, Tryd.ntmps16
    go_wp2_with (first
      | (go_at_call 30; with_reducible refine Calls.mono (HW.out _ _ _ _ _ _ _ _) ?_; rintro e w1 ⟨rfl, hb⟩; have HX := hide hb; clear hb))
    go_ret
    refine ⟨rfl, ?_⟩
    exact (((Below.refl _ _).alloc (Nat.le_refl _) _).alloc (by simp) _ |>.alloc (by simp; omega) _).trans (HX.out.mono (by simp; omega))
  · go_enter Tryd.func16, Tryd.ntmps16
    go_wp2_with (first
      | (go_at_call 30; with_reducible refine Calls.mono (HW.out _ _ _ _ _ _ _ _) ?_; rintro e w1 ⟨rfl, hb⟩; have HX := hide hb; clear hb))
    go_ret
    refine ⟨congrArg (fun x => Ending.returned (.int .i64 x)) HNg.out, ?_⟩
    exact (((Below.refl _ _).alloc (Nat.le_refl _) _).alloc (by simp) _ |>.alloc (by simp; omega) _).trans (HX.out.mono (by simp; omega))
end Go.Proofs.YtfjmoiooonialaaDoor
