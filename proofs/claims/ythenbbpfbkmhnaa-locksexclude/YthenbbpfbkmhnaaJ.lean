/- Some answers that the document fixes. -/
import Derived.Test.YthenbbpfbkmhnaaE
namespace Go.Proofs.Ythenbbpfbkmhnaa
open Go.ChangeShapes Go.WideShapes Go.ChangeAt Go.RowKit
set_option linter.unusedVariables false

theorem take_self (w : World) (g : Nat) (L L' : List Int) (h8 : L.length = 8) (hb : TB w g L) (c l e0 : Int) (he : tkE L c l = e0) (hh : tkH L c l = L') : Calls Try.prog 7 #[.pointer (some ⟨g, 0, none⟩), .int .i64 c, .int .i64 l] w fun e w' => e = .returned (.int .i64 e0) ∧ TB w' g L' ∧ Only [g] w w' := by
  subst he hh; exact take_some w g L h8 hb c l
def w1 : List Int := [1, 0, 0, 0, 0, 0, 0, 0]
def w2 : List Int := [1, 2, 0, 0, 0, 0, 0, 0]
set_option maxHeartbeats 1000000 in
theorem awake_any (w : World) : Calls Try.prog 5 #[] w fun e w' => e = .returned (.bool true) ∧ Only [] w w' := by
  have HN := hide new_any
  have K1 := hide (fun W (hb : TB W w.heap.size h0) => take_self W w.heap.size h0 w1 rfl hb 0 1 0 (by decide) (by decide))
  have K2 := hide (fun W (hb : TB W w.heap.size w1) => take_self W w.heap.size w1 w2 rfl hb 1 2 0 (by decide) (by decide))
  have K3 := hide (fun W (hb : TB W w.heap.size w2) => take_self W w.heap.size w2 w2 rfl hb 0 2 6 (by decide) (by decide))
  have K4 := hide (fun W (hb : TB W w.heap.size w2) => take_self W w.heap.size w2 w2 rfl hb 1 3 6 (by decide) (by decide))
  have K6 := hide (fun W (hb : TB W w.heap.size w2) => take_self W w.heap.size w2 w2 rfl hb 8 0 2 (by decide) (by decide))
  have K5 := hide (fun W (hb : TB W w.heap.size w2) => has_in W w.heap.size w2 rfl hb 1 (by decide))
  go_enter Try.func5, Try.ntmps5
  go_wp2_with (first
    | (go_at_call 6; with_reducible refine Calls.mono (HN.out _) ?_; rintro e x1 ⟨rfl, hb, ho⟩; have HB1 := hide hb; have HO1 := hide ho; clear hb ho)
    | (go_at_call 7; with_reducible refine Calls.mono (K1.out _ HB1.out) ?_; rintro e x2 ⟨rfl, hb, ho⟩; have HB2 := hide hb; have HO2 := hide ho; clear hb ho HB1)
    | (go_at_call 7; with_reducible refine Calls.mono (K2.out _ HB2.out) ?_; rintro e x3 ⟨rfl, hb, ho⟩; have HB3 := hide hb; have HO3 := hide ho; clear hb ho HB2)
    | (go_at_call 7; with_reducible refine Calls.mono (K3.out _ HB3.out) ?_; rintro e x4 ⟨rfl, hb, ho⟩; have HB4 := hide hb; have HO4 := hide ho; clear hb ho HB3)
    | (go_at_call 7; with_reducible refine Calls.mono (K4.out _ HB4.out) ?_; rintro e x5 ⟨rfl, hb, ho⟩; have HB5 := hide hb; have HO5 := hide ho; clear hb ho HB4)
    | (go_at_call 13; with_reducible refine Calls.mono (K5.out _ HB5.out) ?_; rintro e x6 ⟨rfl, rfl⟩)
    | (go_at_call 7; with_reducible refine Calls.mono (K6.out _ HB5.out) ?_; rintro e x7 ⟨rfl, hb, ho⟩; have HO7 := hide ho; clear hb ho))
  go_ret
  refine ⟨rfl, HO1.out.andThen ((((HO2.out.trans HO3.out).trans HO4.out).trans HO5.out).trans HO7.out) (fun j hj => .inr (by simp at hj; omega))⟩
end Go.Proofs.Ythenbbpfbkmhnaa
