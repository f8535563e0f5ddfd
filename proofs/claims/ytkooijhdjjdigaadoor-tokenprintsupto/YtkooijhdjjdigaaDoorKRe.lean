/- TokenPrints' walk, whatever the code's answers are proved by. -/
import Derived.Test.YtkooijhdjjdigaaDoorKRd
namespace Go.Proofs.YtkooijhdjjdigaaDoor
open Go.ChangeShapes Go.WideShapes Go.ChangeAt Go.RowKit
set_option linter.unusedVariables false

set_option maxHeartbeats 1000000 in
set_option maxRecDepth 10000 in
theorem tokenPrints_e (l : List Tg) (hl : l.length ≤ 140737488355328) (hx : ∀ x ∈ l, x.t.length ≤ 4000000000000) (htot : totL l ≤ 9000000000000000000) (v : Value) (w : World) (hE : Env w) (hv : TgAt w v l) (H1 : ScanOk hd1) (H2 : ScanOk hd2) (HP : PrintOk l) :
    Calls Tryd.prog 6 #[v] w fun e w' => e = .returned (.bool true) ∧ Below w.heap.size w w' := by
  have HE := hide (fun V (hV : Below w.heap.size w V) => hE.below hV)
  have HH := hide (fun V hV => head_e H1 H2 V hV)
  have hP := HP w v hE hv
  have hR := fun V (hV : Below w.heap.size w V) => rprint_e l hl hx htot V v (hv.later hV)
  obtain ⟨r, c, hr⟩ : ∃ r c, printV l = .tuple #[.string r, .int .i64 c] := by
    cases h : (tgs l).mapM (fun x => wrt x.1 x.2) with
    | none => exact ⟨_, _, printV_no h⟩
    | some ws => exact ⟨_, _, printV_ok h⟩
  rw [hr] at hP
  simp only [hr] at hR
  have HPr := hide hP
  have HRr := hide hR
  clear hP hR HP hv hr H1 H2 hx htot
  go_enter Tryd.func6, Tryd.ntmps6
  go_wp2_with (first
    | (go_at_call 19; (with_reducible refine Calls.mono HPr.out ?_); rintro e w5 ⟨rfl, h2⟩; have HB5 := hide h2; clear h2)
    | (go_at_call 20; (with_reducible refine Calls.mono (HRr.out _ HB5.out) ?_); rintro e w6 ⟨rfl, h2⟩; have HB6 := hide (below_trans HB5.out h2); clear h2)
    | (go_at_call 11; (with_reducible refine Calls.mono (HH.out _ (HE.out _ HB6.out)) ?_); rintro e w7 ⟨rfl, h2⟩; have HB7 := hide (below_trans HB6.out h2); clear h2))
  go_ret
  exact ⟨rfl, HB7.out⟩
end Go.Proofs.YtkooijhdjjdigaaDoor
