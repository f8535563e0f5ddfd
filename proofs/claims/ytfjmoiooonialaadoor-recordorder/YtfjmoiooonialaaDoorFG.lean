/- The walk of RecordOrder. -/
import Derived.Test.YtfjmoiooonialaaDoorFF
import Derived.Test.YtfjmoiooonialaaDoorFE
import Derived.Test.YtfjmoiooonialaaDoorSU
namespace Go.Proofs.YtfjmoiooonialaaDoor
open Go.ChangeShapes Go.WideShapes Go.ChangeAt Go.RowKit
set_option linter.unusedVariables false

set_option maxHeartbeats 4000000 in
set_option maxRecDepth 10000 in
theorem ro_far (pa pb px pc : Option Addr) (ca cb cx lo co : Nat) (A B X : RowD) (h : 2000 < A.len ∨ 2000 < B.len ∨ 2000 < X.len) (w : World) :
    Calls Tryd.prog 4 #[.slice pa A.len ca, .slice pb B.len cb, .slice px X.len cx, .slice pc lo co] w fun e w' => e = .returned (.bool true) ∧ Below w.heap.size w w' := by
  have HAW := hide (awake_walk w)
  have hcs : ((2000 : Int) < (A.len : Int)) ∨ (¬ (2000 : Int) < (A.len : Int) ∧ (2000 : Int) < (B.len : Int)) ∨ (¬ (2000 : Int) < (A.len : Int) ∧ ¬ (2000 : Int) < (B.len : Int) ∧ (2000 : Int) < (X.len : Int)) := by omega
  clear h
  rcases hcs with l1 | ⟨l1, l2⟩ | ⟨l1, l2, l3⟩
  all_goals
    go_enter Tryd.func4, Tryd.ntmps4
    go_wp2_with (first
      | (go_at_call 5; with_reducible refine Calls.mono HAW.out ?_; rintro e w1 ⟨rfl, hb⟩; have HX := hide hb; clear hb))
    go_ret
    exact ⟨rfl, HX.out⟩

noncomputable def mayD (A : RowD) : Bool := mayR A.len A.K A.N A.T
set_option maxHeartbeats 4000000 in
set_option maxRecDepth 10000 in
theorem ro_no (pa pb px pc : Option Addr) (ca cb cx lo co : Nat) (A B X : RowD) (hla : A.len ≤ 2000) (hlb : B.len ≤ 2000) (hlx : X.len ≤ 2000) (h : mayD A = false ∨ mayD B = false ∨ mayD X = false) (w : World) (ha : RowP w pa A.len A.K A.N A.T) (hb : RowP w pb B.len B.K B.N B.T) (hx : RowP w px X.len X.K X.N X.T) :
    Calls Tryd.prog 4 #[.slice pa A.len ca, .slice pb B.len cb, .slice px X.len cx, .slice pc lo co] w fun e w' => e = .returned (.bool true) ∧ Below w.heap.size w w' := by
  have l1 : ¬ (2000 : Int) < (A.len : Int) := by omega
  have l2 : ¬ (2000 : Int) < (B.len : Int) := by omega
  have l3 : ¬ (2000 : Int) < (X.len : Int) := by omega
  have HMa : Hid (Calls Tryd.prog 12 #[.slice pa A.len ca] w fun e w' => e = .returned (.bool (mayD A)) ∧ Below w.heap.size w w') := lawmay_any pa A.len ca A.K A.N A.T (by omega) w ha
  have HMb : Hid (∀ V, Below w.heap.size w V → Calls Tryd.prog 12 #[.slice pb B.len cb] V fun e w' => e = .returned (.bool (mayD B)) ∧ Below V.heap.size V w') := fun V hV => lawmay_any pb B.len cb B.K B.N B.T (by omega) V (hb.later hV)
  have HMx : Hid (∀ V, Below w.heap.size w V → Calls Tryd.prog 12 #[.slice px X.len cx] V fun e w' => e = .returned (.bool (mayD X)) ∧ Below V.heap.size V w') := fun V hV => lawmay_any px X.len cx X.K X.N X.T (by omega) V (hx.later hV)
  have hcs : mayD A = false ∨ (mayD A = true ∧ mayD B = false) ∨ (mayD A = true ∧ mayD B = true ∧ mayD X = false) := by
    cases h1 : mayD A <;> cases h2 : mayD B <;> simp_all
  clear ha hb hx h
  rcases hcs with m1 | ⟨m1, m2⟩ | ⟨m1, m2, m3⟩
  · have M1 := hide m1
    clear m1
    go_enter Tryd.func4, Tryd.ntmps4
    go_wp2_with (first
      | (go_at_call 12; with_reducible refine Calls.mono HMa.out ?_; rintro e w1 ⟨rfl, hb⟩; rw [M1.out]; have HB1 := hide hb; clear hb)
      | (go_at_call 5; with_reducible refine Calls.mono (awake_walk _) ?_; rintro e w4 ⟨rfl, hb⟩; have HX := hide (below_trans HB1.out hb); clear hb))
    go_ret
    exact ⟨rfl, HX.out⟩
  · have M1 := hide m1
    have M2 := hide m2
    clear m1 m2
    go_enter Tryd.func4, Tryd.ntmps4
    go_wp2_with (first
      | (go_at_call 12; with_reducible refine Calls.mono HMa.out ?_; rintro e w1 ⟨rfl, hb⟩; rw [M1.out]; have HB1 := hide hb; clear hb)
      | (go_at_call 12; with_reducible refine Calls.mono (HMb.out _ HB1.out) ?_; rintro e w2 ⟨rfl, hb⟩; rw [M2.out]; have HB2 := hide (below_trans HB1.out hb); clear hb)
      | (go_at_call 5; with_reducible refine Calls.mono (awake_walk _) ?_; rintro e w4 ⟨rfl, hb⟩; have HX := hide (below_trans HB2.out hb); clear hb))
    go_ret
    exact ⟨rfl, HX.out⟩
  · have M1 := hide m1
    have M2 := hide m2
    have M3 := hide m3
    clear m1 m2 m3
    go_enter Tryd.func4, Tryd.ntmps4
    go_wp2_with (first
      | (go_at_call 12; with_reducible refine Calls.mono HMa.out ?_; rintro e w1 ⟨rfl, hb⟩; rw [M1.out]; have HB1 := hide hb; clear hb)
      | (go_at_call 12; with_reducible refine Calls.mono (HMb.out _ HB1.out) ?_; rintro e w2 ⟨rfl, hb⟩; rw [M2.out]; have HB2 := hide (below_trans HB1.out hb); clear hb)
      | (go_at_call 12; with_reducible refine Calls.mono (HMx.out _ HB2.out) ?_; rintro e w3 ⟨rfl, hb⟩; rw [M3.out]; have HB3 := hide (below_trans HB2.out hb); clear hb)
      | (go_at_call 5; with_reducible refine Calls.mono (awake_walk _) ?_; rintro e w4 ⟨rfl, hb⟩; have HX := hide (below_trans HB3.out hb); clear hb))
    go_ret
    exact ⟨rfl, HX.out⟩
open Classical in
theorem may_of {A : RowD} (h : mayD A = true) : A.may := of_decide_eq_true h
end Go.Proofs.YtfjmoiooonialaaDoor
