/- The walk of RecordOrder, for rows that may be. -/
import Derived.Test.YtfjmoiooonialaaDoorFG
namespace Go.Proofs.YtfjmoiooonialaaDoor
open Go.ChangeShapes Go.WideShapes Go.ChangeAt Go.RowKit
set_option linter.unusedVariables false

set_option maxHeartbeats 40000000 in
set_option maxRecDepth 10000 in
theorem ro_near (pa pb px pc : Option Addr) (ca cb cx lo co : Nat) (A B X : RowD) (hla : A.len ≤ 2000) (hlb : B.len ≤ 2000) (hlx : X.len ≤ 2000) (ma : mayD A = true) (mb : mayD B = true) (mx : mayD X = true) (hia : ∀ i, i < A.len → InI (A.N i)) (hib : ∀ i, i < B.len → InI (B.N i)) (C : Nat → Int) (D : Nat → Bool)
    (w : World) (ha : RowP w pa A.len A.K A.N A.T) (hb : RowP w pb B.len B.K B.N B.T) (hx : RowP w px X.len X.K X.N X.T) (hc : OrdP w pc lo C D) :
    Calls Tryd.prog 4 #[.slice pa A.len ca, .slice pb B.len cb, .slice px X.len cx, .slice pc lo co] w fun e w' => e = .returned (.bool true) ∧ Below w.heap.size w w' := by
  have l1 : ¬ (2000 : Int) < (A.len : Int) := by omega
  have l2 : ¬ (2000 : Int) < (B.len : Int) := by omega
  have l3 : ¬ (2000 : Int) < (X.len : Int) := by omega
  have HMa : Hid (Calls Tryd.prog 12 #[.slice pa A.len ca] w fun e w' => e = .returned (.bool (mayD A)) ∧ Below w.heap.size w w') := lawmay_any pa A.len ca A.K A.N A.T (by omega) w ha
  have HMb : Hid (∀ V, Below w.heap.size w V → Calls Tryd.prog 12 #[.slice pb B.len cb] V fun e w' => e = .returned (.bool (mayD B)) ∧ Below V.heap.size V w') := fun V hV => lawmay_any pb B.len cb B.K B.N B.T (by omega) V (hb.later hV)
  have HMx : Hid (∀ V, Below w.heap.size w V → Calls Tryd.prog 12 #[.slice px X.len cx] V fun e w' => e = .returned (.bool (mayD X)) ∧ Below V.heap.size V w') := fun V hV => lawmay_any px X.len cx X.K X.N X.T (by omega) V (hx.later hV)
  obtain ⟨ab, hab⟩ : ∃ q, standR A B (colC lo C) (colD lo D) = q := ⟨_, rfl⟩
  obtain ⟨bc, hbc⟩ : ∃ q, standR B X (colC lo C) (colD lo D) = q := ⟨_, rfl⟩
  obtain ⟨ac, hac⟩ : ∃ q, standR A X (colC lo C) (colD lo D) = q := ⟨_, rfl⟩
  obtain ⟨q0, hq0⟩ : ∃ q, standR A B (colC 0 (fun _ => 0)) (colD 0 (fun _ => false)) = q := ⟨_, rfl⟩
  have HAB : Hid (∀ V, Below w.heap.size w V → Calls Tryd.prog 7 #[.slice pa A.len ca, .slice pb B.len cb, .slice pc lo co] V fun e w' => e = .returned (.int .i64 ab) ∧ Below V.heap.size V w') := fun V hV => by
    have := rowcmp pa pb pc A.len ca B.len cb A.K A.N A.T B.K B.N B.T (by omega) (by omega) V lo co C D (hc.later hV) (ha.later hV) (hb.later hV)
    rwa [ordF_stand (may_of ma) (may_of mb), hab] at this
  have HBA : Hid (∀ V, Below w.heap.size w V → Calls Tryd.prog 7 #[.slice pb B.len cb, .slice pa A.len ca, .slice pc lo co] V fun e w' => e = .returned (.int .i64 (-ab)) ∧ Below V.heap.size V w') := fun V hV => by
    have := rowcmp pb pa pc B.len cb A.len ca B.K B.N B.T A.K A.N A.T (by omega) (by omega) V lo co C D (hc.later hV) (hb.later hV) (ha.later hV)
    rwa [ordF_stand (may_of mb) (may_of ma), standR_neg, hab] at this
  have HBC : Hid (∀ V, Below w.heap.size w V → Calls Tryd.prog 7 #[.slice pb B.len cb, .slice px X.len cx, .slice pc lo co] V fun e w' => e = .returned (.int .i64 bc) ∧ Below V.heap.size V w') := fun V hV => by
    have := rowcmp pb px pc B.len cb X.len cx B.K B.N B.T X.K X.N X.T (by omega) (by omega) V lo co C D (hc.later hV) (hb.later hV) (hx.later hV)
    rwa [ordF_stand (may_of mb) (may_of mx), hbc] at this
  have HAC : Hid (∀ V, Below w.heap.size w V → Calls Tryd.prog 7 #[.slice pa A.len ca, .slice px X.len cx, .slice pc lo co] V fun e w' => e = .returned (.int .i64 ac) ∧ Below V.heap.size V w') := fun V hV => by
    have := rowcmp pa px pc A.len ca X.len cx A.K A.N A.T X.K X.N X.T (by omega) (by omega) V lo co C D (hc.later hV) (ha.later hV) (hx.later hV)
    rwa [ordF_stand (may_of ma) (may_of mx), hac] at this
  have HAA : Hid (∀ V, Below w.heap.size w V → Calls Tryd.prog 7 #[.slice pa A.len ca, .slice pa A.len ca, .slice pc lo co] V fun e w' => e = .returned (.int .i64 0) ∧ Below V.heap.size V w') := fun V hV => by
    have := rowcmp pa pa pc A.len ca A.len ca A.K A.N A.T A.K A.N A.T (by omega) (by omega) V lo co C D (hc.later hV) (ha.later hV) (ha.later hV)
    rwa [ordF_stand (may_of ma) (may_of ma), standR_self] at this
  have HNil : Hid (∀ V, Below w.heap.size w V → Calls Tryd.prog 7 #[.slice pa A.len ca, .slice pb B.len cb, .slice none 0 0] V fun e w' => e = .returned (.int .i64 q0) ∧ Below V.heap.size V w') := fun V hV => by
    have := rowcmp pa pb none A.len ca B.len cb A.K A.N A.T B.K B.N B.T (by omega) (by omega) V 0 0 (fun _ => 0) (fun _ => false) (fun h => by omega) (ha.later hV) (hb.later hV)
    rwa [ordF_stand (may_of ma) (may_of mb), hq0] at this
  have HSm : Hid (∀ V, Below w.heap.size w V → Calls Tryd.prog 9 #[.slice pa A.len ca, .slice pb B.len cb] V fun e w' => e = .returned (.bool (decide (q0 = 0))) ∧ Below V.heap.size V w') := fun V hV => by
    have := same_walk pa pb A.len ca B.len cb A.K A.N A.T B.K B.N B.T (by omega) V (ha.later hV) (hb.later hV)
    rw [same_stand (may_of ma) (may_of mb) (fun _ => 0) (fun _ => false), hq0] at this
    refine this.mono fun e w' ⟨h1, h2⟩ => ⟨?_, h2⟩
    rw [h1]
  obtain ⟨sa, Ea, hea⟩ := encode_any A.len A.K A.N A.T (by omega) hia
  obtain ⟨sb, Eb, heb⟩ := encode_any B.len B.K B.N B.T (by omega) hib
  have HEa : Hid (∀ V, Below w.heap.size w V → Calls Tryd.prog 13 #[.slice pa A.len ca] V fun e w' => e = .returned (.tuple #[.string sa, .int .i64 Ea]) ∧ Below V.heap.size V w') := fun V hV => hea pa ca V (ha.later hV)
  have HEb : Hid (∀ V, Below w.heap.size w V → Calls Tryd.prog 13 #[.slice pb B.len cb] V fun e w' => e = .returned (.tuple #[.string sb, .int .i64 Eb]) ∧ Below V.heap.size V w') := fun V hV => heb pb cb V (hb.later hV)
  have r1 := standR_range A B (colC lo C) (colD lo D)
  have r2 := standR_trans A B X (colC lo C) (colD lo D)
  rw [hab] at r1
  rw [hab, hbc, hac] at r2
  have M1 := hide ma
  have M2 := hide mb
  have M3 := hide mx
  clear ha hb hx hc hea heb hia hib hab hbc hac hq0 ma mb mx hla hlb hlx
  have n1 : ¬ ab < -1 := by omega
  have n2 : ¬ 1 < ab := by omega
  have n3 : IntKind.i64.wrap ab = ab := by rw [IntKind.wrap_i64]; omega
  have hcase : (¬ ab ≤ 0 ∧ ¬ ab < 0) ∨ (ab ≤ 0 ∧ ¬ bc ≤ 0 ∧ ab < 0) ∨ (ab ≤ 0 ∧ ¬ bc ≤ 0 ∧ ¬ ab < 0) ∨ (ab ≤ 0 ∧ bc ≤ 0 ∧ ¬ 0 < ac ∧ ab < 0 ∧ ¬ 0 ≤ ac) ∨ (ab ≤ 0 ∧ bc ≤ 0 ∧ ¬ 0 < ac ∧ ¬ ab < 0) := by
    by_cases d1 : ab ≤ 0
    · by_cases d2 : bc ≤ 0
      · have := r2 d1 d2
        by_cases d3 : ab < 0
        · have := this.2 d3; omega
        · omega
      · omega
    · omega
  clear r1 r2
  have hE : (Ea ≠ 0 ∧ (Ea == 0) = false) ∨ (Ea = 0 ∧ Eb ≠ 0 ∧ (Eb == 0) = false) ∨ (Ea = 0 ∧ Eb = 0 ∧ q0 = 0) ∨ (Ea = 0 ∧ Eb = 0 ∧ q0 ≠ 0 ∧ (q0 == 0) = false) := by
    by_cases e1 : Ea = 0
    · by_cases e2 : Eb = 0
      · by_cases e3 : q0 = 0
        · exact .inr (.inr (.inl ⟨e1, e2, e3⟩))
        · exact .inr (.inr (.inr ⟨e1, e2, e3, by simp [e3]⟩))
      · exact .inr (.inl ⟨e1, e2, by simp [e2]⟩)
    · exact .inl ⟨e1, by simp [e1]⟩
  rcases hcase with ⟨d1, d2⟩ | ⟨d1, d2, d3⟩ | ⟨d1, d2, d3⟩ | ⟨d1, d2, d3, d4, d5⟩ | ⟨d1, d2, d3, d4⟩
  all_goals
    go_enter Tryd.func4, Tryd.ntmps4
    go_upto_region 9 with (first
      | (go_at_call 12; with_reducible refine Calls.mono HMa.out ?_; rintro e w1 ⟨rfl, hb⟩; rw [M1.out]; have HB1 := hide hb; clear hb)
      | (go_at_call 12; with_reducible refine Calls.mono (HMb.out _ HB1.out) ?_; rintro e w2 ⟨rfl, hb⟩; rw [M2.out]; have HB2 := hide (below_trans HB1.out hb); clear hb)
      | (go_at_call 12; with_reducible refine Calls.mono (HMx.out _ HB2.out) ?_; rintro e w3 ⟨rfl, hb⟩; rw [M3.out]; have HB3 := hide (below_trans HB2.out hb); clear hb)
      | (go_at_call 7; with_reducible refine Calls.mono (HAB.out _ HB3.out) ?_; rintro e w4 ⟨rfl, hb⟩; have HB4 := hide (below_trans HB3.out hb); clear hb)
      | (go_at_call 7; with_reducible refine Calls.mono (HBA.out _ HB4.out) ?_; rintro e w5 ⟨rfl, hb⟩; have HB5 := hide (below_trans HB4.out hb); clear hb)
      | (go_at_call 7; with_reducible refine Calls.mono (HBC.out _ HB5.out) ?_; rintro e w6 ⟨rfl, hb⟩; have HB6 := hide (below_trans HB5.out hb); clear hb)
      | (go_at_call 7; with_reducible refine Calls.mono (HAC.out _ HB6.out) ?_; rintro e w7 ⟨rfl, hb⟩; have HB7 := hide (below_trans HB6.out hb); clear hb)
      | (go_at_call 7; with_reducible refine Calls.mono (HAA.out _ HB7.out) ?_; rintro e w8 ⟨rfl, hb⟩; have HB8 := hide (below_trans HB7.out hb); clear hb)
      | (go_at_call 13; with_reducible refine Calls.mono (HEa.out _ HB8.out) ?_; rintro e w9 ⟨rfl, hb⟩; have HB9 := hide (below_trans HB8.out hb); clear hb)
      | (go_at_call 13; with_reducible refine Calls.mono (HEb.out _ HB9.out) ?_; rintro e w10 ⟨rfl, hb⟩; have HB10 := hide (below_trans HB9.out hb); clear hb))
    rcases hE with ⟨f1, f2⟩ | ⟨rfl, f1, f2⟩ | ⟨rfl, rfl, rfl⟩ | ⟨rfl, rfl, f1, f2⟩
    all_goals
      go_wp2_with (first
        | (go_at_call 7; with_reducible refine Calls.mono (HNil.out _ HB10.out) ?_; rintro e w11 ⟨rfl, hb⟩; have HB11 := hide (below_trans HB10.out hb); clear hb)
        | (go_at_call 9; with_reducible refine Calls.mono (HSm.out _ HB11.out) ?_; rintro e w12 ⟨rfl, hb⟩; have HB12 := hide (below_trans HB11.out hb); clear hb)
        | (go_at_call 5; with_reducible refine Calls.mono (awake_walk _) ?_; rintro e w13 ⟨rfl, hb⟩; (first | have HBz := hide (below_trans HB12.out hb) | have HBz := hide (below_trans HB10.out hb)); clear hb))
      go_ret
      exact ⟨rfl, HBz.out⟩
end Go.Proofs.YtfjmoiooonialaaDoor
