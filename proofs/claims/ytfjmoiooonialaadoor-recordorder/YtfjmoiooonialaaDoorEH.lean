/- The walk of RecordCmp. -/
import Derived.Test.YtfjmoiooonialaaDoorEG
namespace Go.Proofs.YtfjmoiooonialaaDoor
open Go.ChangeShapes Go.WideShapes Go.ChangeAt Go.RowKit
set_option linter.unusedVariables false

set_option maxHeartbeats 2000000 in
set_option maxRecDepth 10000 in
theorem rc_far (pa pb pc : Option Addr) (la ca lb cb lc cc : Nat) (h : 2000 < la ∨ 2000 < lb) (w : World) :
    Calls Tryd.prog 3 #[.slice pa la ca, .slice pb lb cb, .slice pc lc cc] w fun e w' => e = .returned (.bool true) ∧ Below w.heap.size w w' := by
  have HAW := hide (awake_walk w)
  by_cases h1 : 2000 < la
  · have l1 : (2000 : Int) < (la : Int) := by omega
    go_enter Tryd.func3, Tryd.ntmps3
    go_wp2_with (first
      | (go_at_call 5; with_reducible refine Calls.mono HAW.out ?_; rintro e w1 ⟨rfl, hb⟩; have HX := hide hb; clear hb))
    go_ret
    exact ⟨rfl, HX.out⟩
  · have l1 : ¬ (2000 : Int) < (la : Int) := by omega
    have l2 : (2000 : Int) < (lb : Int) := by omega
    go_enter Tryd.func3, Tryd.ntmps3
    go_wp2_with (first
      | (go_at_call 5; with_reducible refine Calls.mono HAW.out ?_; rintro e w1 ⟨rfl, hb⟩; have HX := hide hb; clear hb))
    go_ret
    exact ⟨rfl, HX.out⟩

set_option maxHeartbeats 4000000 in
set_option maxRecDepth 10000 in
theorem rc_near (pa pb pc : Option Addr) (la ca lb cb lc cc : Nat) (hpa : pa = none → ca = 0) (hpb : pb = none → cb = 0) (hpc : pc = none → lc = 0 ∧ cc = 0) (K N : Nat → Int) (T : Nat → ByteArray) (K2 N2 : Nat → Int) (T2 : Nat → ByteArray) (C : Nat → Int) (D : Nat → Bool)
    (hla : la ≤ 2000) (hlb : lb ≤ 2000) (hlc : lc * 16 ≤ 140737488355328) (w : World) (ha : RowP w pa la K N T) (hb : RowP w pb lb K2 N2 T2) (hc : OrdP w pc lc C D) :
    Calls Tryd.prog 3 #[.slice pa la ca, .slice pb lb cb, .slice pc lc cc] w fun e w' => e = .returned (.bool true) ∧ Below w.heap.size w w' := by
  have m1 : ¬ (2000 : Int) < (la : Int) := by omega
  have m2 : ¬ (2000 : Int) < (lb : Int) := by omega
  have HO1 := hide (own_walk pa la ca hpa K N T (by omega) w ha)
  have HO2 : Hid (∀ V, Below w.heap.size w V → Calls Tryd.prog 6 #[.slice pb lb cb] V fun e w' => ∃ g c, e = .returned (.slice (some ⟨g, 0, none⟩) lb c) ∧ lb + 1 ≤ c ∧ RowAt w' g 0 lb K2 N2 T2 ∧ w'.cell? ⟨g, lb * 3 + 1, none⟩ = some (.int .i64 77) ∧ Below V.heap.size V w') := fun V hV => own_walk pb lb cb hpb K2 N2 T2 (by omega) V (hb.later hV)
  have HRa : Hid (∀ V, Below w.heap.size w V → RowP V pa la K N T) := fun V hV => ha.later hV
  have HRb : Hid (∀ V, Below w.heap.size w V → RowP V pb lb K2 N2 T2) := fun V hV => hb.later hV
  have HRc : Hid (∀ V, Below w.heap.size w V → OrdP V pc lc C D) := fun V hV => hc.later hV
  have HLa := hide (show la ≤ 140737488355328 by omega)
  have HLb := hide (show lb ≤ 140737488355328 by omega)
  have HLc := hide hlc
  have HPc := hide hpc
  clear ha hb hc hlc hpa hpb hpc
  go_enter Tryd.func3, Tryd.ntmps3
  go_wp2_with (first
    | (go_at_call 6; with_reducible refine Calls.mono HO1.out ?_; rintro e w1 ⟨g1, c1, rfl, hc1, hr1, hm1, hb1⟩; have HC1 := hide hc1; have HR1 := hide hr1; have HM1 := hide hm1; have HB1 := hide hb1; have HO2' := hide (HO2.out w1 hb1); clear hc1 hr1 hm1 hb1 HO1)
    | (go_at_call 6; with_reducible refine Calls.mono HO2'.out ?_; rintro e w2 ⟨g2, c2, rfl, hc2, hr2, hm2, hb2⟩; have HC2 := hide hc2; have HR2 := hide hr2; have HM2 := hide hm2; have HK2 := hide hb2; have HB2 := hide (below_trans HB1.out hb2); clear hc2 hr2 hm2 hb2 HO2')
    | (at_builtin; refine wp_appO pc lc cc HPc.out C D HLc.out (HRc.out _ HB2.out) _ _ (by rfl) (by rfl) (by rfl) (by rfl) ?_; intro g3 o3 c3 w3 hr3 hb3; have HR3 := hide hr3; have HK3 := hide hb3; have HB3 := hide (below_trans HB2.out hb3); have HQ3 := hide (rowcmp (some ⟨g1, 0, none⟩) (some ⟨g2, 0, none⟩) (some ⟨g3, o3, none⟩) la c1 lb c2 K N T K2 N2 T2 HLa.out HLb.out w3 lc c3 C D (fun _ => ⟨g3, o3, rfl, hr3⟩) (fun _ => ⟨g1, 0, rfl, (HR1.out.later HK2.out).later hb3⟩) (fun _ => ⟨g2, 0, rfl, HR2.out.later hb3⟩)); clear hr3 hb3)
    | (go_at_call 7; with_reducible refine Calls.mono HQ3.out ?_; rintro e w4 ⟨rfl, hb4⟩; have HK4 := hide hb4; have HB4 := hide (below_trans HB3.out hb4); clear hb4))
  have HKx : Hid (∀ V, Below w4.heap.size w4 V → RowP V (some ⟨g1, 0, none⟩) la K N T ∧ RowP V (some ⟨g2, 0, none⟩) lb K2 N2 T2 ∧ V.cell? ⟨g1, la * 3 + 1, none⟩ = some (.int .i64 77) ∧ V.cell? ⟨g2, lb * 3 + 1, none⟩ = some (.int .i64 77) ∧ OrdAt V g3 o3 lc C D ∧ RowAt V g1 0 la K N T ∧ RowAt V g2 0 lb K2 N2 T2) := fun V hV =>
    have k3 := below_trans HK3.out HK4.out
    have k2 := below_trans HK2.out k3
    have r1 := (HR1.out.later k2).later hV
    have r2 := (HR2.out.later k3).later hV
    ⟨fun _ => ⟨g1, 0, rfl, r1⟩, fun _ => ⟨g2, 0, rfl, r2⟩, cell_later hV (cell_later k2 HM1.out), cell_later hV (cell_later k3 HM2.out), (HR3.out.later HK4.out).later hV, r1, r2⟩
  clear HK2 HK3 HK4 HR1 HR2 HM1 HM2 HR3 HQ3
  go_loopw [11] (fun iv wr => ∃ j : Nat, j ≤ lc ∧ iv = .int .i64 (j : Int) ∧ Below w4.heap.size w4 wr) (fun iv _ => lc - (intOf iv).toNat)
  case atStart => exact ⟨0, Nat.zero_le _, rfl, Below.refl _ _⟩
  case round =>
    obtain ⟨j, hj, rfl, hbr⟩ := hrel
    have HBr := hide hbr
    clear hbr
    by_cases hlt : j < lc
    · have l1 : (j : Int) < (lc : Int) := by omega
      have l0 : (0 : Int) ≤ (j : Int) := by omega
      have hw1 : IntKind.i64.wrap ((j : Int) + 1) = (j : Int) + 1 := by rw [IntKind.wrap_i64]; have := HLc.out; omega
      obtain ⟨pb0, po0, rfl, hrc⟩ := HRc.out _ (below_trans HB4.out HBr.out) (by omega)
      have HBD : Hid (Below w4.heap.size w4 wr.drew) := HBr.out.drew
      have HS : Hid ((fun V => (V.cell? ⟨g3, o3 + j * 2, none⟩ = some (.int .i64 (C j)) ∧ V.cell? ⟨g3, o3 + j * 2 + 1, none⟩ = some (.bool (D j))) ∧ (V.cell? ⟨pb0, po0 + j * 2, none⟩ = some (.int .i64 (C j)) ∧ V.cell? ⟨pb0, po0 + j * 2 + 1, none⟩ = some (.bool (D j)))) wr.drew) := ⟨(HKx.out _ HBD.out).2.2.2.2.1 j hlt, (hrc.later (Below.refl _ _).drew) j hlt⟩
      clear hrc
      go_wp2_with fail
      go_region_held3 (fun V => (V.cell? ⟨g3, o3 + j * 2, none⟩ = some (.int .i64 (C j)) ∧ V.cell? ⟨g3, o3 + j * 2 + 1, none⟩ = some (.bool (D j))) ∧ (V.cell? ⟨pb0, po0 + j * 2, none⟩ = some (.int .i64 (C j)) ∧ V.cell? ⟨pb0, po0 + j * 2 + 1, none⟩ = some (.bool (D j)))) (with_reducible exact HS.out) (fail)
      all_goals (try go_wp2)
      all_goals
        refine ⟨⟨j + 1, hlt, rfl, HBD.out⟩, ?_⟩
        simp only [intOf]; omega
    · have l1 : ¬ (j : Int) < (lc : Int) := by omega
      have HBw := hide (below_trans HB4.out HBr.out)
      have HQ := hide (rrowcmp pa pb pc la ca lb cb K N T K2 N2 T2 HLa.out HLb.out wr lc cc C D (HRc.out _ HBw.out) (HRa.out _ HBw.out) (HRb.out _ HBw.out))
      go_wp2_with (first
        | (go_at_call 8; with_reducible refine Calls.mono HQ.out ?_; rintro e w5 ⟨rfl, hb5⟩; have HB5 := hide (below_trans HBw.out hb5); have HK5 := hide (below_trans HBr.out hb5); have HQ5 := hide (same_walk (some ⟨g1, 0, none⟩) (some ⟨g2, 0, none⟩) la c1 lb c2 K N T K2 N2 T2 HLa.out w5 (HKx.out _ (below_trans HBr.out hb5)).1 (HKx.out _ (below_trans HBr.out hb5)).2.1); clear hb5)
        | (go_at_call 9; with_reducible refine Calls.mono HQ5.out ?_; rintro e w6 ⟨rfl, hb6⟩; have HB6 := hide (below_trans HB5.out hb6); have HK6 := hide (below_trans HK5.out hb6); have HQ6 := hide (rsame_walk pa pb la ca lb cb K N T K2 N2 T2 HLa.out w6 (HRa.out _ (below_trans HB5.out hb6)) (HRb.out _ (below_trans HB5.out hb6))); clear hb6)
        | (go_at_call 10; with_reducible refine Calls.mono HQ6.out ?_; rintro e w7 ⟨rfl, hb7⟩; have HB7 := hide (below_trans HB6.out hb7); have HK7 := hide (below_trans HK6.out hb7); have HQ7 := hide (kept_walk g1 la c1 pa ca HC1.out HLa.out K N T w7 (HKx.out _ (below_trans HK6.out hb7)).2.2.2.2.2.1 (HKx.out _ (below_trans HK6.out hb7)).2.2.1 (HRa.out _ (below_trans HB6.out hb7))); clear hb7)
        | (go_at_call 11; with_reducible refine Calls.mono HQ7.out ?_; rintro e w8 ⟨rfl, hb8⟩; have HB8 := hide (below_trans HB7.out hb8); have HK8 := hide (below_trans HK7.out hb8); have HQ8 := hide (kept_walk g2 lb c2 pb cb HC2.out HLb.out K2 N2 T2 w8 (HKx.out _ (below_trans HK7.out hb8)).2.2.2.2.2.2 (HKx.out _ (below_trans HK7.out hb8)).2.2.2.1 (HRb.out _ (below_trans HB7.out hb8))); clear hb8 HQ7)
        | (go_at_call 11; with_reducible refine Calls.mono HQ8.out ?_; rintro e w9 ⟨rfl, hb9⟩; have HB9 := hide (below_trans HB8.out hb9); clear hb9)
        | (go_at_call 5; with_reducible refine Calls.mono (awake_walk _) ?_; rintro e w10 ⟨rfl, hb10⟩; have HB10 := hide (below_trans HB9.out hb10); clear hb10))
      go_ret
      exact ⟨by simp, HB10.out⟩
end Go.Proofs.YtfjmoiooonialaaDoor
