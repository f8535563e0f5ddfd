/- How two rows stand under collations. -/
import Derived.Test.YtghemaghbpekfaaGreatDoorUA
namespace Go.Proofs.YtghemaghbpekfaaGreatDoor
open Go.ChangeShapes Go.WideShapes Go.ChangeAt Go.RowKit
set_option linter.unusedVariables false

set_option maxHeartbeats 2000000 in
set_option maxRecDepth 10000 in
theorem cmprows_c (b o la ca b2 o2 lb cb2 : Nat) (K N : Nat → Int) (T : Nat → ByteArray) (K2 N2 : Nat → Int) (T2 : Nat → ByteArray) (hla : la ≤ 140737488355328) (hlb : lb ≤ 140737488355328) (w : World) (cb co lc cc : Nat) (C : Nat → Int) (hc : IntAt w cb co lc C) (h : RowAt w b o la K N T) (h2 : RowAt w b2 o2 lb K2 N2 T2) :
    Calls Tryz.prog 13 #[.slice (some ⟨b, o, none⟩) la ca, .slice (some ⟨b2, o2, none⟩) lb cb2, .slice (some ⟨cb, co, none⟩) lc cc] w fun e w' => e = .returned (.int .i64 (rowsR (fun i => cmpA (K i) (N i) (T i) (K2 i) (N2 i) (T2 i) (collAt lc C i)) la lb)) ∧ Below w.heap.size w w' := by
  have HR := hide h
  have HR2 := hide h2
  have HC := hide hc
  have HW : Hid (∀ k1 n1 t1 k2 n2 t2 c V, Calls Tryz.prog 6 #[.agg #[.int .i64 k1, .int .i64 n1, .string t1], .agg #[.int .i64 k2, .int .i64 n2, .string t2], .int .i64 c] V fun e w' => e = .returned (.int .i64 (cmpA k1 n1 t1 k2 n2 t2 c)) ∧ Below V.heap.size V w') := fun k1 n1 t1 k2 n2 t2 c V => cmp_walk k1 n1 t1 k2 n2 t2 c V
  have hmin : min (la : Int) (lb : Int) = ((min la lb : Nat) : Int) := by omega
  clear h h2 hc
  go_enter Tryz.func13, Tryz.ntmps13
  go_wp2
  go_loopw [15] (fun iv wr => ∃ j : Nat, j ≤ min la lb ∧ iv = .int .i64 (j : Int) ∧ (∀ i, i < j → cmpA (K i) (N i) (T i) (K2 i) (N2 i) (T2 i) (collAt lc C i) = 0) ∧ Below w.heap.size w wr) (fun iv _ => min la lb - (intOf iv).toNat)
  case atStart => exact ⟨0, Nat.zero_le _, rfl, fun i hi => by omega, Below.refl _ _⟩
  case round =>
    obtain ⟨j, hj, rfl, hall, hb⟩ := hrel
    have HA := hide hall
    have HB := hide hb
    clear hall hb
    by_cases hlt : j < min la lb
    · have hja : j < la := by omega
      have hjb : j < lb := by omega
      have l1 : (j : Int) < (la : Int) := by omega
      have l2 : (j : Int) < (lb : Int) := by omega
      have l3 : (j : Int) < ((min la lb : Nat) : Int) := by omega
      have l0 : (0 : Int) ≤ (j : Int) := by omega
      have hw1 : IntKind.i64.wrap ((j : Int) + 1) = (j : Int) + 1 := by rw [IntKind.wrap_i64]; omega
      obtain ⟨c0, c1, c2⟩ := (HR.out.later HB.out.drew) j hja
      obtain ⟨d0, d1, d2⟩ := (HR2.out.later HB.out.drew) j hjb
      by_cases hlc : j < lc
      · have l4 : (j : Int) < (lc : Int) := by omega
        have ce := (HC.out.later HB.out) j hlc
        have HCo : Hid (collAt lc C j = C j) := by show _ = _; exact if_pos hlc
        by_cases hz : cmpA (K j) (N j) (T j) (K2 j) (N2 j) (T2 j) (C j) = 0
        · have HQ := hide hz
          clear hz
          go_wp2
          go_region_held3 (fun V => (V.cell? ⟨b, o + j * 3, none⟩ = some (.int .i64 (K j)) ∧ V.cell? ⟨b, o + j * 3 + 1, none⟩ = some (.int .i64 (N j)) ∧ V.cell? ⟨b, o + j * 3 + 2, none⟩ = some (.string (T j))) ∧ (V.cell? ⟨b2, o2 + j * 3, none⟩ = some (.int .i64 (K2 j)) ∧ V.cell? ⟨b2, o2 + j * 3 + 1, none⟩ = some (.int .i64 (N2 j)) ∧ V.cell? ⟨b2, o2 + j * 3 + 2, none⟩ = some (.string (T2 j)))) (first | exact ⟨(HR.out.later HB.out.drew) j hja, (HR2.out.later HB.out.drew) j hjb⟩ | exact ⟨(HR.out.later HX.out) j hja, (HR2.out.later HX.out) j hjb⟩) (first
            | (go_at_call 6; with_reducible refine Calls.mono (HW.out _ _ _ _ _ _ _ _) ?_; rintro e w1 ⟨rfl, hb⟩; have HX := hide (below_trans HB.out.drew hb); clear hb; rw [HQ.out]))
          all_goals (try go_wp2)
          all_goals
            refine ⟨⟨j + 1, hlt, rfl, fun i hi => ?_, HX.out⟩, ?_⟩
            · by_cases e : i = j
              · subst e; rw [HCo.out]; exact HQ.out
              · exact HA.out i (by omega)
            · simp only [intOf]; omega
        · obtain ⟨q, hq⟩ : ∃ q : Int, cmpA (K j) (N j) (T j) (K2 j) (N2 j) (T2 j) (C j) = q := ⟨_, rfl⟩
          rw [hq] at hz
          have HQ := hide hq
          have HRR := hide (rowsR_hit (f := fun i => cmpA (K i) (N i) (T i) (K2 i) (N2 i) (T2 i) (collAt lc C i)) hlt HA.out (by simp only [HCo.out, hq]; exact hz))
          simp only [HCo.out, hq] at HRR
          clear hq
          go_wp2
          go_region_held3 (fun V => (V.cell? ⟨b, o + j * 3, none⟩ = some (.int .i64 (K j)) ∧ V.cell? ⟨b, o + j * 3 + 1, none⟩ = some (.int .i64 (N j)) ∧ V.cell? ⟨b, o + j * 3 + 2, none⟩ = some (.string (T j))) ∧ (V.cell? ⟨b2, o2 + j * 3, none⟩ = some (.int .i64 (K2 j)) ∧ V.cell? ⟨b2, o2 + j * 3 + 1, none⟩ = some (.int .i64 (N2 j)) ∧ V.cell? ⟨b2, o2 + j * 3 + 2, none⟩ = some (.string (T2 j)))) (first | exact ⟨(HR.out.later HB.out.drew) j hja, (HR2.out.later HB.out.drew) j hjb⟩ | exact ⟨(HR.out.later HX.out) j hja, (HR2.out.later HX.out) j hjb⟩) (first
            | (go_at_call 6; with_reducible refine Calls.mono (HW.out _ _ _ _ _ _ _ _) ?_; rintro e w1 ⟨rfl, hb⟩; have HX := hide (below_trans HB.out.drew hb); clear hb; rw [HQ.out]))
          all_goals (try go_wp2)
          all_goals go_ret
          all_goals exact ⟨by rw [HRR.out]; rfl, HX.out⟩
      · have l4 : ¬ (j : Int) < (lc : Int) := by omega
        have HCo : Hid (collAt lc C j = 0) := by show _ = _; exact if_neg hlc
        by_cases hz : cmpA (K j) (N j) (T j) (K2 j) (N2 j) (T2 j) (0) = 0
        · have HQ := hide hz
          clear hz
          go_wp2
          go_region_held3 (fun V => (V.cell? ⟨b, o + j * 3, none⟩ = some (.int .i64 (K j)) ∧ V.cell? ⟨b, o + j * 3 + 1, none⟩ = some (.int .i64 (N j)) ∧ V.cell? ⟨b, o + j * 3 + 2, none⟩ = some (.string (T j))) ∧ (V.cell? ⟨b2, o2 + j * 3, none⟩ = some (.int .i64 (K2 j)) ∧ V.cell? ⟨b2, o2 + j * 3 + 1, none⟩ = some (.int .i64 (N2 j)) ∧ V.cell? ⟨b2, o2 + j * 3 + 2, none⟩ = some (.string (T2 j)))) (first | exact ⟨(HR.out.later HB.out.drew) j hja, (HR2.out.later HB.out.drew) j hjb⟩ | exact ⟨(HR.out.later HX.out) j hja, (HR2.out.later HX.out) j hjb⟩) (first
            | (go_at_call 6; with_reducible refine Calls.mono (HW.out _ _ _ _ _ _ _ _) ?_; rintro e w1 ⟨rfl, hb⟩; have HX := hide (below_trans HB.out.drew hb); clear hb; rw [HQ.out]))
          all_goals (try go_wp2)
          all_goals
            refine ⟨⟨j + 1, hlt, rfl, fun i hi => ?_, HX.out⟩, ?_⟩
            · by_cases e : i = j
              · subst e; rw [HCo.out]; exact HQ.out
              · exact HA.out i (by omega)
            · simp only [intOf]; omega
        · obtain ⟨q, hq⟩ : ∃ q : Int, cmpA (K j) (N j) (T j) (K2 j) (N2 j) (T2 j) (0) = q := ⟨_, rfl⟩
          rw [hq] at hz
          have HQ := hide hq
          have HRR := hide (rowsR_hit (f := fun i => cmpA (K i) (N i) (T i) (K2 i) (N2 i) (T2 i) (collAt lc C i)) hlt HA.out (by simp only [HCo.out, hq]; exact hz))
          simp only [HCo.out, hq] at HRR
          clear hq
          go_wp2
          go_region_held3 (fun V => (V.cell? ⟨b, o + j * 3, none⟩ = some (.int .i64 (K j)) ∧ V.cell? ⟨b, o + j * 3 + 1, none⟩ = some (.int .i64 (N j)) ∧ V.cell? ⟨b, o + j * 3 + 2, none⟩ = some (.string (T j))) ∧ (V.cell? ⟨b2, o2 + j * 3, none⟩ = some (.int .i64 (K2 j)) ∧ V.cell? ⟨b2, o2 + j * 3 + 1, none⟩ = some (.int .i64 (N2 j)) ∧ V.cell? ⟨b2, o2 + j * 3 + 2, none⟩ = some (.string (T2 j)))) (first | exact ⟨(HR.out.later HB.out.drew) j hja, (HR2.out.later HB.out.drew) j hjb⟩ | exact ⟨(HR.out.later HX.out) j hja, (HR2.out.later HX.out) j hjb⟩) (first
            | (go_at_call 6; with_reducible refine Calls.mono (HW.out _ _ _ _ _ _ _ _) ?_; rintro e w1 ⟨rfl, hb⟩; have HX := hide (below_trans HB.out.drew hb); clear hb; rw [HQ.out]))
          all_goals (try go_wp2)
          all_goals go_ret
          all_goals exact ⟨by rw [HRR.out]; rfl, HX.out⟩
    · have l3 : ¬ (j : Int) < ((min la lb : Nat) : Int) := by omega
      obtain rfl : min la lb = j := by omega
      have HRR := hide (rowsR_end (f := fun i => cmpA (K i) (N i) (T i) (K2 i) (N2 i) (T2 i) (collAt lc C i)) (la := la) (lb := lb) HA.out)
      go_wp2_with (first
        | (go_at_call 31; with_reducible refine Calls.mono (Tryz.cmp_Compare_int _ _ _) ?_; rintro e w1 ⟨rfl, rfl⟩))
      go_ret
      exact ⟨by rw [HRR.out]; rfl, HB.out⟩

end Go.Proofs.YtghemaghbpekfaaGreatDoor
