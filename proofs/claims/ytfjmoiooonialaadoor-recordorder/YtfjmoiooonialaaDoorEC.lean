/- How two rows stand, as the document says. -/
import Derived.Test.YtfjmoiooonialaaDoorEB
namespace Go.Proofs.YtfjmoiooonialaaDoor
open Go.ChangeShapes Go.WideShapes Go.ChangeAt Go.RowKit
set_option linter.unusedVariables false

set_option maxHeartbeats 2000000 in
set_option maxRecDepth 10000 in
theorem rrowcmp (pa pb pc : Option Addr) (la ca lb cb2 : Nat) (K N : Nat → Int) (T : Nat → ByteArray) (K2 N2 : Nat → Int) (T2 : Nat → ByteArray) (hla : la ≤ 140737488355328) (hlb : lb ≤ 140737488355328) (w : World) (lc cc : Nat) (C : Nat → Int) (D : Nat → Bool) (hc : OrdP w pc lc C D) (h : RowP w pa la K N T) (h2 : RowP w pb lb K2 N2 T2) :
    Calls Tryd.prog 8 #[.slice pa la ca, .slice pb lb cb2, .slice pc lc cc] w fun e w' => e = .returned (.int .i64 (rowsR (ordF K N T K2 N2 T2 lc C D) la lb)) ∧ Below w.heap.size w w' := by
  have HRp := hide h
  have HRp2 := hide h2
  have HCp := hide hc
  have HW : Hid (∀ k1 n1 t1 k2 n2 t2 c V, Calls Tryd.prog 18 #[.agg #[.int .i64 k1, .int .i64 n1, .string t1], .agg #[.int .i64 k2, .int .i64 n2, .string t2], .int .i64 c] V fun e w' => e = .returned (.int .i64 (cmpA k1 n1 t1 k2 n2 t2 c)) ∧ Below V.heap.size V w') := fun k1 n1 t1 k2 n2 t2 c V => rcmp_walk k1 n1 t1 k2 n2 t2 c V
  clear h h2 hc
  go_enter Tryd.func8, Tryd.ntmps8
  go_wp2
  go_loopw [7] (fun iv wr => ∃ j : Nat, j ≤ min la lb ∧ iv = .int .i64 (j : Int) ∧ (∀ i, i < j → ordF K N T K2 N2 T2 lc C D i = 0) ∧ Below w.heap.size w wr) (fun iv _ => min la lb - (intOf iv).toNat)
  case atStart => exact ⟨0, Nat.zero_le _, rfl, fun i hi => by omega, Below.refl _ _⟩
  case round =>
    obtain ⟨j, hj, rfl, hall, hb⟩ := hrel
    have HA := hide hall
    have HB := hide hb
    clear hall hb
    by_cases hlt : j < min la lb
    · have hja : j < la := by omega
      have hjb : j < lb := by omega
      have l1 : (j : Int) < (la : Int) := by omega
      have l2 : (j : Int) < (lb : Int) := by omega
      have l0 : (0 : Int) ≤ (j : Int) := by omega
      have hw1 : IntKind.i64.wrap ((j : Int) + 1) = (j : Int) + 1 := by rw [IntKind.wrap_i64]; omega
      have HN : Hid (∀ (x y : Value), Below w.heap.size w (wr.alloc (.cells #[x, y] 29))) := fun x y => below_trans HB.out (new_below wr _ rfl)
      obtain ⟨b, o, rfl, hr⟩ := HRp.out (by omega)
      obtain ⟨b2, o2, rfl, hr2⟩ := HRp2.out (by omega)
      have HR := hide hr
      have HR2 := hide hr2
      clear hr hr2
      by_cases hlc : j < lc
      · obtain ⟨cb, co, rfl, hc⟩ := HCp.out (by omega)
        have HC := hide hc
        clear hc
        have l4 : (j : Int) < (lc : Int) := by omega
        have HCo := hide (ordF_in (K := K) (N := N) (T := T) (K2 := K2) (N2 := N2) (T2 := T2) (C := C) (D := D) hlc)
        cases hD : D j
        · rw [hD] at HCo
          obtain ⟨ce, cf⟩ := (HC.out.later (HN.out (.int .i64 0) (.bool false))) j hlc
          rw [hD] at cf
          clear hD
          go_wp2_with fail
          go_name_world W hW
          have hq0 := new_cells wr _ _ hW 0 _ rfl
          have hq1 := new_cells wr _ _ hW 1 _ rfl
          have hbW := new_below wr _ hW
          have HBD : Hid (Below w.heap.size w W.drew) := (below_trans HB.out hbW).drew
          have hds : Below W.heap.size W W.drew := (Below.refl _ _).drew
          have HS : Hid (∀ V, Below w.heap.size w V → Below W.heap.size W V → (fun V => (V.cell? ⟨b, o + j * 3, none⟩ = some (.int .i64 (K j)) ∧ V.cell? ⟨b, o + j * 3 + 1, none⟩ = some (.int .i64 (N j)) ∧ V.cell? ⟨b, o + j * 3 + 2, none⟩ = some (.string (T j))) ∧ (V.cell? ⟨b2, o2 + j * 3, none⟩ = some (.int .i64 (K2 j)) ∧ V.cell? ⟨b2, o2 + j * 3 + 1, none⟩ = some (.int .i64 (N2 j)) ∧ V.cell? ⟨b2, o2 + j * 3 + 2, none⟩ = some (.string (T2 j))) ∧ V.cell? ⟨wr.heap.size, 0, none⟩ = some (.int .i64 (C j)) ∧ V.cell? ⟨wr.heap.size, 1, none⟩ = some (.bool false)) V) := fun V h1 h2 => ⟨(HR.out.later h1) j hja, (HR2.out.later h1) j hjb, cell_later h2 hq0, cell_later h2 hq1⟩
          have HDS := hide hds
          clear hW hq0 hq1 hbW hds
          obtain ⟨q, hq⟩ : ∃ q : Int, cmpA (K j) (N j) (T j) (K2 j) (N2 j) (T2 j) (C j) = q := ⟨_, rfl⟩
          have HQ := hide hq
          have hqr := cmpA_range (K j) (N j) (T j) (K2 j) (N2 j) (T2 j) (C j)
          rw [hq] at hqr
          have hneg : IntKind.i64.wrap (-q) = -q := by rw [IntKind.wrap_i64]; omega
          by_cases hz : q = 0
          · subst hz
            have HO0 : Hid (ordF K N T K2 N2 T2 lc C D j = 0) := by
              show _ = _
              rw [HCo.out]
              unfold ordA
              first | (split <;> rw [hq] <;> rfl) | (rw [hq])
            clear hq hqr
            go_region_held3 (fun V => (V.cell? ⟨b, o + j * 3, none⟩ = some (.int .i64 (K j)) ∧ V.cell? ⟨b, o + j * 3 + 1, none⟩ = some (.int .i64 (N j)) ∧ V.cell? ⟨b, o + j * 3 + 2, none⟩ = some (.string (T j))) ∧ (V.cell? ⟨b2, o2 + j * 3, none⟩ = some (.int .i64 (K2 j)) ∧ V.cell? ⟨b2, o2 + j * 3 + 1, none⟩ = some (.int .i64 (N2 j)) ∧ V.cell? ⟨b2, o2 + j * 3 + 2, none⟩ = some (.string (T2 j))) ∧ V.cell? ⟨wr.heap.size, 0, none⟩ = some (.int .i64 (C j)) ∧ V.cell? ⟨wr.heap.size, 1, none⟩ = some (.bool false)) (first | with_reducible exact HS.out _ HBD.out HDS.out | with_reducible exact HS.out _ HX.out HX2.out) (first
              | (go_at_call 18; with_reducible refine Calls.mono (HW.out _ _ _ _ _ _ _ _) ?_; rintro e w1 ⟨rfl, hb⟩; have HX := hide (below_trans HBD.out hb); have HX2 := hide (below_trans HDS.out hb); clear hb; rw [HQ.out]; have hd1 := (HS.out _ HX.out HX2.out).2.2.2))
            all_goals (try go_wp2)
            all_goals
              refine ⟨⟨j + 1, hlt, rfl, fun i hi => ?_, HX.out⟩, ?_⟩
              · by_cases e : i = j
                · subst e; exact HO0.out
                · exact HA.out i (by omega)
              · simp only [intOf]; omega
          · have HRR := hide (rowsR_hit (f := ordF K N T K2 N2 T2 lc C D) hlt HA.out (by rw [HCo.out, show ordA (K j) (N j) (T j) (K2 j) (N2 j) (T2 j) (C j) false = cmpA (K j) (N j) (T j) (K2 j) (N2 j) (T2 j) (C j) from rfl, hq]; omega))
            rw [HCo.out, show ordA (K j) (N j) (T j) (K2 j) (N2 j) (T2 j) (C j) false = cmpA (K j) (N j) (T j) (K2 j) (N2 j) (T2 j) (C j) from rfl, hq] at HRR
            clear hq hqr
            go_region_held3 (fun V => (V.cell? ⟨b, o + j * 3, none⟩ = some (.int .i64 (K j)) ∧ V.cell? ⟨b, o + j * 3 + 1, none⟩ = some (.int .i64 (N j)) ∧ V.cell? ⟨b, o + j * 3 + 2, none⟩ = some (.string (T j))) ∧ (V.cell? ⟨b2, o2 + j * 3, none⟩ = some (.int .i64 (K2 j)) ∧ V.cell? ⟨b2, o2 + j * 3 + 1, none⟩ = some (.int .i64 (N2 j)) ∧ V.cell? ⟨b2, o2 + j * 3 + 2, none⟩ = some (.string (T2 j))) ∧ V.cell? ⟨wr.heap.size, 0, none⟩ = some (.int .i64 (C j)) ∧ V.cell? ⟨wr.heap.size, 1, none⟩ = some (.bool false)) (first | with_reducible exact HS.out _ HBD.out HDS.out | with_reducible exact HS.out _ HX.out HX2.out) (first
              | (go_at_call 18; with_reducible refine Calls.mono (HW.out _ _ _ _ _ _ _ _) ?_; rintro e w1 ⟨rfl, hb⟩; have HX := hide (below_trans HBD.out hb); have HX2 := hide (below_trans HDS.out hb); clear hb; rw [HQ.out]; have hd1 := (HS.out _ HX.out HX2.out).2.2.2))
            all_goals (try go_wp2)
            all_goals go_ret
            all_goals exact ⟨by rw [HRR.out]; rfl, HX.out⟩
        · rw [hD] at HCo
          obtain ⟨ce, cf⟩ := (HC.out.later (HN.out (.int .i64 0) (.bool false))) j hlc
          rw [hD] at cf
          clear hD
          go_wp2_with fail
          go_name_world W hW
          have hq0 := new_cells wr _ _ hW 0 _ rfl
          have hq1 := new_cells wr _ _ hW 1 _ rfl
          have hbW := new_below wr _ hW
          have HBD : Hid (Below w.heap.size w W.drew) := (below_trans HB.out hbW).drew
          have hds : Below W.heap.size W W.drew := (Below.refl _ _).drew
          have HS : Hid (∀ V, Below w.heap.size w V → Below W.heap.size W V → (fun V => (V.cell? ⟨b, o + j * 3, none⟩ = some (.int .i64 (K j)) ∧ V.cell? ⟨b, o + j * 3 + 1, none⟩ = some (.int .i64 (N j)) ∧ V.cell? ⟨b, o + j * 3 + 2, none⟩ = some (.string (T j))) ∧ (V.cell? ⟨b2, o2 + j * 3, none⟩ = some (.int .i64 (K2 j)) ∧ V.cell? ⟨b2, o2 + j * 3 + 1, none⟩ = some (.int .i64 (N2 j)) ∧ V.cell? ⟨b2, o2 + j * 3 + 2, none⟩ = some (.string (T2 j))) ∧ V.cell? ⟨wr.heap.size, 0, none⟩ = some (.int .i64 (C j)) ∧ V.cell? ⟨wr.heap.size, 1, none⟩ = some (.bool true)) V) := fun V h1 h2 => ⟨(HR.out.later h1) j hja, (HR2.out.later h1) j hjb, cell_later h2 hq0, cell_later h2 hq1⟩
          have HDS := hide hds
          clear hW hq0 hq1 hbW hds
          obtain ⟨q, hq⟩ : ∃ q : Int, cmpA (K j) (N j) (T j) (K2 j) (N2 j) (T2 j) (C j) = q := ⟨_, rfl⟩
          have HQ := hide hq
          have hqr := cmpA_range (K j) (N j) (T j) (K2 j) (N2 j) (T2 j) (C j)
          rw [hq] at hqr
          have hneg : IntKind.i64.wrap (-q) = -q := by rw [IntKind.wrap_i64]; omega
          by_cases hz : q = 0
          · subst hz
            have HO0 : Hid (ordF K N T K2 N2 T2 lc C D j = 0) := by
              show _ = _
              rw [HCo.out]
              unfold ordA
              first | (split <;> rw [hq] <;> rfl) | (rw [hq])
            clear hq hqr
            go_region_held3 (fun V => (V.cell? ⟨b, o + j * 3, none⟩ = some (.int .i64 (K j)) ∧ V.cell? ⟨b, o + j * 3 + 1, none⟩ = some (.int .i64 (N j)) ∧ V.cell? ⟨b, o + j * 3 + 2, none⟩ = some (.string (T j))) ∧ (V.cell? ⟨b2, o2 + j * 3, none⟩ = some (.int .i64 (K2 j)) ∧ V.cell? ⟨b2, o2 + j * 3 + 1, none⟩ = some (.int .i64 (N2 j)) ∧ V.cell? ⟨b2, o2 + j * 3 + 2, none⟩ = some (.string (T2 j))) ∧ V.cell? ⟨wr.heap.size, 0, none⟩ = some (.int .i64 (C j)) ∧ V.cell? ⟨wr.heap.size, 1, none⟩ = some (.bool true)) (first | with_reducible exact HS.out _ HBD.out HDS.out | with_reducible exact HS.out _ HX.out HX2.out) (first
              | (go_at_call 18; with_reducible refine Calls.mono (HW.out _ _ _ _ _ _ _ _) ?_; rintro e w1 ⟨rfl, hb⟩; have HX := hide (below_trans HBD.out hb); have HX2 := hide (below_trans HDS.out hb); clear hb; rw [HQ.out]; have hd1 := (HS.out _ HX.out HX2.out).2.2.2))
            all_goals (try go_wp2)
            all_goals
              refine ⟨⟨j + 1, hlt, rfl, fun i hi => ?_, HX.out⟩, ?_⟩
              · by_cases e : i = j
                · subst e; exact HO0.out
                · exact HA.out i (by omega)
              · simp only [intOf]; omega
          · have HRR := hide (rowsR_hit (f := ordF K N T K2 N2 T2 lc C D) hlt HA.out (by rw [HCo.out, show ordA (K j) (N j) (T j) (K2 j) (N2 j) (T2 j) (C j) true = -cmpA (K j) (N j) (T j) (K2 j) (N2 j) (T2 j) (C j) from rfl, hq]; omega))
            rw [HCo.out, show ordA (K j) (N j) (T j) (K2 j) (N2 j) (T2 j) (C j) true = -cmpA (K j) (N j) (T j) (K2 j) (N2 j) (T2 j) (C j) from rfl, hq] at HRR
            clear hq hqr
            go_region_held3 (fun V => (V.cell? ⟨b, o + j * 3, none⟩ = some (.int .i64 (K j)) ∧ V.cell? ⟨b, o + j * 3 + 1, none⟩ = some (.int .i64 (N j)) ∧ V.cell? ⟨b, o + j * 3 + 2, none⟩ = some (.string (T j))) ∧ (V.cell? ⟨b2, o2 + j * 3, none⟩ = some (.int .i64 (K2 j)) ∧ V.cell? ⟨b2, o2 + j * 3 + 1, none⟩ = some (.int .i64 (N2 j)) ∧ V.cell? ⟨b2, o2 + j * 3 + 2, none⟩ = some (.string (T2 j))) ∧ V.cell? ⟨wr.heap.size, 0, none⟩ = some (.int .i64 (C j)) ∧ V.cell? ⟨wr.heap.size, 1, none⟩ = some (.bool true)) (first | with_reducible exact HS.out _ HBD.out HDS.out | with_reducible exact HS.out _ HX.out HX2.out) (first
              | (go_at_call 18; with_reducible refine Calls.mono (HW.out _ _ _ _ _ _ _ _) ?_; rintro e w1 ⟨rfl, hb⟩; have HX := hide (below_trans HBD.out hb); have HX2 := hide (below_trans HDS.out hb); clear hb; rw [HQ.out]; have hd1 := (HS.out _ HX.out HX2.out).2.2.2))
            all_goals (try go_wp2)
            all_goals go_ret
            all_goals exact ⟨by rw [HRR.out]; rfl, HX.out⟩
      · have l4 : ¬ (j : Int) < (lc : Int) := by omega
        have HCo := hide (ordF_out (K := K) (N := N) (T := T) (K2 := K2) (N2 := N2) (T2 := T2) (C := C) (D := D) hlc)
        go_wp2_with fail
        go_name_world W hW
        have hq0 := new_cells wr _ _ hW 0 _ rfl
        have hq1 := new_cells wr _ _ hW 1 _ rfl
        have hbW := new_below wr _ hW
        have HBD : Hid (Below w.heap.size w W.drew) := (below_trans HB.out hbW).drew
        have hds : Below W.heap.size W W.drew := (Below.refl _ _).drew
        have HS : Hid (∀ V, Below w.heap.size w V → Below W.heap.size W V → (fun V => (V.cell? ⟨b, o + j * 3, none⟩ = some (.int .i64 (K j)) ∧ V.cell? ⟨b, o + j * 3 + 1, none⟩ = some (.int .i64 (N j)) ∧ V.cell? ⟨b, o + j * 3 + 2, none⟩ = some (.string (T j))) ∧ (V.cell? ⟨b2, o2 + j * 3, none⟩ = some (.int .i64 (K2 j)) ∧ V.cell? ⟨b2, o2 + j * 3 + 1, none⟩ = some (.int .i64 (N2 j)) ∧ V.cell? ⟨b2, o2 + j * 3 + 2, none⟩ = some (.string (T2 j))) ∧ V.cell? ⟨wr.heap.size, 0, none⟩ = some (.int .i64 0) ∧ V.cell? ⟨wr.heap.size, 1, none⟩ = some (.bool false)) V) := fun V h1 h2 => ⟨(HR.out.later h1) j hja, (HR2.out.later h1) j hjb, cell_later h2 hq0, cell_later h2 hq1⟩
        have HDS := hide hds
        clear hW hq0 hq1 hbW hds
        obtain ⟨q, hq⟩ : ∃ q : Int, cmpA (K j) (N j) (T j) (K2 j) (N2 j) (T2 j) 0 = q := ⟨_, rfl⟩
        have HQ := hide hq
        have hqr := cmpA_range (K j) (N j) (T j) (K2 j) (N2 j) (T2 j) 0
        rw [hq] at hqr
        have hneg : IntKind.i64.wrap (-q) = -q := by rw [IntKind.wrap_i64]; omega
        by_cases hz : q = 0
        · subst hz
          have HO0 : Hid (ordF K N T K2 N2 T2 lc C D j = 0) := by
            show _ = _
            rw [HCo.out]
            unfold ordA
            first | (split <;> rw [hq] <;> rfl) | (rw [hq])
          clear hq hqr
          go_region_held3 (fun V => (V.cell? ⟨b, o + j * 3, none⟩ = some (.int .i64 (K j)) ∧ V.cell? ⟨b, o + j * 3 + 1, none⟩ = some (.int .i64 (N j)) ∧ V.cell? ⟨b, o + j * 3 + 2, none⟩ = some (.string (T j))) ∧ (V.cell? ⟨b2, o2 + j * 3, none⟩ = some (.int .i64 (K2 j)) ∧ V.cell? ⟨b2, o2 + j * 3 + 1, none⟩ = some (.int .i64 (N2 j)) ∧ V.cell? ⟨b2, o2 + j * 3 + 2, none⟩ = some (.string (T2 j))) ∧ V.cell? ⟨wr.heap.size, 0, none⟩ = some (.int .i64 0) ∧ V.cell? ⟨wr.heap.size, 1, none⟩ = some (.bool false)) (first | with_reducible exact HS.out _ HBD.out HDS.out | with_reducible exact HS.out _ HX.out HX2.out) (first
            | (go_at_call 18; with_reducible refine Calls.mono (HW.out _ _ _ _ _ _ _ _) ?_; rintro e w1 ⟨rfl, hb⟩; have HX := hide (below_trans HBD.out hb); have HX2 := hide (below_trans HDS.out hb); clear hb; rw [HQ.out]; have hd1 := (HS.out _ HX.out HX2.out).2.2.2))
          all_goals (try go_wp2)
          all_goals
            refine ⟨⟨j + 1, hlt, rfl, fun i hi => ?_, HX.out⟩, ?_⟩
            · by_cases e : i = j
              · subst e; exact HO0.out
              · exact HA.out i (by omega)
            · simp only [intOf]; omega
        · have HRR := hide (rowsR_hit (f := ordF K N T K2 N2 T2 lc C D) hlt HA.out (by rw [HCo.out, show ordA (K j) (N j) (T j) (K2 j) (N2 j) (T2 j) 0 false = cmpA (K j) (N j) (T j) (K2 j) (N2 j) (T2 j) 0 from rfl, hq]; omega))
          rw [HCo.out, show ordA (K j) (N j) (T j) (K2 j) (N2 j) (T2 j) 0 false = cmpA (K j) (N j) (T j) (K2 j) (N2 j) (T2 j) 0 from rfl, hq] at HRR
          clear hq hqr
          go_region_held3 (fun V => (V.cell? ⟨b, o + j * 3, none⟩ = some (.int .i64 (K j)) ∧ V.cell? ⟨b, o + j * 3 + 1, none⟩ = some (.int .i64 (N j)) ∧ V.cell? ⟨b, o + j * 3 + 2, none⟩ = some (.string (T j))) ∧ (V.cell? ⟨b2, o2 + j * 3, none⟩ = some (.int .i64 (K2 j)) ∧ V.cell? ⟨b2, o2 + j * 3 + 1, none⟩ = some (.int .i64 (N2 j)) ∧ V.cell? ⟨b2, o2 + j * 3 + 2, none⟩ = some (.string (T2 j))) ∧ V.cell? ⟨wr.heap.size, 0, none⟩ = some (.int .i64 0) ∧ V.cell? ⟨wr.heap.size, 1, none⟩ = some (.bool false)) (first | with_reducible exact HS.out _ HBD.out HDS.out | with_reducible exact HS.out _ HX.out HX2.out) (first
            | (go_at_call 18; with_reducible refine Calls.mono (HW.out _ _ _ _ _ _ _ _) ?_; rintro e w1 ⟨rfl, hb⟩; have HX := hide (below_trans HBD.out hb); have HX2 := hide (below_trans HDS.out hb); clear hb; rw [HQ.out]; have hd1 := (HS.out _ HX.out HX2.out).2.2.2))
          all_goals (try go_wp2)
          all_goals go_ret
          all_goals exact ⟨by rw [HRR.out]; rfl, HX.out⟩
    · obtain rfl : min la lb = j := by omega
      have HRR := hide (rowsR_end (f := ordF K N T K2 N2 T2 lc C D) (la := la) (lb := lb) HA.out)
      by_cases h1 : la < lb
      · have e1 : ((min la lb : Nat) : Int) = (la : Int) := by omega
        have l1 : ¬ (la : Int) < (la : Int) := by omega
        have l2 : (la : Int) < (lb : Int) := by omega
        have HE : Hid (cmpI (la : Int) (lb : Int) = -1) := by show _ = _; unfold cmpI; rw [if_pos l2]
        rw [e1]
        go_wp2_with fail
        go_ret
        exact ⟨by rw [HRR.out, HE.out]; rfl, HB.out⟩
      · have e1 : ((min la lb : Nat) : Int) = (lb : Int) := by omega
        have l2 : ¬ (la : Int) < (lb : Int) := by omega
        have l1 : ¬ (lb : Int) < (lb : Int) := by omega
        rw [e1]
        by_cases h2 : lb < la
        · have l3 : (lb : Int) < (la : Int) := by omega
          have HE : Hid (cmpI (la : Int) (lb : Int) = 1) := by show _ = _; unfold cmpI; rw [if_neg l2, if_pos l3]
          go_wp2_with fail
          go_ret
          exact ⟨by rw [HRR.out, HE.out]; rfl, HB.out⟩
        · have l3 : ¬ (lb : Int) < (la : Int) := by omega
          have HE : Hid (cmpI (la : Int) (lb : Int) = 0) := by show _ = _; unfold cmpI; rw [if_neg l2, if_neg l3]
          go_wp2_with fail
          go_ret
          exact ⟨by rw [HRR.out, HE.out]; rfl, HB.out⟩
end Go.Proofs.YtfjmoiooonialaaDoor
