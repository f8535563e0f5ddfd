/- Which pages may be. -/
import Derived.Test.YtenfjbcigkolaaaGreatGI
namespace Go.Proofs.YtenfjbcigkolaaaGreat
open Go.ChangeShapes Go.WideShapes Go.ChangeAt Go.RowKit
set_option linter.unusedVariables false

/-- How many cells a page says that it has; where they end. -/
def cnt (l : List UInt8) : Nat := byt l 1
def endN (l : List UInt8) : Nat := 6 + byt l 1 + sm l (byt l 1)
/-- A page may be. -/
def okB (l : List UInt8) : Prop := byt l 0 ≤ 5 ∧ 6 + byt l 1 ≤ 256 ∧ (∀ i, i < byt l 1 → byt l (6 + i) ≠ 0 ∧ byt l (6 + i) ≤ 60) ∧ endN l ≤ 256 ∧ (∀ i, endN l ≤ i → i < 256 → byt l i = 0)
open Classical in
noncomputable def okE (l : List UInt8) : Int := if okB l then 0 else 8
theorem okE_no {l : List UInt8} (h : ¬ okB l) : okE l = 8 := if_neg h
theorem okE_yes {l : List UInt8} (h : okB l) : okE l = 0 := if_pos h

set_option maxRecDepth 20000 in
set_option maxHeartbeats 2000000 in
theorem check_walk (l : List UInt8) (hl : l.length = 256) (w : World) :
    Calls Tryz.prog 182 #[.agg (bc l)] w fun e w' => e = .returned (.int .i64 (okE l)) ∧ Below w.heap.size w w' := by
  have HP := hide (PAt.new w l)
  have HB := hide (new_below w (.cells (bc l) 32) rfl)
  have HL := hide hl
  have c0 := HP.out.cell (k := 0) (by omega)
  have c1 := HP.out.cell (k := 1) (by omega)
  have b1 := byt_lt l 1
  have e1 : IntKind.i64.wrap (byt l 1 : Int) = (byt l 1 : Int) := by rw [IntKind.wrap_i64]; omega
  have e2 : IntKind.i64.wrap (6 + (byt l 1 : Int)) = 6 + (byt l 1 : Int) := by rw [IntKind.wrap_i64]; omega
  clear hl
  by_cases h5 : 5 < byt l 0
  · have l5 : (5 : Int) < (byt l 0 : Int) := by omega
    have HN := hide (okE_no (l := l) (fun h => by have := h.1; omega))
    clear b1
    go_enter Tryz.func182, Tryz.ntmps182
    go_wp2
    go_ret
    exact ⟨by rw [HN.out]; rfl, HB.out⟩
  have l5 : ¬ (5 : Int) < (byt l 0 : Int) := by omega
  by_cases h6 : 256 < 6 + byt l 1
  · have l6 : (256 : Int) < 6 + (byt l 1 : Int) := by omega
    have HN := hide (okE_no (l := l) (fun h => by have := h.2.1; omega))
    clear b1
    go_enter Tryz.func182, Tryz.ntmps182
    go_wp2
    go_ret
    exact ⟨by rw [HN.out]; rfl, HB.out⟩
  have l6 : ¬ (256 : Int) < 6 + (byt l 1 : Int) := by omega
  have hs := cut_page (w.alloc (.cells (bc l) 32)) w.heap.size (x := 6) (y := 6 + (byt l 1 : Int)) 6 (byt l 1) rfl rfl (by omega) (by omega)
  have H5 := hide h5
  have H6 := hide h6
  clear b1 h5 h6
  go_enter Tryz.func182, Tryz.ntmps182
  go_wp2
  go_loopw [24] (fun iv wr => ∃ j : Nat, j ≤ byt l 1 ∧ iv = .int .i64 (j : Int) ∧ (∀ i, i < j → byt l (6 + i) ≠ 0 ∧ byt l (6 + i) ≤ 60) ∧ wr = w.alloc (.cells (bc l) 32)) (fun iv _ => byt l 1 - (intOf iv).toNat)
  case atStart => exact ⟨0, Nat.zero_le _, rfl, fun i hi => by omega, rfl⟩
  case round =>
    obtain ⟨j, hj, rfl, hall, rfl⟩ := hrel
    have HA := hide hall
    clear hall
    by_cases hlt : j < byt l 1
    · have l1 : (j : Int) < (byt l 1 : Int) := by omega
      have l0 : (0 : Int) ≤ (j : Int) := by omega
      have h6 := H6.out
      have hw1 : IntKind.i64.wrap ((j : Int) + 1) = (j : Int) + 1 := by rw [IntKind.wrap_i64]; omega
      have cj := HP.out.cell (k := 6 + j) (by rw [HL.out]; omega)
      by_cases hz : byt l (6 + j) = 0
      · have HN := hide (okE_no (l := l) (fun h => (h.2.2.1 j hlt).1 hz))
        rw [hz] at cj
        clear hz h6
        go_wp2
        go_ret
        exact ⟨by rw [HN.out]; rfl, HB.out⟩
      · by_cases h60 : 60 < byt l (6 + j)
        · have HN := hide (okE_no (l := l) (fun h => by have := (h.2.2.1 j hlt).2; omega))
          have l60 : (60 : Int) < (byt l (6 + j) : Int) := by omega
          clear h6
          go_wp2
          go_ret
          exact ⟨by rw [HN.out]; rfl, HB.out⟩
        · have l60 : ¬ (60 : Int) < (byt l (6 + j) : Int) := by omega
          have lz : ¬ (byt l (6 + j) : Int) = 0 := by omega
          clear h6
          go_wp2
          refine ⟨⟨j + 1, hlt, rfl, fun i hi => ?_, by trivial⟩, ?_⟩
          · by_cases e : i = j
            · subst e; exact ⟨hz, by omega⟩
            · exact HA.out i (by omega)
          · simp only [intOf]; omega
    · have l1 : ¬ (j : Int) < (byt l 1 : Int) := by omega
      obtain rfl : j = byt l 1 := by omega
      have h6 := H6.out
      have HS := hide (start_walk l HL.out (byt l 1) (by omega))
      by_cases he : 256 < 6 + byt l 1 + sm l (byt l 1)
      · have HN := hide (okE_no (l := l) (fun h => by have := h.2.2.2.1; unfold endN at this; omega))
        have le : (256 : Int) < 6 + (byt l 1 : Int) + (sm l (byt l 1) : Int) := by omega
        clear h6
        go_wp2_with (first
          | (refine wp_loadP HL.out HP.out _ (by rfl) (by rfl) (by rfl) ?_)
          | (go_at_call 216; with_reducible refine Calls.mono (HS.out _) ?_; rintro e w1 ⟨rfl, hb⟩; have HB1 := hide (below_trans HB.out hb); clear hb))
        go_ret
        exact ⟨by rw [HN.out]; rfl, HB1.out⟩
      · have le : ¬ (256 : Int) < 6 + (byt l 1 : Int) + (sm l (byt l 1) : Int) := by omega
        obtain ⟨x0, hs2, hx0, hx0'⟩ := cut_end' w.heap.size (x := 6 + (byt l 1 : Int) + (sm l (byt l 1) : Int)) (endN l) (by unfold endN; omega) (by unfold endN; omega)
        have HX0 := hide hx0
        have HE : Hid (endN l = 6 + byt l 1 + sm l (byt l 1)) := rfl
        have HLe := hide he
        clear hx0 hx0' h6 hs
        go_wp2_with (first
          | (refine wp_loadP HL.out HP.out _ (by rfl) (by rfl) (by rfl) ?_)
          | (go_at_call 216; with_reducible refine Calls.mono (HS.out _) ?_; rintro e w1 ⟨rfl, hb⟩; have HP1 := hide (HP.out.later hb); have HB1 := hide (below_trans HB.out hb); clear hb))
        go_loopw [43] (fun iv wr => ∃ j : Nat, j ≤ 256 - endN l ∧ iv = .int .i64 (j : Int) ∧ (∀ i, i < j → byt l (endN l + i) = 0) ∧ wr = w1) (fun iv _ => 256 - endN l - (intOf iv).toNat)
        case atStart => exact ⟨0, Nat.zero_le _, rfl, fun i hi => by omega, rfl⟩
        case round =>
          obtain ⟨j, hj, rfl, hall, rfl⟩ := hrel
          have HA2 := hide hall
          clear hall
          by_cases hlt : j < 256 - endN l
          · have l1 : (j : Int) < ((256 - endN l : Nat) : Int) := by omega
            have l0 : (0 : Int) ≤ (j : Int) := by omega
            have hw1 : IntKind.i64.wrap ((j : Int) + 1) = (j : Int) + 1 := by rw [IntKind.wrap_i64]; omega
            have cj := HP1.out.cell (k := endN l + j) (by rw [HL.out]; omega)
            rw [← HX0.out (by omega)] at cj
            by_cases hz : byt l (endN l + j) = 0
            · rw [← HX0.out (by omega)] at hz
              rw [hz] at cj
              rw [HX0.out (by omega)] at hz
              have HZ := hide hz
              clear hz
              go_wp2
              refine ⟨⟨j + 1, hlt, rfl, fun i hi => ?_, by trivial⟩, ?_⟩
              · by_cases e : i = j
                · subst e; exact HZ.out
                · exact HA2.out i (by omega)
              · simp only [intOf]; omega
            · have HN := hide (okE_no (l := l) (fun h => hz (h.2.2.2.2 _ (by omega) (by omega))))
              have lz : ¬ (byt l (x0 + j) : Int) = 0 := by rw [HX0.out (by omega)]; omega
              clear hz
              go_wp2
              go_ret
              exact ⟨by rw [HN.out]; rfl, HB1.out⟩
          · have l1 : ¬ (j : Int) < ((256 - endN l : Nat) : Int) := by omega
            have HN := hide (okE_yes (l := l) ⟨by have := H5.out; omega, by have := H6.out; omega, HA.out, by rw [HE.out]; have := HLe.out; omega, fun i h1 h2 => by have := HA2.out (i - endN l) (by omega); rwa [show endN l + (i - endN l) = i by omega] at this⟩)
            go_wp2
            go_ret
            exact ⟨by rw [HN.out]; rfl, HB1.out⟩
end Go.Proofs.YtenfjbcigkolaaaGreat
