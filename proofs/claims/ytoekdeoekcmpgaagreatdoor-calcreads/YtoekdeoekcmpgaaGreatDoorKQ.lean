/- The walk of CalcReads. -/
import Derived.Test.YtoekdeoekcmpgaaGreatDoorKP
namespace Go.Proofs.YtoekdeoekcmpgaaGreatDoor
open Go.ChangeShapes Go.WideShapes Go.ChangeAt Go.RowKit
set_option linter.unusedVariables false

theorem showV_val (k n : Int) (t : ByteArray) : ∃ a b c, showV k n t = val a b c := by
  unfold showV
  split
  · split
    · exact textV_val _
    · split
      · exact textV_val _
      · exact ⟨_, _, _, rfl⟩
  · exact ⟨_, _, _, rfl⟩

set_option maxHeartbeats 2000000 in
set_option maxRecDepth 10000 in
theorem creads_none (k n : Int) (t : ByteArray) (h0 : -9223372036854775808 ≤ n) (h1 : n ≤ 9223372036854775807) (o : Option Int) (ho : numO k n t.data.toList = o) (hn : o = none) (w : World) (hE : Env w) :
    Calls Tryz.prog 3 #[val k n t] w fun e w' => e = .returned (.bool true) ∧ Below w.heap.size w w' := by
  obtain ⟨a1, a2, a3, ha⟩ := optV_val o
  obtain ⟨b1, b2, b3, hb⟩ := showV_val k n t
  have HT : Hid (∀ V, Env V → Calls Tryz.prog 9 #[.agg #[.int .i64 k, .int .i64 n, .string t]] V fun e w' => e = .returned (.tuple #[.bool false, .bool false]) ∧ Below V.heap.size V w') := fun V hV => by have := truth2_walk k n t V hV; rw [ho] at this; rw [hn] at this; exact this
  have HU : Hid (∀ V, Calls Tryz.prog 10 #[.agg #[.int .i64 k, .int .i64 n, .string t]] V fun e w' => e = .returned (.int .i64 (-1)) ∧ Below V.heap.size V w') := fun V => by have := rtruth_walk k n t V; rw [ho] at this; rw [hn] at this; exact this
  have HN : Hid (∀ V, Env V → Calls Tryz.prog 12 #[.agg #[.int .i64 k, .int .i64 n, .string t]] V fun e w' => e = .returned (.agg #[.int .i64 a1, .int .i64 a2, .string a3]) ∧ Below V.heap.size V w') := fun V hV => by have := num_walk k n t V hV; rw [ho, ha] at this; exact this
  have HM : Hid (∀ V, Calls Tryz.prog 13 #[.agg #[.int .i64 k, .int .i64 n, .string t]] V fun e w' => e = .returned (.agg #[.int .i64 a1, .int .i64 a2, .string a3]) ∧ Below V.heap.size V w') := fun V => by have := rnum_walk k n t V; rw [ho, ha] at this; exact this
  have HS : Hid (∀ V, Env V → Calls Tryz.prog 14 #[.agg #[.int .i64 k, .int .i64 n, .string t]] V fun e w' => e = .returned (.agg #[.int .i64 b1, .int .i64 b2, .string b3]) ∧ Below V.heap.size V w') := fun V hV => by have := show_walk k n t h0 h1 V hV; rw [hb] at this; exact this
  have HQ : Hid (∀ V, Env V → Calls Tryz.prog 15 #[.agg #[.int .i64 k, .int .i64 n, .string t]] V fun e w' => e = .returned (.agg #[.int .i64 b1, .int .i64 b2, .string b3]) ∧ Below V.heap.size V w') := fun V hV => by have := rshow_walk k n t h0 h1 V hV; rw [hb] at this; exact this
  have HW : Hid (∀ V, Below (w.alloc (.cells #[.int .i64 k, .int .i64 n, .string t] 24)).heap.size (w.alloc (.cells #[.int .i64 k, .int .i64 n, .string t] 24)) V → _) := three_cells w (.int .i64 k) (.int .i64 n) (.string t)
  have HE0 : Hid (Env (w.alloc (.cells #[.int .i64 k, .int .i64 n, .string t] 24))) := hE.below (new_below w _ rfl)
  have HE : Hid (∀ V, Below (w.alloc (.cells #[.int .i64 k, .int .i64 n, .string t] 24)).heap.size (w.alloc (.cells #[.int .i64 k, .int .i64 n, .string t] 24)) V → Env V) := fun V h => (hE.below (new_below w _ rfl)).below h
  have HB : Hid (∀ V, Below (w.alloc (.cells #[.int .i64 k, .int .i64 n, .string t] 24)).heap.size (w.alloc (.cells #[.int .i64 k, .int .i64 n, .string t] 24)) V → Below w.heap.size w V) := fun V h => below_trans (new_below w _ rfl) h
  clear ho ha hb hE
  go_enter Tryz.func3, Tryz.ntmps3
  go_wp2_with (first
    | (go_at_call 9; with_reducible refine Calls.mono (HT.out _ HE0.out) ?_; rintro e w1 ⟨rfl, hb1⟩; have HX1 := hide hb1; obtain ⟨p0, p1, p2⟩ := HW.out _ HX1.out; clear hb1)
    | (go_at_call 10; with_reducible refine Calls.mono (HU.out _) ?_; rintro e w2 ⟨rfl, hb2⟩; have HX2 := hide (below_trans HX1.out hb2); obtain ⟨p0, p1, p2⟩ := HW.out _ HX2.out; clear hb2))
  have HD : Hid (∀ V, Below w2.drew.heap.size w2.drew V → Below (w.alloc (.cells #[.int .i64 k, .int .i64 n, .string t] 24)).heap.size (w.alloc (.cells #[.int .i64 k, .int .i64 n, .string t] 24)) V) := fun V h => below_trans (below_trans HX2.out (Below.refl _ _).drew) h
  have HED : Hid (Env w2.drew) := HE.out _ (HD.out _ (Below.refl _ _))
  go_region_held3 (fun V => V.cell? ⟨w.heap.size, 0, none⟩ = some (.int .i64 k) ∧ V.cell? ⟨w.heap.size, 1, none⟩ = some (.int .i64 n) ∧ V.cell? ⟨w.heap.size, 2, none⟩ = some (.string t)) (first | exact HW.out _ (HD.out _ (Below.refl _ _)) | exact HW.out _ HX3.out | exact HW.out _ HX4.out | exact HW.out _ HX5.out | exact HW.out _ HX6.out | exact HW.out _ HX7.out) (first
    | (go_at_call 11; with_reducible refine Calls.mono (head3_walk _ HED.out) ?_; rintro e w3 ⟨rfl, hb3⟩; have HX3 := hide (HD.out _ hb3); clear hb3)
    | (go_at_call 12; with_reducible refine Calls.mono (HN.out _ (HE.out _ HX3.out)) ?_; rintro e w4 ⟨rfl, hb4⟩; have HX4 := hide (below_trans HX3.out hb4); clear hb4)
    | (go_at_call 13; with_reducible refine Calls.mono (HM.out _) ?_; rintro e w5 ⟨rfl, hb5⟩; have HX5 := hide (below_trans HX4.out hb5); clear hb5)
    | (go_at_call 14; with_reducible refine Calls.mono (HS.out _ (HE.out _ HX5.out)) ?_; rintro e w6 ⟨rfl, hb6⟩; have HX6 := hide (below_trans HX5.out hb6); clear hb6)
    | (go_at_call 15; with_reducible refine Calls.mono (HQ.out _ (HE.out _ HX6.out)) ?_; rintro e w7 ⟨rfl, hb7⟩; have HX7 := hide (below_trans HX6.out hb7); clear hb7))
  all_goals (try go_wp2)
  all_goals go_ret
  all_goals exact ⟨by simp, HB.out _ HX7.out⟩

set_option maxHeartbeats 2000000 in
set_option maxRecDepth 10000 in
theorem creads_zero (k n : Int) (t : ByteArray) (h0 : -9223372036854775808 ≤ n) (h1 : n ≤ 9223372036854775807) (o : Option Int) (ho : numO k n t.data.toList = o) (hn : o = some 0) (w : World) (hE : Env w) :
    Calls Tryz.prog 3 #[val k n t] w fun e w' => e = .returned (.bool true) ∧ Below w.heap.size w w' := by
  obtain ⟨a1, a2, a3, ha⟩ := optV_val o
  obtain ⟨b1, b2, b3, hb⟩ := showV_val k n t
  have HT : Hid (∀ V, Env V → Calls Tryz.prog 9 #[.agg #[.int .i64 k, .int .i64 n, .string t]] V fun e w' => e = .returned (.tuple #[.bool false, .bool true]) ∧ Below V.heap.size V w') := fun V hV => by have := truth2_walk k n t V hV; rw [ho] at this; rw [hn] at this; exact this
  have HU : Hid (∀ V, Calls Tryz.prog 10 #[.agg #[.int .i64 k, .int .i64 n, .string t]] V fun e w' => e = .returned (.int .i64 (0)) ∧ Below V.heap.size V w') := fun V => by have := rtruth_walk k n t V; rw [ho] at this; rw [hn] at this; exact this
  have HN : Hid (∀ V, Env V → Calls Tryz.prog 12 #[.agg #[.int .i64 k, .int .i64 n, .string t]] V fun e w' => e = .returned (.agg #[.int .i64 a1, .int .i64 a2, .string a3]) ∧ Below V.heap.size V w') := fun V hV => by have := num_walk k n t V hV; rw [ho, ha] at this; exact this
  have HM : Hid (∀ V, Calls Tryz.prog 13 #[.agg #[.int .i64 k, .int .i64 n, .string t]] V fun e w' => e = .returned (.agg #[.int .i64 a1, .int .i64 a2, .string a3]) ∧ Below V.heap.size V w') := fun V => by have := rnum_walk k n t V; rw [ho, ha] at this; exact this
  have HS : Hid (∀ V, Env V → Calls Tryz.prog 14 #[.agg #[.int .i64 k, .int .i64 n, .string t]] V fun e w' => e = .returned (.agg #[.int .i64 b1, .int .i64 b2, .string b3]) ∧ Below V.heap.size V w') := fun V hV => by have := show_walk k n t h0 h1 V hV; rw [hb] at this; exact this
  have HQ : Hid (∀ V, Env V → Calls Tryz.prog 15 #[.agg #[.int .i64 k, .int .i64 n, .string t]] V fun e w' => e = .returned (.agg #[.int .i64 b1, .int .i64 b2, .string b3]) ∧ Below V.heap.size V w') := fun V hV => by have := rshow_walk k n t h0 h1 V hV; rw [hb] at this; exact this
  have HW : Hid (∀ V, Below (w.alloc (.cells #[.int .i64 k, .int .i64 n, .string t] 24)).heap.size (w.alloc (.cells #[.int .i64 k, .int .i64 n, .string t] 24)) V → _) := three_cells w (.int .i64 k) (.int .i64 n) (.string t)
  have HE0 : Hid (Env (w.alloc (.cells #[.int .i64 k, .int .i64 n, .string t] 24))) := hE.below (new_below w _ rfl)
  have HE : Hid (∀ V, Below (w.alloc (.cells #[.int .i64 k, .int .i64 n, .string t] 24)).heap.size (w.alloc (.cells #[.int .i64 k, .int .i64 n, .string t] 24)) V → Env V) := fun V h => (hE.below (new_below w _ rfl)).below h
  have HB : Hid (∀ V, Below (w.alloc (.cells #[.int .i64 k, .int .i64 n, .string t] 24)).heap.size (w.alloc (.cells #[.int .i64 k, .int .i64 n, .string t] 24)) V → Below w.heap.size w V) := fun V h => below_trans (new_below w _ rfl) h
  clear ho ha hb hE
  go_enter Tryz.func3, Tryz.ntmps3
  go_wp2_with (first
    | (go_at_call 9; with_reducible refine Calls.mono (HT.out _ HE0.out) ?_; rintro e w1 ⟨rfl, hb1⟩; have HX1 := hide hb1; obtain ⟨p0, p1, p2⟩ := HW.out _ HX1.out; clear hb1)
    | (go_at_call 10; with_reducible refine Calls.mono (HU.out _) ?_; rintro e w2 ⟨rfl, hb2⟩; have HX2 := hide (below_trans HX1.out hb2); obtain ⟨p0, p1, p2⟩ := HW.out _ HX2.out; clear hb2))
  have HD : Hid (∀ V, Below w2.drew.heap.size w2.drew V → Below (w.alloc (.cells #[.int .i64 k, .int .i64 n, .string t] 24)).heap.size (w.alloc (.cells #[.int .i64 k, .int .i64 n, .string t] 24)) V) := fun V h => below_trans (below_trans HX2.out (Below.refl _ _).drew) h
  have HED : Hid (Env w2.drew) := HE.out _ (HD.out _ (Below.refl _ _))
  go_region_held3 (fun V => V.cell? ⟨w.heap.size, 0, none⟩ = some (.int .i64 k) ∧ V.cell? ⟨w.heap.size, 1, none⟩ = some (.int .i64 n) ∧ V.cell? ⟨w.heap.size, 2, none⟩ = some (.string t)) (first | exact HW.out _ (HD.out _ (Below.refl _ _)) | exact HW.out _ HX3.out | exact HW.out _ HX4.out | exact HW.out _ HX5.out | exact HW.out _ HX6.out | exact HW.out _ HX7.out) (first
    | (go_at_call 11; with_reducible refine Calls.mono (head3_walk _ HED.out) ?_; rintro e w3 ⟨rfl, hb3⟩; have HX3 := hide (HD.out _ hb3); clear hb3)
    | (go_at_call 12; with_reducible refine Calls.mono (HN.out _ (HE.out _ HX3.out)) ?_; rintro e w4 ⟨rfl, hb4⟩; have HX4 := hide (below_trans HX3.out hb4); clear hb4)
    | (go_at_call 13; with_reducible refine Calls.mono (HM.out _) ?_; rintro e w5 ⟨rfl, hb5⟩; have HX5 := hide (below_trans HX4.out hb5); clear hb5)
    | (go_at_call 14; with_reducible refine Calls.mono (HS.out _ (HE.out _ HX5.out)) ?_; rintro e w6 ⟨rfl, hb6⟩; have HX6 := hide (below_trans HX5.out hb6); clear hb6)
    | (go_at_call 15; with_reducible refine Calls.mono (HQ.out _ (HE.out _ HX6.out)) ?_; rintro e w7 ⟨rfl, hb7⟩; have HX7 := hide (below_trans HX6.out hb7); clear hb7))
  all_goals (try go_wp2)
  all_goals go_ret
  all_goals exact ⟨by simp, HB.out _ HX7.out⟩

set_option maxHeartbeats 2000000 in
set_option maxRecDepth 10000 in
theorem creads_some (k n : Int) (t : ByteArray) (h0 : -9223372036854775808 ≤ n) (h1 : n ≤ 9223372036854775807) (o : Option Int) (ho : numO k n t.data.toList = o) (m : Int) (hn : o = some m) (hm : m ≠ 0) (w : World) (hE : Env w) :
    Calls Tryz.prog 3 #[val k n t] w fun e w' => e = .returned (.bool true) ∧ Below w.heap.size w w' := by
  obtain ⟨a1, a2, a3, ha⟩ := optV_val o
  obtain ⟨b1, b2, b3, hb⟩ := showV_val k n t
  have HT : Hid (∀ V, Env V → Calls Tryz.prog 9 #[.agg #[.int .i64 k, .int .i64 n, .string t]] V fun e w' => e = .returned (.tuple #[.bool true, .bool true]) ∧ Below V.heap.size V w') := fun V hV => by have := truth2_walk k n t V hV; rw [ho] at this; rw [hn] at this; simp only [truthB, decide_eq_true hm] at this; exact this
  have HU : Hid (∀ V, Calls Tryz.prog 10 #[.agg #[.int .i64 k, .int .i64 n, .string t]] V fun e w' => e = .returned (.int .i64 (1)) ∧ Below V.heap.size V w') := fun V => by have := rtruth_walk k n t V; rw [ho] at this; rw [hn] at this; simp only [truthI, if_neg hm] at this; exact this
  have HN : Hid (∀ V, Env V → Calls Tryz.prog 12 #[.agg #[.int .i64 k, .int .i64 n, .string t]] V fun e w' => e = .returned (.agg #[.int .i64 a1, .int .i64 a2, .string a3]) ∧ Below V.heap.size V w') := fun V hV => by have := num_walk k n t V hV; rw [ho, ha] at this; exact this
  have HM : Hid (∀ V, Calls Tryz.prog 13 #[.agg #[.int .i64 k, .int .i64 n, .string t]] V fun e w' => e = .returned (.agg #[.int .i64 a1, .int .i64 a2, .string a3]) ∧ Below V.heap.size V w') := fun V => by have := rnum_walk k n t V; rw [ho, ha] at this; exact this
  have HS : Hid (∀ V, Env V → Calls Tryz.prog 14 #[.agg #[.int .i64 k, .int .i64 n, .string t]] V fun e w' => e = .returned (.agg #[.int .i64 b1, .int .i64 b2, .string b3]) ∧ Below V.heap.size V w') := fun V hV => by have := show_walk k n t h0 h1 V hV; rw [hb] at this; exact this
  have HQ : Hid (∀ V, Env V → Calls Tryz.prog 15 #[.agg #[.int .i64 k, .int .i64 n, .string t]] V fun e w' => e = .returned (.agg #[.int .i64 b1, .int .i64 b2, .string b3]) ∧ Below V.heap.size V w') := fun V hV => by have := rshow_walk k n t h0 h1 V hV; rw [hb] at this; exact this
  have HW : Hid (∀ V, Below (w.alloc (.cells #[.int .i64 k, .int .i64 n, .string t] 24)).heap.size (w.alloc (.cells #[.int .i64 k, .int .i64 n, .string t] 24)) V → _) := three_cells w (.int .i64 k) (.int .i64 n) (.string t)
  have HE0 : Hid (Env (w.alloc (.cells #[.int .i64 k, .int .i64 n, .string t] 24))) := hE.below (new_below w _ rfl)
  have HE : Hid (∀ V, Below (w.alloc (.cells #[.int .i64 k, .int .i64 n, .string t] 24)).heap.size (w.alloc (.cells #[.int .i64 k, .int .i64 n, .string t] 24)) V → Env V) := fun V h => (hE.below (new_below w _ rfl)).below h
  have HB : Hid (∀ V, Below (w.alloc (.cells #[.int .i64 k, .int .i64 n, .string t] 24)).heap.size (w.alloc (.cells #[.int .i64 k, .int .i64 n, .string t] 24)) V → Below w.heap.size w V) := fun V h => below_trans (new_below w _ rfl) h
  clear ho ha hb hE
  go_enter Tryz.func3, Tryz.ntmps3
  go_wp2_with (first
    | (go_at_call 9; with_reducible refine Calls.mono (HT.out _ HE0.out) ?_; rintro e w1 ⟨rfl, hb1⟩; have HX1 := hide hb1; obtain ⟨p0, p1, p2⟩ := HW.out _ HX1.out; clear hb1)
    | (go_at_call 10; with_reducible refine Calls.mono (HU.out _) ?_; rintro e w2 ⟨rfl, hb2⟩; have HX2 := hide (below_trans HX1.out hb2); obtain ⟨p0, p1, p2⟩ := HW.out _ HX2.out; clear hb2))
  have HD : Hid (∀ V, Below w2.drew.heap.size w2.drew V → Below (w.alloc (.cells #[.int .i64 k, .int .i64 n, .string t] 24)).heap.size (w.alloc (.cells #[.int .i64 k, .int .i64 n, .string t] 24)) V) := fun V h => below_trans (below_trans HX2.out (Below.refl _ _).drew) h
  have HED : Hid (Env w2.drew) := HE.out _ (HD.out _ (Below.refl _ _))
  go_region_held3 (fun V => V.cell? ⟨w.heap.size, 0, none⟩ = some (.int .i64 k) ∧ V.cell? ⟨w.heap.size, 1, none⟩ = some (.int .i64 n) ∧ V.cell? ⟨w.heap.size, 2, none⟩ = some (.string t)) (first | exact HW.out _ (HD.out _ (Below.refl _ _)) | exact HW.out _ HX3.out | exact HW.out _ HX4.out | exact HW.out _ HX5.out | exact HW.out _ HX6.out | exact HW.out _ HX7.out) (first
    | (go_at_call 11; with_reducible refine Calls.mono (head3_walk _ HED.out) ?_; rintro e w3 ⟨rfl, hb3⟩; have HX3 := hide (HD.out _ hb3); clear hb3)
    | (go_at_call 12; with_reducible refine Calls.mono (HN.out _ (HE.out _ HX3.out)) ?_; rintro e w4 ⟨rfl, hb4⟩; have HX4 := hide (below_trans HX3.out hb4); clear hb4)
    | (go_at_call 13; with_reducible refine Calls.mono (HM.out _) ?_; rintro e w5 ⟨rfl, hb5⟩; have HX5 := hide (below_trans HX4.out hb5); clear hb5)
    | (go_at_call 14; with_reducible refine Calls.mono (HS.out _ (HE.out _ HX5.out)) ?_; rintro e w6 ⟨rfl, hb6⟩; have HX6 := hide (below_trans HX5.out hb6); clear hb6)
    | (go_at_call 15; with_reducible refine Calls.mono (HQ.out _ (HE.out _ HX6.out)) ?_; rintro e w7 ⟨rfl, hb7⟩; have HX7 := hide (below_trans HX6.out hb7); clear hb7))
  all_goals (try go_wp2)
  all_goals go_ret
  all_goals exact ⟨by simp, HB.out _ HX7.out⟩

theorem creads_walk (k n : Int) (t : ByteArray) (h0 : -9223372036854775808 ≤ n) (h1 : n ≤ 9223372036854775807) (w : World) (hE : Env w) :
    Calls Tryz.prog 3 #[val k n t] w fun e w' => e = .returned (.bool true) ∧ Below w.heap.size w w' := by
  cases ho : numO k n t.data.toList with
  | none => exact creads_none k n t h0 h1 _ ho rfl w hE
  | some m =>
    by_cases hm : m = 0
    · subst hm; exact creads_zero k n t h0 h1 _ ho rfl w hE
    · exact creads_some k n t h0 h1 _ ho m rfl hm w hE
end Go.Proofs.YtoekdeoekcmpgaaGreatDoor
