/- The document's Binary at texts and logic; its refusals. -/
import Derived.Test.YtoekdeoekcmpgaaGreatDoorCD
namespace Go.Proofs.YtoekdeoekcmpgaaGreatDoor
open Go.ChangeShapes Go.WideShapes Go.ChangeAt Go.RowKit
set_option linter.unusedVariables false

theorem tri_and (o : Option Int) : truthI o = 1 ∨ truthI o = 0 ∨ truthI o = -1 := by
  cases o with
  | none => exact .inr (.inr rfl)
  | some m => by_cases h : m = 0 <;> simp [truthI, h]

set_option maxHeartbeats 1000000 in
set_option maxRecDepth 10000 in
theorem rbin_and (c k n : Int) (t : ByteArray) (k2 n2 : Int) (t2 : ByteArray) (hm1 : mayB k n t = true) (hm2 : mayB k2 n2 t2 = true) (x y : Int) (hx : truthI (numO k n t.data.toList) = x) (hy : truthI (numO k2 n2 t2.data.toList) = y) (w : World) :
    Calls Tryz.prog 19 #[.int .i64 21, val k n t, val k2 n2 t2, .int .i64 c] w fun e w' => e = .returned (.tuple #[setB false (x == 1) (decide (0 ≤ x)) (y == 1) (decide (0 ≤ y)), .int .i64 0]) ∧ Below w.heap.size w w' := by
  have HM1 : Hid (∀ V, Calls Tryz.prog 36 #[.agg #[.int .i64 k, .int .i64 n, .string t]] V fun e w' => e = .returned (.bool true) ∧ Below V.heap.size V w') := fun V => by have := rmay_walk k n t V; rw [hm1] at this; exact this
  have HM2 : Hid (∀ V, Calls Tryz.prog 36 #[.agg #[.int .i64 k2, .int .i64 n2, .string t2]] V fun e w' => e = .returned (.bool true) ∧ Below V.heap.size V w') := fun V => by have := rmay_walk k2 n2 t2 V; rw [hm2] at this; exact this
  have HW : Hid (∀ V, _ → _) := pr2_later w k n t k2 n2 t2
  have HA : Hid (∀ V, Calls Tryz.prog 10 #[.agg #[.int .i64 k, .int .i64 n, .string t]] V fun e w' => e = .returned (.int .i64 x) ∧ Below V.heap.size V w') := fun V => by have := rtruth_walk k n t V; rw [hx] at this; exact this
  have HB : Hid (∀ V, Calls Tryz.prog 10 #[.agg #[.int .i64 k2, .int .i64 n2, .string t2]] V fun e w' => e = .returned (.int .i64 y) ∧ Below V.heap.size V w') := fun V => by have := rtruth_walk k2 n2 t2 V; rw [hy] at this; exact this
  obtain ⟨c1, c2, c3, hc⟩ := setB_val false (x == 1) (decide (0 ≤ x)) (y == 1) (decide (0 ≤ y))
  have HL : Hid (∀ V, Calls Tryz.prog 48 #[.int .i64 21, .int .i64 x, .int .i64 y] V fun e w' => e = .returned (val c1 c2 c3) ∧ Below V.heap.size V w') := fun V => by rw [← hc]; exact rlogic_and x y (by rw [← hx]; exact tri_and _) (by rw [← hy]; exact tri_and _) V
  rw [hc]
  clear hm1 hm2 hc hx hy
  go_enter Tryz.func19, Tryz.ntmps19
  go_wp2_with (first
    | (go_at_call 36; with_reducible refine Calls.mono (HM1.out _) ?_; rintro e w1 ⟨rfl, hb1⟩; have HX1 := hide hb1; obtain ⟨⟨p0, p1, p2⟩, ⟨q0, q1, q2⟩, ⟨d0, d1, d2, f0, f1, f2⟩, HK1, HB1⟩ := HW.out _ HX1.out; clear hb1)
    | (go_at_call 36; with_reducible refine Calls.mono (HM2.out _) ?_; rintro e w2 ⟨rfl, hb2⟩; have HX2 := hide (below_trans HX1.out hb2); obtain ⟨⟨p0, p1, p2⟩, ⟨q0, q1, q2⟩, ⟨d0, d1, d2, f0, f1, f2⟩, HK2, HB2⟩ := HW.out _ HX2.out; clear hb2)
    | (go_at_call 10; with_reducible refine Calls.mono (HA.out _) ?_; rintro e w3 ⟨rfl, hb3⟩; have HX3 := hide (below_trans HX2.out hb3); obtain ⟨⟨p0, p1, p2⟩, ⟨q0, q1, q2⟩, ⟨d0, d1, d2, f0, f1, f2⟩, HK3, HB3⟩ := HW.out _ HX3.out; clear hb3)
    | (go_at_call 10; with_reducible refine Calls.mono (HB.out _) ?_; rintro e w4 ⟨rfl, hb4⟩; have HX4 := hide (below_trans HX3.out hb4); obtain ⟨⟨p0, p1, p2⟩, ⟨q0, q1, q2⟩, ⟨d0, d1, d2, f0, f1, f2⟩, HK4, HB4⟩ := HW.out _ HX4.out; clear hb4)
    | (go_at_call 48; with_reducible refine Calls.mono (HL.out _) ?_; rintro e w5 ⟨rfl, hb5⟩; have HX5 := hide (below_trans HX4.out hb5); obtain ⟨⟨p0, p1, p2⟩, ⟨q0, q1, q2⟩, ⟨d0, d1, d2, f0, f1, f2⟩, HK5, HB5⟩ := HW.out _ HX5.out; clear hb5))
  exact ret_val2g Tryz.results19 rfl rfl HK5.out ⟨rfl, below_set3g HB5.out (Nat.le_succ_of_le (Nat.le_succ _)) _ _ _⟩

theorem tri_or (o : Option Int) : truthI o = 1 ∨ truthI o = 0 ∨ truthI o = -1 := by
  cases o with
  | none => exact .inr (.inr rfl)
  | some m => by_cases h : m = 0 <;> simp [truthI, h]

set_option maxHeartbeats 1000000 in
set_option maxRecDepth 10000 in
theorem rbin_or (c k n : Int) (t : ByteArray) (k2 n2 : Int) (t2 : ByteArray) (hm1 : mayB k n t = true) (hm2 : mayB k2 n2 t2 = true) (x y : Int) (hx : truthI (numO k n t.data.toList) = x) (hy : truthI (numO k2 n2 t2.data.toList) = y) (w : World) :
    Calls Tryz.prog 19 #[.int .i64 22, val k n t, val k2 n2 t2, .int .i64 c] w fun e w' => e = .returned (.tuple #[setB true (x == 1) (decide (0 ≤ x)) (y == 1) (decide (0 ≤ y)), .int .i64 0]) ∧ Below w.heap.size w w' := by
  have HM1 : Hid (∀ V, Calls Tryz.prog 36 #[.agg #[.int .i64 k, .int .i64 n, .string t]] V fun e w' => e = .returned (.bool true) ∧ Below V.heap.size V w') := fun V => by have := rmay_walk k n t V; rw [hm1] at this; exact this
  have HM2 : Hid (∀ V, Calls Tryz.prog 36 #[.agg #[.int .i64 k2, .int .i64 n2, .string t2]] V fun e w' => e = .returned (.bool true) ∧ Below V.heap.size V w') := fun V => by have := rmay_walk k2 n2 t2 V; rw [hm2] at this; exact this
  have HW : Hid (∀ V, _ → _) := pr2_later w k n t k2 n2 t2
  have HA : Hid (∀ V, Calls Tryz.prog 10 #[.agg #[.int .i64 k, .int .i64 n, .string t]] V fun e w' => e = .returned (.int .i64 x) ∧ Below V.heap.size V w') := fun V => by have := rtruth_walk k n t V; rw [hx] at this; exact this
  have HB : Hid (∀ V, Calls Tryz.prog 10 #[.agg #[.int .i64 k2, .int .i64 n2, .string t2]] V fun e w' => e = .returned (.int .i64 y) ∧ Below V.heap.size V w') := fun V => by have := rtruth_walk k2 n2 t2 V; rw [hy] at this; exact this
  obtain ⟨c1, c2, c3, hc⟩ := setB_val true (x == 1) (decide (0 ≤ x)) (y == 1) (decide (0 ≤ y))
  have HL : Hid (∀ V, Calls Tryz.prog 48 #[.int .i64 22, .int .i64 x, .int .i64 y] V fun e w' => e = .returned (val c1 c2 c3) ∧ Below V.heap.size V w') := fun V => by rw [← hc]; exact rlogic_or x y (by rw [← hx]; exact tri_or _) (by rw [← hy]; exact tri_or _) V
  rw [hc]
  clear hm1 hm2 hc hx hy
  go_enter Tryz.func19, Tryz.ntmps19
  go_wp2_with (first
    | (go_at_call 36; with_reducible refine Calls.mono (HM1.out _) ?_; rintro e w1 ⟨rfl, hb1⟩; have HX1 := hide hb1; obtain ⟨⟨p0, p1, p2⟩, ⟨q0, q1, q2⟩, ⟨d0, d1, d2, f0, f1, f2⟩, HK1, HB1⟩ := HW.out _ HX1.out; clear hb1)
    | (go_at_call 36; with_reducible refine Calls.mono (HM2.out _) ?_; rintro e w2 ⟨rfl, hb2⟩; have HX2 := hide (below_trans HX1.out hb2); obtain ⟨⟨p0, p1, p2⟩, ⟨q0, q1, q2⟩, ⟨d0, d1, d2, f0, f1, f2⟩, HK2, HB2⟩ := HW.out _ HX2.out; clear hb2)
    | (go_at_call 10; with_reducible refine Calls.mono (HA.out _) ?_; rintro e w3 ⟨rfl, hb3⟩; have HX3 := hide (below_trans HX2.out hb3); obtain ⟨⟨p0, p1, p2⟩, ⟨q0, q1, q2⟩, ⟨d0, d1, d2, f0, f1, f2⟩, HK3, HB3⟩ := HW.out _ HX3.out; clear hb3)
    | (go_at_call 10; with_reducible refine Calls.mono (HB.out _) ?_; rintro e w4 ⟨rfl, hb4⟩; have HX4 := hide (below_trans HX3.out hb4); obtain ⟨⟨p0, p1, p2⟩, ⟨q0, q1, q2⟩, ⟨d0, d1, d2, f0, f1, f2⟩, HK4, HB4⟩ := HW.out _ HX4.out; clear hb4)
    | (go_at_call 48; with_reducible refine Calls.mono (HL.out _) ?_; rintro e w5 ⟨rfl, hb5⟩; have HX5 := hide (below_trans HX4.out hb5); obtain ⟨⟨p0, p1, p2⟩, ⟨q0, q1, q2⟩, ⟨d0, d1, d2, f0, f1, f2⟩, HK5, HB5⟩ := HW.out _ HX5.out; clear hb5))
  exact ret_val2g Tryz.results19 rfl rfl HK5.out ⟨rfl, below_set3g HB5.out (Nat.le_succ_of_le (Nat.le_succ _)) _ _ _⟩

set_option maxHeartbeats 1000000 in
set_option maxRecDepth 10000 in
theorem rbinary_bad1 (op c : Int) (g0 : ¬ op < 7) (g1 : ¬ 22 < op) (k n : Int) (t : ByteArray) (k2 n2 : Int) (t2 : ByteArray) (hm1 : mayB k n t = false) (w : World) : Calls Tryz.prog 19 #[.int .i64 op, val k n t, val k2 n2 t2, .int .i64 c] w fun e w' => e = .returned (.tuple #[val 0 0 ⟨#[]⟩, .int .i64 2]) ∧ Below w.heap.size w w' := by
  have HM1 : Hid (∀ V, Calls Tryz.prog 36 #[.agg #[.int .i64 k, .int .i64 n, .string t]] V fun e w' => e = .returned (.bool false) ∧ Below V.heap.size V w') := fun V => by have := rmay_walk k n t V; rw [hm1] at this; exact this
  have HW : Hid (∀ V, _ → _) := pr2_later w k n t k2 n2 t2
  clear hm1
  go_enter Tryz.func19, Tryz.ntmps19
  go_wp2_with (first
    | (go_at_call 36; with_reducible refine Calls.mono (HM1.out _) ?_; rintro e w1 ⟨rfl, hb1⟩; have HX1 := hide hb1; obtain ⟨⟨p0, p1, p2⟩, ⟨q0, q1, q2⟩, ⟨d0, d1, d2, f0, f1, f2⟩, HK1, HB1⟩ := HW.out _ HX1.out; clear hb1)
    | (go_at_call 37; with_reducible refine Calls.mono (rnull_walk _) ?_; rintro e w9 ⟨rfl, hb9⟩; have HX9 := hide (below_trans HX1.out hb9); obtain ⟨⟨p0, p1, p2⟩, ⟨q0, q1, q2⟩, ⟨d0, d1, d2, f0, f1, f2⟩, HK9, HB9⟩ := HW.out _ HX9.out; clear hb9))
  exact ret_val2g Tryz.results19 rfl rfl HK9.out ⟨rfl, below_set3g HB9.out (Nat.le_succ_of_le (Nat.le_succ _)) _ _ _⟩

set_option maxHeartbeats 1000000 in
set_option maxRecDepth 10000 in
theorem rbinary_bad2 (op c : Int) (g0 : ¬ op < 7) (g1 : ¬ 22 < op) (k n : Int) (t : ByteArray) (k2 n2 : Int) (t2 : ByteArray) (hm1 : mayB k n t = true) (hm2 : mayB k2 n2 t2 = false) (w : World) : Calls Tryz.prog 19 #[.int .i64 op, val k n t, val k2 n2 t2, .int .i64 c] w fun e w' => e = .returned (.tuple #[val 0 0 ⟨#[]⟩, .int .i64 2]) ∧ Below w.heap.size w w' := by
  have HM1 : Hid (∀ V, Calls Tryz.prog 36 #[.agg #[.int .i64 k, .int .i64 n, .string t]] V fun e w' => e = .returned (.bool true) ∧ Below V.heap.size V w') := fun V => by have := rmay_walk k n t V; rw [hm1] at this; exact this
  have HM2 : Hid (∀ V, Calls Tryz.prog 36 #[.agg #[.int .i64 k2, .int .i64 n2, .string t2]] V fun e w' => e = .returned (.bool false) ∧ Below V.heap.size V w') := fun V => by have := rmay_walk k2 n2 t2 V; rw [hm2] at this; exact this
  have HW : Hid (∀ V, _ → _) := pr2_later w k n t k2 n2 t2
  clear hm1 hm2
  go_enter Tryz.func19, Tryz.ntmps19
  go_wp2_with (first
    | (go_at_call 36; with_reducible refine Calls.mono (HM1.out _) ?_; rintro e w1 ⟨rfl, hb1⟩; have HX1 := hide hb1; obtain ⟨⟨p0, p1, p2⟩, ⟨q0, q1, q2⟩, ⟨d0, d1, d2, f0, f1, f2⟩, HK1, HB1⟩ := HW.out _ HX1.out; clear hb1)
    | (go_at_call 36; with_reducible refine Calls.mono (HM2.out _) ?_; rintro e w2 ⟨rfl, hb2⟩; have HX2 := hide (below_trans HX1.out hb2); obtain ⟨⟨p0, p1, p2⟩, ⟨q0, q1, q2⟩, ⟨d0, d1, d2, f0, f1, f2⟩, HK2, HB2⟩ := HW.out _ HX2.out; clear hb2)
    | (go_at_call 37; with_reducible refine Calls.mono (rnull_walk _) ?_; rintro e w9 ⟨rfl, hb9⟩; have HX9 := hide (below_trans HX2.out hb9); obtain ⟨⟨p0, p1, p2⟩, ⟨q0, q1, q2⟩, ⟨d0, d1, d2, f0, f1, f2⟩, HK9, HB9⟩ := HW.out _ HX9.out; clear hb9))
  exact ret_val2g Tryz.results19 rfl rfl HK9.out ⟨rfl, below_set3g HB9.out (Nat.le_succ_of_le (Nat.le_succ _)) _ _ _⟩
end Go.Proofs.YtoekdeoekcmpgaaGreatDoor
