/- The document's Binary at comparisons. -/
import Derived.Test.YtoekdeoekcmpgaaGreatDoorCD
import Derived.Test.YtoekdeoekcmpgaaGreatDoorRD
namespace Go.Proofs.YtoekdeoekcmpgaaGreatDoor
open Go.ChangeShapes Go.WideShapes Go.ChangeAt Go.RowKit
set_option linter.unusedVariables false

set_option maxHeartbeats 1000000 in
set_option maxRecDepth 10000 in
theorem rbin_eq (c k n : Int) (t : ByteArray) (k2 n2 : Int) (t2 : ByteArray) (hm1 : mayB k n t = true) (hm2 : mayB k2 n2 t2 = true) (hk : (k == 0) = false) (hk2 : (k2 == 0) = false) (w : World) :
    Calls Tryz.prog 19 #[.int .i64 13, val k n t, val k2 n2 t2, .int .i64 c] w fun e w' => e = .returned (.tuple #[truthV (decide (cmpA k n t k2 n2 t2 c = 0)), .int .i64 0]) ∧ Below w.heap.size w w' := by
  have HM1 : Hid (∀ V, Calls Tryz.prog 36 #[.agg #[.int .i64 k, .int .i64 n, .string t]] V fun e w' => e = .returned (.bool true) ∧ Below V.heap.size V w') := fun V => by have := rmay_walk k n t V; rw [hm1] at this; exact this
  have HM2 : Hid (∀ V, Calls Tryz.prog 36 #[.agg #[.int .i64 k2, .int .i64 n2, .string t2]] V fun e w' => e = .returned (.bool true) ∧ Below V.heap.size V w') := fun V => by have := rmay_walk k2 n2 t2 V; rw [hm2] at this; exact this
  have HW : Hid (∀ V, _ → _) := pr2_later w k n t k2 n2 t2
  have HC : Hid (∀ V, Calls Tryz.prog 51 #[.agg #[.int .i64 k, .int .i64 n, .string t], .agg #[.int .i64 k2, .int .i64 n2, .string t2], .int .i64 c] V fun e w' => e = .returned (.int .i64 (cmpA k n t k2 n2 t2 c)) ∧ Below V.heap.size V w') := fun V => rcmp_walk k n t k2 n2 t2 c V
  generalize cmpA k n t k2 n2 t2 c = m at HC ⊢
  have HQ : Hid (∀ V, Calls Tryz.prog 50 #[.int .i64 13, .int .i64 m] V fun e w' => e = .returned (.bool (decide (m = 0))) ∧ V = w') := fun V => rcompare_eq m V
  generalize decide (m = 0) = b at HQ ⊢
  obtain ⟨c2, hc⟩ : ∃ m : Int, truthV b = val 1 m ⟨#[]⟩ := ⟨_, rfl⟩
  have HT : Hid (∀ V, Calls Tryz.prog 49 #[.bool b] V fun e w' => e = .returned (val 1 c2 ⟨#[]⟩) ∧ Below V.heap.size V w') := fun V => by rw [← hc]; exact rbool_walk b V
  rw [hc]
  clear hm1 hm2 hc
  go_enter Tryz.func19, Tryz.ntmps19
  go_wp2_with (first
    | (go_at_call 36; with_reducible refine Calls.mono (HM1.out _) ?_; rintro e w1 ⟨rfl, hb1⟩; have HX1 := hide hb1; obtain ⟨⟨p0, p1, p2⟩, ⟨q0, q1, q2⟩, ⟨d0, d1, d2, f0, f1, f2⟩, HK1, HB1⟩ := HW.out _ HX1.out; clear hb1)
    | (go_at_call 36; with_reducible refine Calls.mono (HM2.out _) ?_; rintro e w2 ⟨rfl, hb2⟩; have HX2 := hide (below_trans HX1.out hb2); obtain ⟨⟨p0, p1, p2⟩, ⟨q0, q1, q2⟩, ⟨d0, d1, d2, f0, f1, f2⟩, HK2, HB2⟩ := HW.out _ HX2.out; clear hb2)
    | (go_at_call 51; with_reducible refine Calls.mono (HC.out _) ?_; rintro e w3 ⟨rfl, hb3⟩; have HX3 := hide (below_trans HX2.out hb3); obtain ⟨⟨p0, p1, p2⟩, ⟨q0, q1, q2⟩, ⟨d0, d1, d2, f0, f1, f2⟩, HK3, HB3⟩ := HW.out _ HX3.out; clear hb3)
    | (go_at_call 50; with_reducible refine Calls.mono (HQ.out _) ?_; rintro e w4 ⟨rfl, rfl⟩)
    | (go_at_call 49; with_reducible refine Calls.mono (HT.out _) ?_; rintro e w5 ⟨rfl, hb5⟩; have HX5 := hide (below_trans HX3.out hb5); obtain ⟨⟨p0, p1, p2⟩, ⟨q0, q1, q2⟩, ⟨d0, d1, d2, f0, f1, f2⟩, HK5, HB5⟩ := HW.out _ HX5.out; clear hb5))
  exact ret_val2g Tryz.results19 rfl rfl HK5.out ⟨rfl, below_set3g HB5.out (Nat.le_succ_of_le (Nat.le_succ _)) _ _ _⟩

set_option maxHeartbeats 1000000 in
set_option maxRecDepth 10000 in
theorem rbin_ne (c k n : Int) (t : ByteArray) (k2 n2 : Int) (t2 : ByteArray) (hm1 : mayB k n t = true) (hm2 : mayB k2 n2 t2 = true) (hk : (k == 0) = false) (hk2 : (k2 == 0) = false) (w : World) :
    Calls Tryz.prog 19 #[.int .i64 14, val k n t, val k2 n2 t2, .int .i64 c] w fun e w' => e = .returned (.tuple #[truthV (decide (cmpA k n t k2 n2 t2 c ≠ 0)), .int .i64 0]) ∧ Below w.heap.size w w' := by
  have HM1 : Hid (∀ V, Calls Tryz.prog 36 #[.agg #[.int .i64 k, .int .i64 n, .string t]] V fun e w' => e = .returned (.bool true) ∧ Below V.heap.size V w') := fun V => by have := rmay_walk k n t V; rw [hm1] at this; exact this
  have HM2 : Hid (∀ V, Calls Tryz.prog 36 #[.agg #[.int .i64 k2, .int .i64 n2, .string t2]] V fun e w' => e = .returned (.bool true) ∧ Below V.heap.size V w') := fun V => by have := rmay_walk k2 n2 t2 V; rw [hm2] at this; exact this
  have HW : Hid (∀ V, _ → _) := pr2_later w k n t k2 n2 t2
  have HC : Hid (∀ V, Calls Tryz.prog 51 #[.agg #[.int .i64 k, .int .i64 n, .string t], .agg #[.int .i64 k2, .int .i64 n2, .string t2], .int .i64 c] V fun e w' => e = .returned (.int .i64 (cmpA k n t k2 n2 t2 c)) ∧ Below V.heap.size V w') := fun V => rcmp_walk k n t k2 n2 t2 c V
  generalize cmpA k n t k2 n2 t2 c = m at HC ⊢
  have HQ : Hid (∀ V, Calls Tryz.prog 50 #[.int .i64 14, .int .i64 m] V fun e w' => e = .returned (.bool (decide (m ≠ 0))) ∧ V = w') := fun V => rcompare_ne m V
  generalize decide (m ≠ 0) = b at HQ ⊢
  obtain ⟨c2, hc⟩ : ∃ m : Int, truthV b = val 1 m ⟨#[]⟩ := ⟨_, rfl⟩
  have HT : Hid (∀ V, Calls Tryz.prog 49 #[.bool b] V fun e w' => e = .returned (val 1 c2 ⟨#[]⟩) ∧ Below V.heap.size V w') := fun V => by rw [← hc]; exact rbool_walk b V
  rw [hc]
  clear hm1 hm2 hc
  go_enter Tryz.func19, Tryz.ntmps19
  go_wp2_with (first
    | (go_at_call 36; with_reducible refine Calls.mono (HM1.out _) ?_; rintro e w1 ⟨rfl, hb1⟩; have HX1 := hide hb1; obtain ⟨⟨p0, p1, p2⟩, ⟨q0, q1, q2⟩, ⟨d0, d1, d2, f0, f1, f2⟩, HK1, HB1⟩ := HW.out _ HX1.out; clear hb1)
    | (go_at_call 36; with_reducible refine Calls.mono (HM2.out _) ?_; rintro e w2 ⟨rfl, hb2⟩; have HX2 := hide (below_trans HX1.out hb2); obtain ⟨⟨p0, p1, p2⟩, ⟨q0, q1, q2⟩, ⟨d0, d1, d2, f0, f1, f2⟩, HK2, HB2⟩ := HW.out _ HX2.out; clear hb2)
    | (go_at_call 51; with_reducible refine Calls.mono (HC.out _) ?_; rintro e w3 ⟨rfl, hb3⟩; have HX3 := hide (below_trans HX2.out hb3); obtain ⟨⟨p0, p1, p2⟩, ⟨q0, q1, q2⟩, ⟨d0, d1, d2, f0, f1, f2⟩, HK3, HB3⟩ := HW.out _ HX3.out; clear hb3)
    | (go_at_call 50; with_reducible refine Calls.mono (HQ.out _) ?_; rintro e w4 ⟨rfl, rfl⟩)
    | (go_at_call 49; with_reducible refine Calls.mono (HT.out _) ?_; rintro e w5 ⟨rfl, hb5⟩; have HX5 := hide (below_trans HX3.out hb5); obtain ⟨⟨p0, p1, p2⟩, ⟨q0, q1, q2⟩, ⟨d0, d1, d2, f0, f1, f2⟩, HK5, HB5⟩ := HW.out _ HX5.out; clear hb5))
  exact ret_val2g Tryz.results19 rfl rfl HK5.out ⟨rfl, below_set3g HB5.out (Nat.le_succ_of_le (Nat.le_succ _)) _ _ _⟩

set_option maxHeartbeats 1000000 in
set_option maxRecDepth 10000 in
theorem rbin_lt (c k n : Int) (t : ByteArray) (k2 n2 : Int) (t2 : ByteArray) (hm1 : mayB k n t = true) (hm2 : mayB k2 n2 t2 = true) (hk : (k == 0) = false) (hk2 : (k2 == 0) = false) (w : World) :
    Calls Tryz.prog 19 #[.int .i64 15, val k n t, val k2 n2 t2, .int .i64 c] w fun e w' => e = .returned (.tuple #[truthV (decide (cmpA k n t k2 n2 t2 c < 0)), .int .i64 0]) ∧ Below w.heap.size w w' := by
  have HM1 : Hid (∀ V, Calls Tryz.prog 36 #[.agg #[.int .i64 k, .int .i64 n, .string t]] V fun e w' => e = .returned (.bool true) ∧ Below V.heap.size V w') := fun V => by have := rmay_walk k n t V; rw [hm1] at this; exact this
  have HM2 : Hid (∀ V, Calls Tryz.prog 36 #[.agg #[.int .i64 k2, .int .i64 n2, .string t2]] V fun e w' => e = .returned (.bool true) ∧ Below V.heap.size V w') := fun V => by have := rmay_walk k2 n2 t2 V; rw [hm2] at this; exact this
  have HW : Hid (∀ V, _ → _) := pr2_later w k n t k2 n2 t2
  have HC : Hid (∀ V, Calls Tryz.prog 51 #[.agg #[.int .i64 k, .int .i64 n, .string t], .agg #[.int .i64 k2, .int .i64 n2, .string t2], .int .i64 c] V fun e w' => e = .returned (.int .i64 (cmpA k n t k2 n2 t2 c)) ∧ Below V.heap.size V w') := fun V => rcmp_walk k n t k2 n2 t2 c V
  generalize cmpA k n t k2 n2 t2 c = m at HC ⊢
  have HQ : Hid (∀ V, Calls Tryz.prog 50 #[.int .i64 15, .int .i64 m] V fun e w' => e = .returned (.bool (decide (m < 0))) ∧ V = w') := fun V => rcompare_lt m V
  generalize decide (m < 0) = b at HQ ⊢
  obtain ⟨c2, hc⟩ : ∃ m : Int, truthV b = val 1 m ⟨#[]⟩ := ⟨_, rfl⟩
  have HT : Hid (∀ V, Calls Tryz.prog 49 #[.bool b] V fun e w' => e = .returned (val 1 c2 ⟨#[]⟩) ∧ Below V.heap.size V w') := fun V => by rw [← hc]; exact rbool_walk b V
  rw [hc]
  clear hm1 hm2 hc
  go_enter Tryz.func19, Tryz.ntmps19
  go_wp2_with (first
    | (go_at_call 36; with_reducible refine Calls.mono (HM1.out _) ?_; rintro e w1 ⟨rfl, hb1⟩; have HX1 := hide hb1; obtain ⟨⟨p0, p1, p2⟩, ⟨q0, q1, q2⟩, ⟨d0, d1, d2, f0, f1, f2⟩, HK1, HB1⟩ := HW.out _ HX1.out; clear hb1)
    | (go_at_call 36; with_reducible refine Calls.mono (HM2.out _) ?_; rintro e w2 ⟨rfl, hb2⟩; have HX2 := hide (below_trans HX1.out hb2); obtain ⟨⟨p0, p1, p2⟩, ⟨q0, q1, q2⟩, ⟨d0, d1, d2, f0, f1, f2⟩, HK2, HB2⟩ := HW.out _ HX2.out; clear hb2)
    | (go_at_call 51; with_reducible refine Calls.mono (HC.out _) ?_; rintro e w3 ⟨rfl, hb3⟩; have HX3 := hide (below_trans HX2.out hb3); obtain ⟨⟨p0, p1, p2⟩, ⟨q0, q1, q2⟩, ⟨d0, d1, d2, f0, f1, f2⟩, HK3, HB3⟩ := HW.out _ HX3.out; clear hb3)
    | (go_at_call 50; with_reducible refine Calls.mono (HQ.out _) ?_; rintro e w4 ⟨rfl, rfl⟩)
    | (go_at_call 49; with_reducible refine Calls.mono (HT.out _) ?_; rintro e w5 ⟨rfl, hb5⟩; have HX5 := hide (below_trans HX3.out hb5); obtain ⟨⟨p0, p1, p2⟩, ⟨q0, q1, q2⟩, ⟨d0, d1, d2, f0, f1, f2⟩, HK5, HB5⟩ := HW.out _ HX5.out; clear hb5))
  exact ret_val2g Tryz.results19 rfl rfl HK5.out ⟨rfl, below_set3g HB5.out (Nat.le_succ_of_le (Nat.le_succ _)) _ _ _⟩

set_option maxHeartbeats 1000000 in
set_option maxRecDepth 10000 in
theorem rbin_le (c k n : Int) (t : ByteArray) (k2 n2 : Int) (t2 : ByteArray) (hm1 : mayB k n t = true) (hm2 : mayB k2 n2 t2 = true) (hk : (k == 0) = false) (hk2 : (k2 == 0) = false) (w : World) :
    Calls Tryz.prog 19 #[.int .i64 16, val k n t, val k2 n2 t2, .int .i64 c] w fun e w' => e = .returned (.tuple #[truthV (decide (cmpA k n t k2 n2 t2 c ≤ 0)), .int .i64 0]) ∧ Below w.heap.size w w' := by
  have HM1 : Hid (∀ V, Calls Tryz.prog 36 #[.agg #[.int .i64 k, .int .i64 n, .string t]] V fun e w' => e = .returned (.bool true) ∧ Below V.heap.size V w') := fun V => by have := rmay_walk k n t V; rw [hm1] at this; exact this
  have HM2 : Hid (∀ V, Calls Tryz.prog 36 #[.agg #[.int .i64 k2, .int .i64 n2, .string t2]] V fun e w' => e = .returned (.bool true) ∧ Below V.heap.size V w') := fun V => by have := rmay_walk k2 n2 t2 V; rw [hm2] at this; exact this
  have HW : Hid (∀ V, _ → _) := pr2_later w k n t k2 n2 t2
  have HC : Hid (∀ V, Calls Tryz.prog 51 #[.agg #[.int .i64 k, .int .i64 n, .string t], .agg #[.int .i64 k2, .int .i64 n2, .string t2], .int .i64 c] V fun e w' => e = .returned (.int .i64 (cmpA k n t k2 n2 t2 c)) ∧ Below V.heap.size V w') := fun V => rcmp_walk k n t k2 n2 t2 c V
  generalize cmpA k n t k2 n2 t2 c = m at HC ⊢
  have HQ : Hid (∀ V, Calls Tryz.prog 50 #[.int .i64 16, .int .i64 m] V fun e w' => e = .returned (.bool (decide (m ≤ 0))) ∧ V = w') := fun V => rcompare_le m V
  generalize decide (m ≤ 0) = b at HQ ⊢
  obtain ⟨c2, hc⟩ : ∃ m : Int, truthV b = val 1 m ⟨#[]⟩ := ⟨_, rfl⟩
  have HT : Hid (∀ V, Calls Tryz.prog 49 #[.bool b] V fun e w' => e = .returned (val 1 c2 ⟨#[]⟩) ∧ Below V.heap.size V w') := fun V => by rw [← hc]; exact rbool_walk b V
  rw [hc]
  clear hm1 hm2 hc
  go_enter Tryz.func19, Tryz.ntmps19
  go_wp2_with (first
    | (go_at_call 36; with_reducible refine Calls.mono (HM1.out _) ?_; rintro e w1 ⟨rfl, hb1⟩; have HX1 := hide hb1; obtain ⟨⟨p0, p1, p2⟩, ⟨q0, q1, q2⟩, ⟨d0, d1, d2, f0, f1, f2⟩, HK1, HB1⟩ := HW.out _ HX1.out; clear hb1)
    | (go_at_call 36; with_reducible refine Calls.mono (HM2.out _) ?_; rintro e w2 ⟨rfl, hb2⟩; have HX2 := hide (below_trans HX1.out hb2); obtain ⟨⟨p0, p1, p2⟩, ⟨q0, q1, q2⟩, ⟨d0, d1, d2, f0, f1, f2⟩, HK2, HB2⟩ := HW.out _ HX2.out; clear hb2)
    | (go_at_call 51; with_reducible refine Calls.mono (HC.out _) ?_; rintro e w3 ⟨rfl, hb3⟩; have HX3 := hide (below_trans HX2.out hb3); obtain ⟨⟨p0, p1, p2⟩, ⟨q0, q1, q2⟩, ⟨d0, d1, d2, f0, f1, f2⟩, HK3, HB3⟩ := HW.out _ HX3.out; clear hb3)
    | (go_at_call 50; with_reducible refine Calls.mono (HQ.out _) ?_; rintro e w4 ⟨rfl, rfl⟩)
    | (go_at_call 49; with_reducible refine Calls.mono (HT.out _) ?_; rintro e w5 ⟨rfl, hb5⟩; have HX5 := hide (below_trans HX3.out hb5); obtain ⟨⟨p0, p1, p2⟩, ⟨q0, q1, q2⟩, ⟨d0, d1, d2, f0, f1, f2⟩, HK5, HB5⟩ := HW.out _ HX5.out; clear hb5))
  exact ret_val2g Tryz.results19 rfl rfl HK5.out ⟨rfl, below_set3g HB5.out (Nat.le_succ_of_le (Nat.le_succ _)) _ _ _⟩

set_option maxHeartbeats 1000000 in
set_option maxRecDepth 10000 in
theorem rbin_gt (c k n : Int) (t : ByteArray) (k2 n2 : Int) (t2 : ByteArray) (hm1 : mayB k n t = true) (hm2 : mayB k2 n2 t2 = true) (hk : (k == 0) = false) (hk2 : (k2 == 0) = false) (w : World) :
    Calls Tryz.prog 19 #[.int .i64 17, val k n t, val k2 n2 t2, .int .i64 c] w fun e w' => e = .returned (.tuple #[truthV (decide (0 < cmpA k n t k2 n2 t2 c)), .int .i64 0]) ∧ Below w.heap.size w w' := by
  have HM1 : Hid (∀ V, Calls Tryz.prog 36 #[.agg #[.int .i64 k, .int .i64 n, .string t]] V fun e w' => e = .returned (.bool true) ∧ Below V.heap.size V w') := fun V => by have := rmay_walk k n t V; rw [hm1] at this; exact this
  have HM2 : Hid (∀ V, Calls Tryz.prog 36 #[.agg #[.int .i64 k2, .int .i64 n2, .string t2]] V fun e w' => e = .returned (.bool true) ∧ Below V.heap.size V w') := fun V => by have := rmay_walk k2 n2 t2 V; rw [hm2] at this; exact this
  have HW : Hid (∀ V, _ → _) := pr2_later w k n t k2 n2 t2
  have HC : Hid (∀ V, Calls Tryz.prog 51 #[.agg #[.int .i64 k, .int .i64 n, .string t], .agg #[.int .i64 k2, .int .i64 n2, .string t2], .int .i64 c] V fun e w' => e = .returned (.int .i64 (cmpA k n t k2 n2 t2 c)) ∧ Below V.heap.size V w') := fun V => rcmp_walk k n t k2 n2 t2 c V
  generalize cmpA k n t k2 n2 t2 c = m at HC ⊢
  have HQ : Hid (∀ V, Calls Tryz.prog 50 #[.int .i64 17, .int .i64 m] V fun e w' => e = .returned (.bool (decide (0 < m))) ∧ V = w') := fun V => rcompare_gt m V
  generalize decide (0 < m) = b at HQ ⊢
  obtain ⟨c2, hc⟩ : ∃ m : Int, truthV b = val 1 m ⟨#[]⟩ := ⟨_, rfl⟩
  have HT : Hid (∀ V, Calls Tryz.prog 49 #[.bool b] V fun e w' => e = .returned (val 1 c2 ⟨#[]⟩) ∧ Below V.heap.size V w') := fun V => by rw [← hc]; exact rbool_walk b V
  rw [hc]
  clear hm1 hm2 hc
  go_enter Tryz.func19, Tryz.ntmps19
  go_wp2_with (first
    | (go_at_call 36; with_reducible refine Calls.mono (HM1.out _) ?_; rintro e w1 ⟨rfl, hb1⟩; have HX1 := hide hb1; obtain ⟨⟨p0, p1, p2⟩, ⟨q0, q1, q2⟩, ⟨d0, d1, d2, f0, f1, f2⟩, HK1, HB1⟩ := HW.out _ HX1.out; clear hb1)
    | (go_at_call 36; with_reducible refine Calls.mono (HM2.out _) ?_; rintro e w2 ⟨rfl, hb2⟩; have HX2 := hide (below_trans HX1.out hb2); obtain ⟨⟨p0, p1, p2⟩, ⟨q0, q1, q2⟩, ⟨d0, d1, d2, f0, f1, f2⟩, HK2, HB2⟩ := HW.out _ HX2.out; clear hb2)
    | (go_at_call 51; with_reducible refine Calls.mono (HC.out _) ?_; rintro e w3 ⟨rfl, hb3⟩; have HX3 := hide (below_trans HX2.out hb3); obtain ⟨⟨p0, p1, p2⟩, ⟨q0, q1, q2⟩, ⟨d0, d1, d2, f0, f1, f2⟩, HK3, HB3⟩ := HW.out _ HX3.out; clear hb3)
    | (go_at_call 50; with_reducible refine Calls.mono (HQ.out _) ?_; rintro e w4 ⟨rfl, rfl⟩)
    | (go_at_call 49; with_reducible refine Calls.mono (HT.out _) ?_; rintro e w5 ⟨rfl, hb5⟩; have HX5 := hide (below_trans HX3.out hb5); obtain ⟨⟨p0, p1, p2⟩, ⟨q0, q1, q2⟩, ⟨d0, d1, d2, f0, f1, f2⟩, HK5, HB5⟩ := HW.out _ HX5.out; clear hb5))
  exact ret_val2g Tryz.results19 rfl rfl HK5.out ⟨rfl, below_set3g HB5.out (Nat.le_succ_of_le (Nat.le_succ _)) _ _ _⟩

set_option maxHeartbeats 1000000 in
set_option maxRecDepth 10000 in
theorem rbin_ge (c k n : Int) (t : ByteArray) (k2 n2 : Int) (t2 : ByteArray) (hm1 : mayB k n t = true) (hm2 : mayB k2 n2 t2 = true) (hk : (k == 0) = false) (hk2 : (k2 == 0) = false) (w : World) :
    Calls Tryz.prog 19 #[.int .i64 18, val k n t, val k2 n2 t2, .int .i64 c] w fun e w' => e = .returned (.tuple #[truthV (decide (0 ≤ cmpA k n t k2 n2 t2 c)), .int .i64 0]) ∧ Below w.heap.size w w' := by
  have HM1 : Hid (∀ V, Calls Tryz.prog 36 #[.agg #[.int .i64 k, .int .i64 n, .string t]] V fun e w' => e = .returned (.bool true) ∧ Below V.heap.size V w') := fun V => by have := rmay_walk k n t V; rw [hm1] at this; exact this
  have HM2 : Hid (∀ V, Calls Tryz.prog 36 #[.agg #[.int .i64 k2, .int .i64 n2, .string t2]] V fun e w' => e = .returned (.bool true) ∧ Below V.heap.size V w') := fun V => by have := rmay_walk k2 n2 t2 V; rw [hm2] at this; exact this
  have HW : Hid (∀ V, _ → _) := pr2_later w k n t k2 n2 t2
  have HC : Hid (∀ V, Calls Tryz.prog 51 #[.agg #[.int .i64 k, .int .i64 n, .string t], .agg #[.int .i64 k2, .int .i64 n2, .string t2], .int .i64 c] V fun e w' => e = .returned (.int .i64 (cmpA k n t k2 n2 t2 c)) ∧ Below V.heap.size V w') := fun V => rcmp_walk k n t k2 n2 t2 c V
  generalize cmpA k n t k2 n2 t2 c = m at HC ⊢
  have HQ : Hid (∀ V, Calls Tryz.prog 50 #[.int .i64 18, .int .i64 m] V fun e w' => e = .returned (.bool (decide (0 ≤ m))) ∧ V = w') := fun V => rcompare_ge m V
  generalize decide (0 ≤ m) = b at HQ ⊢
  obtain ⟨c2, hc⟩ : ∃ m : Int, truthV b = val 1 m ⟨#[]⟩ := ⟨_, rfl⟩
  have HT : Hid (∀ V, Calls Tryz.prog 49 #[.bool b] V fun e w' => e = .returned (val 1 c2 ⟨#[]⟩) ∧ Below V.heap.size V w') := fun V => by rw [← hc]; exact rbool_walk b V
  rw [hc]
  clear hm1 hm2 hc
  go_enter Tryz.func19, Tryz.ntmps19
  go_wp2_with (first
    | (go_at_call 36; with_reducible refine Calls.mono (HM1.out _) ?_; rintro e w1 ⟨rfl, hb1⟩; have HX1 := hide hb1; obtain ⟨⟨p0, p1, p2⟩, ⟨q0, q1, q2⟩, ⟨d0, d1, d2, f0, f1, f2⟩, HK1, HB1⟩ := HW.out _ HX1.out; clear hb1)
    | (go_at_call 36; with_reducible refine Calls.mono (HM2.out _) ?_; rintro e w2 ⟨rfl, hb2⟩; have HX2 := hide (below_trans HX1.out hb2); obtain ⟨⟨p0, p1, p2⟩, ⟨q0, q1, q2⟩, ⟨d0, d1, d2, f0, f1, f2⟩, HK2, HB2⟩ := HW.out _ HX2.out; clear hb2)
    | (go_at_call 51; with_reducible refine Calls.mono (HC.out _) ?_; rintro e w3 ⟨rfl, hb3⟩; have HX3 := hide (below_trans HX2.out hb3); obtain ⟨⟨p0, p1, p2⟩, ⟨q0, q1, q2⟩, ⟨d0, d1, d2, f0, f1, f2⟩, HK3, HB3⟩ := HW.out _ HX3.out; clear hb3)
    | (go_at_call 50; with_reducible refine Calls.mono (HQ.out _) ?_; rintro e w4 ⟨rfl, rfl⟩)
    | (go_at_call 49; with_reducible refine Calls.mono (HT.out _) ?_; rintro e w5 ⟨rfl, hb5⟩; have HX5 := hide (below_trans HX3.out hb5); obtain ⟨⟨p0, p1, p2⟩, ⟨q0, q1, q2⟩, ⟨d0, d1, d2, f0, f1, f2⟩, HK5, HB5⟩ := HW.out _ HX5.out; clear hb5))
  exact ret_val2g Tryz.results19 rfl rfl HK5.out ⟨rfl, below_set3g HB5.out (Nat.le_succ_of_le (Nat.le_succ _)) _ _ _⟩

set_option maxHeartbeats 1000000 in
set_option maxRecDepth 10000 in
theorem rbin_is (c k n : Int) (t : ByteArray) (k2 n2 : Int) (t2 : ByteArray) (hm1 : mayB k n t = true) (hm2 : mayB k2 n2 t2 = true) (w : World) :
    Calls Tryz.prog 19 #[.int .i64 19, val k n t, val k2 n2 t2, .int .i64 c] w fun e w' => e = .returned (.tuple #[truthV (decide (cmpA k n t k2 n2 t2 c = 0)), .int .i64 0]) ∧ Below w.heap.size w w' := by
  have HM1 : Hid (∀ V, Calls Tryz.prog 36 #[.agg #[.int .i64 k, .int .i64 n, .string t]] V fun e w' => e = .returned (.bool true) ∧ Below V.heap.size V w') := fun V => by have := rmay_walk k n t V; rw [hm1] at this; exact this
  have HM2 : Hid (∀ V, Calls Tryz.prog 36 #[.agg #[.int .i64 k2, .int .i64 n2, .string t2]] V fun e w' => e = .returned (.bool true) ∧ Below V.heap.size V w') := fun V => by have := rmay_walk k2 n2 t2 V; rw [hm2] at this; exact this
  have HW : Hid (∀ V, _ → _) := pr2_later w k n t k2 n2 t2
  have HC : Hid (∀ V, Calls Tryz.prog 51 #[.agg #[.int .i64 k, .int .i64 n, .string t], .agg #[.int .i64 k2, .int .i64 n2, .string t2], .int .i64 c] V fun e w' => e = .returned (.int .i64 (cmpA k n t k2 n2 t2 c)) ∧ Below V.heap.size V w') := fun V => rcmp_walk k n t k2 n2 t2 c V
  generalize cmpA k n t k2 n2 t2 c = m at HC ⊢
  have HQ : Hid (∀ V, Calls Tryz.prog 50 #[.int .i64 19, .int .i64 m] V fun e w' => e = .returned (.bool (decide (m = 0))) ∧ V = w') := fun V => rcompare_is m V
  generalize decide (m = 0) = b at HQ ⊢
  obtain ⟨c2, hc⟩ : ∃ m : Int, truthV b = val 1 m ⟨#[]⟩ := ⟨_, rfl⟩
  have HT : Hid (∀ V, Calls Tryz.prog 49 #[.bool b] V fun e w' => e = .returned (val 1 c2 ⟨#[]⟩) ∧ Below V.heap.size V w') := fun V => by rw [← hc]; exact rbool_walk b V
  rw [hc]
  clear hm1 hm2 hc
  go_enter Tryz.func19, Tryz.ntmps19
  go_wp2_with (first
    | (go_at_call 36; with_reducible refine Calls.mono (HM1.out _) ?_; rintro e w1 ⟨rfl, hb1⟩; have HX1 := hide hb1; obtain ⟨⟨p0, p1, p2⟩, ⟨q0, q1, q2⟩, ⟨d0, d1, d2, f0, f1, f2⟩, HK1, HB1⟩ := HW.out _ HX1.out; clear hb1)
    | (go_at_call 36; with_reducible refine Calls.mono (HM2.out _) ?_; rintro e w2 ⟨rfl, hb2⟩; have HX2 := hide (below_trans HX1.out hb2); obtain ⟨⟨p0, p1, p2⟩, ⟨q0, q1, q2⟩, ⟨d0, d1, d2, f0, f1, f2⟩, HK2, HB2⟩ := HW.out _ HX2.out; clear hb2)
    | (go_at_call 51; with_reducible refine Calls.mono (HC.out _) ?_; rintro e w3 ⟨rfl, hb3⟩; have HX3 := hide (below_trans HX2.out hb3); obtain ⟨⟨p0, p1, p2⟩, ⟨q0, q1, q2⟩, ⟨d0, d1, d2, f0, f1, f2⟩, HK3, HB3⟩ := HW.out _ HX3.out; clear hb3)
    | (go_at_call 50; with_reducible refine Calls.mono (HQ.out _) ?_; rintro e w4 ⟨rfl, rfl⟩)
    | (go_at_call 49; with_reducible refine Calls.mono (HT.out _) ?_; rintro e w5 ⟨rfl, hb5⟩; have HX5 := hide (below_trans HX3.out hb5); obtain ⟨⟨p0, p1, p2⟩, ⟨q0, q1, q2⟩, ⟨d0, d1, d2, f0, f1, f2⟩, HK5, HB5⟩ := HW.out _ HX5.out; clear hb5))
  exact ret_val2g Tryz.results19 rfl rfl HK5.out ⟨rfl, below_set3g HB5.out (Nat.le_succ_of_le (Nat.le_succ _)) _ _ _⟩

set_option maxHeartbeats 1000000 in
set_option maxRecDepth 10000 in
theorem rbin_isnot (c k n : Int) (t : ByteArray) (k2 n2 : Int) (t2 : ByteArray) (hm1 : mayB k n t = true) (hm2 : mayB k2 n2 t2 = true) (w : World) :
    Calls Tryz.prog 19 #[.int .i64 20, val k n t, val k2 n2 t2, .int .i64 c] w fun e w' => e = .returned (.tuple #[truthV (decide (cmpA k n t k2 n2 t2 c ≠ 0)), .int .i64 0]) ∧ Below w.heap.size w w' := by
  have HM1 : Hid (∀ V, Calls Tryz.prog 36 #[.agg #[.int .i64 k, .int .i64 n, .string t]] V fun e w' => e = .returned (.bool true) ∧ Below V.heap.size V w') := fun V => by have := rmay_walk k n t V; rw [hm1] at this; exact this
  have HM2 : Hid (∀ V, Calls Tryz.prog 36 #[.agg #[.int .i64 k2, .int .i64 n2, .string t2]] V fun e w' => e = .returned (.bool true) ∧ Below V.heap.size V w') := fun V => by have := rmay_walk k2 n2 t2 V; rw [hm2] at this; exact this
  have HW : Hid (∀ V, _ → _) := pr2_later w k n t k2 n2 t2
  have HC : Hid (∀ V, Calls Tryz.prog 51 #[.agg #[.int .i64 k, .int .i64 n, .string t], .agg #[.int .i64 k2, .int .i64 n2, .string t2], .int .i64 c] V fun e w' => e = .returned (.int .i64 (cmpA k n t k2 n2 t2 c)) ∧ Below V.heap.size V w') := fun V => rcmp_walk k n t k2 n2 t2 c V
  generalize cmpA k n t k2 n2 t2 c = m at HC ⊢
  have HQ : Hid (∀ V, Calls Tryz.prog 50 #[.int .i64 20, .int .i64 m] V fun e w' => e = .returned (.bool (decide (m ≠ 0))) ∧ V = w') := fun V => rcompare_isnot m V
  generalize decide (m ≠ 0) = b at HQ ⊢
  obtain ⟨c2, hc⟩ : ∃ m : Int, truthV b = val 1 m ⟨#[]⟩ := ⟨_, rfl⟩
  have HT : Hid (∀ V, Calls Tryz.prog 49 #[.bool b] V fun e w' => e = .returned (val 1 c2 ⟨#[]⟩) ∧ Below V.heap.size V w') := fun V => by rw [← hc]; exact rbool_walk b V
  rw [hc]
  clear hm1 hm2 hc
  go_enter Tryz.func19, Tryz.ntmps19
  go_wp2_with (first
    | (go_at_call 36; with_reducible refine Calls.mono (HM1.out _) ?_; rintro e w1 ⟨rfl, hb1⟩; have HX1 := hide hb1; obtain ⟨⟨p0, p1, p2⟩, ⟨q0, q1, q2⟩, ⟨d0, d1, d2, f0, f1, f2⟩, HK1, HB1⟩ := HW.out _ HX1.out; clear hb1)
    | (go_at_call 36; with_reducible refine Calls.mono (HM2.out _) ?_; rintro e w2 ⟨rfl, hb2⟩; have HX2 := hide (below_trans HX1.out hb2); obtain ⟨⟨p0, p1, p2⟩, ⟨q0, q1, q2⟩, ⟨d0, d1, d2, f0, f1, f2⟩, HK2, HB2⟩ := HW.out _ HX2.out; clear hb2)
    | (go_at_call 51; with_reducible refine Calls.mono (HC.out _) ?_; rintro e w3 ⟨rfl, hb3⟩; have HX3 := hide (below_trans HX2.out hb3); obtain ⟨⟨p0, p1, p2⟩, ⟨q0, q1, q2⟩, ⟨d0, d1, d2, f0, f1, f2⟩, HK3, HB3⟩ := HW.out _ HX3.out; clear hb3)
    | (go_at_call 50; with_reducible refine Calls.mono (HQ.out _) ?_; rintro e w4 ⟨rfl, rfl⟩)
    | (go_at_call 49; with_reducible refine Calls.mono (HT.out _) ?_; rintro e w5 ⟨rfl, hb5⟩; have HX5 := hide (below_trans HX3.out hb5); obtain ⟨⟨p0, p1, p2⟩, ⟨q0, q1, q2⟩, ⟨d0, d1, d2, f0, f1, f2⟩, HK5, HB5⟩ := HW.out _ HX5.out; clear hb5))
  exact ret_val2g Tryz.results19 rfl rfl HK5.out ⟨rfl, below_set3g HB5.out (Nat.le_succ_of_le (Nat.le_succ _)) _ _ _⟩

set_option maxHeartbeats 1000000 in
set_option maxRecDepth 10000 in
theorem rbinA_13 (c n : Int) (t : ByteArray) (n2 : Int) (t2 : ByteArray) (k2 : Int) (hm1 : mayB 0 n t = true) (hm2 : mayB k2 n2 t2 = true) (w : World) :
    Calls Tryz.prog 19 #[.int .i64 13, val 0 n t, val k2 n2 t2, .int .i64 c] w fun e w' => e = .returned (.tuple #[val 0 0 ⟨#[]⟩, .int .i64 0]) ∧ Below w.heap.size w w' := by
  have HM1 : Hid (∀ V, Calls Tryz.prog 36 #[.agg #[.int .i64 (0), .int .i64 n, .string t]] V fun e w' => e = .returned (.bool true) ∧ Below V.heap.size V w') := fun V => by have := rmay_walk (0) n t V; rw [hm1] at this; exact this
  have HM2 : Hid (∀ V, Calls Tryz.prog 36 #[.agg #[.int .i64 (k2), .int .i64 n2, .string t2]] V fun e w' => e = .returned (.bool true) ∧ Below V.heap.size V w') := fun V => by have := rmay_walk (k2) n2 t2 V; rw [hm2] at this; exact this
  have HW : Hid (∀ V, _ → _) := pr2_later w (0) n t (k2) n2 t2
  clear hm1 hm2
  go_enter Tryz.func19, Tryz.ntmps19
  go_wp2_with (first
    | (go_at_call 36; with_reducible refine Calls.mono (HM1.out _) ?_; rintro e w1 ⟨rfl, hb1⟩; have HX1 := hide hb1; obtain ⟨⟨p0, p1, p2⟩, ⟨q0, q1, q2⟩, ⟨d0, d1, d2, f0, f1, f2⟩, HK1, HB1⟩ := HW.out _ HX1.out; clear hb1)
    | (go_at_call 36; with_reducible refine Calls.mono (HM2.out _) ?_; rintro e w2 ⟨rfl, hb2⟩; have HX2 := hide (below_trans HX1.out hb2); obtain ⟨⟨p0, p1, p2⟩, ⟨q0, q1, q2⟩, ⟨d0, d1, d2, f0, f1, f2⟩, HK2, HB2⟩ := HW.out _ HX2.out; clear hb2)
    | (go_at_call 37; with_reducible refine Calls.mono (rnull_walk _) ?_; rintro e w3 ⟨rfl, hb3⟩; have HX3 := hide (below_trans HX2.out hb3); obtain ⟨⟨p0, p1, p2⟩, ⟨q0, q1, q2⟩, ⟨d0, d1, d2, f0, f1, f2⟩, HK3, HB3⟩ := HW.out _ HX3.out; clear hb3))
  exact ret_val2g Tryz.results19 rfl rfl HK3.out ⟨rfl, below_set3g HB3.out (Nat.le_succ_of_le (Nat.le_succ _)) _ _ _⟩

set_option maxHeartbeats 1000000 in
set_option maxRecDepth 10000 in
theorem rbinB_13 (c n : Int) (t : ByteArray) (n2 : Int) (t2 : ByteArray) (k : Int) (hk : (k == 0) = false) (hm1 : mayB k n t = true) (hm2 : mayB 0 n2 t2 = true) (w : World) :
    Calls Tryz.prog 19 #[.int .i64 13, val k n t, val 0 n2 t2, .int .i64 c] w fun e w' => e = .returned (.tuple #[val 0 0 ⟨#[]⟩, .int .i64 0]) ∧ Below w.heap.size w w' := by
  have HM1 : Hid (∀ V, Calls Tryz.prog 36 #[.agg #[.int .i64 (k), .int .i64 n, .string t]] V fun e w' => e = .returned (.bool true) ∧ Below V.heap.size V w') := fun V => by have := rmay_walk (k) n t V; rw [hm1] at this; exact this
  have HM2 : Hid (∀ V, Calls Tryz.prog 36 #[.agg #[.int .i64 (0), .int .i64 n2, .string t2]] V fun e w' => e = .returned (.bool true) ∧ Below V.heap.size V w') := fun V => by have := rmay_walk (0) n2 t2 V; rw [hm2] at this; exact this
  have HW : Hid (∀ V, _ → _) := pr2_later w (k) n t (0) n2 t2
  clear hm1 hm2
  go_enter Tryz.func19, Tryz.ntmps19
  go_wp2_with (first
    | (go_at_call 36; with_reducible refine Calls.mono (HM1.out _) ?_; rintro e w1 ⟨rfl, hb1⟩; have HX1 := hide hb1; obtain ⟨⟨p0, p1, p2⟩, ⟨q0, q1, q2⟩, ⟨d0, d1, d2, f0, f1, f2⟩, HK1, HB1⟩ := HW.out _ HX1.out; clear hb1)
    | (go_at_call 36; with_reducible refine Calls.mono (HM2.out _) ?_; rintro e w2 ⟨rfl, hb2⟩; have HX2 := hide (below_trans HX1.out hb2); obtain ⟨⟨p0, p1, p2⟩, ⟨q0, q1, q2⟩, ⟨d0, d1, d2, f0, f1, f2⟩, HK2, HB2⟩ := HW.out _ HX2.out; clear hb2)
    | (go_at_call 37; with_reducible refine Calls.mono (rnull_walk _) ?_; rintro e w3 ⟨rfl, hb3⟩; have HX3 := hide (below_trans HX2.out hb3); obtain ⟨⟨p0, p1, p2⟩, ⟨q0, q1, q2⟩, ⟨d0, d1, d2, f0, f1, f2⟩, HK3, HB3⟩ := HW.out _ HX3.out; clear hb3))
  exact ret_val2g Tryz.results19 rfl rfl HK3.out ⟨rfl, below_set3g HB3.out (Nat.le_succ_of_le (Nat.le_succ _)) _ _ _⟩

set_option maxHeartbeats 1000000 in
set_option maxRecDepth 10000 in
theorem rbinA_14 (c n : Int) (t : ByteArray) (n2 : Int) (t2 : ByteArray) (k2 : Int) (hm1 : mayB 0 n t = true) (hm2 : mayB k2 n2 t2 = true) (w : World) :
    Calls Tryz.prog 19 #[.int .i64 14, val 0 n t, val k2 n2 t2, .int .i64 c] w fun e w' => e = .returned (.tuple #[val 0 0 ⟨#[]⟩, .int .i64 0]) ∧ Below w.heap.size w w' := by
  have HM1 : Hid (∀ V, Calls Tryz.prog 36 #[.agg #[.int .i64 (0), .int .i64 n, .string t]] V fun e w' => e = .returned (.bool true) ∧ Below V.heap.size V w') := fun V => by have := rmay_walk (0) n t V; rw [hm1] at this; exact this
  have HM2 : Hid (∀ V, Calls Tryz.prog 36 #[.agg #[.int .i64 (k2), .int .i64 n2, .string t2]] V fun e w' => e = .returned (.bool true) ∧ Below V.heap.size V w') := fun V => by have := rmay_walk (k2) n2 t2 V; rw [hm2] at this; exact this
  have HW : Hid (∀ V, _ → _) := pr2_later w (0) n t (k2) n2 t2
  clear hm1 hm2
  go_enter Tryz.func19, Tryz.ntmps19
  go_wp2_with (first
    | (go_at_call 36; with_reducible refine Calls.mono (HM1.out _) ?_; rintro e w1 ⟨rfl, hb1⟩; have HX1 := hide hb1; obtain ⟨⟨p0, p1, p2⟩, ⟨q0, q1, q2⟩, ⟨d0, d1, d2, f0, f1, f2⟩, HK1, HB1⟩ := HW.out _ HX1.out; clear hb1)
    | (go_at_call 36; with_reducible refine Calls.mono (HM2.out _) ?_; rintro e w2 ⟨rfl, hb2⟩; have HX2 := hide (below_trans HX1.out hb2); obtain ⟨⟨p0, p1, p2⟩, ⟨q0, q1, q2⟩, ⟨d0, d1, d2, f0, f1, f2⟩, HK2, HB2⟩ := HW.out _ HX2.out; clear hb2)
    | (go_at_call 37; with_reducible refine Calls.mono (rnull_walk _) ?_; rintro e w3 ⟨rfl, hb3⟩; have HX3 := hide (below_trans HX2.out hb3); obtain ⟨⟨p0, p1, p2⟩, ⟨q0, q1, q2⟩, ⟨d0, d1, d2, f0, f1, f2⟩, HK3, HB3⟩ := HW.out _ HX3.out; clear hb3))
  exact ret_val2g Tryz.results19 rfl rfl HK3.out ⟨rfl, below_set3g HB3.out (Nat.le_succ_of_le (Nat.le_succ _)) _ _ _⟩

set_option maxHeartbeats 1000000 in
set_option maxRecDepth 10000 in
theorem rbinB_14 (c n : Int) (t : ByteArray) (n2 : Int) (t2 : ByteArray) (k : Int) (hk : (k == 0) = false) (hm1 : mayB k n t = true) (hm2 : mayB 0 n2 t2 = true) (w : World) :
    Calls Tryz.prog 19 #[.int .i64 14, val k n t, val 0 n2 t2, .int .i64 c] w fun e w' => e = .returned (.tuple #[val 0 0 ⟨#[]⟩, .int .i64 0]) ∧ Below w.heap.size w w' := by
  have HM1 : Hid (∀ V, Calls Tryz.prog 36 #[.agg #[.int .i64 (k), .int .i64 n, .string t]] V fun e w' => e = .returned (.bool true) ∧ Below V.heap.size V w') := fun V => by have := rmay_walk (k) n t V; rw [hm1] at this; exact this
  have HM2 : Hid (∀ V, Calls Tryz.prog 36 #[.agg #[.int .i64 (0), .int .i64 n2, .string t2]] V fun e w' => e = .returned (.bool true) ∧ Below V.heap.size V w') := fun V => by have := rmay_walk (0) n2 t2 V; rw [hm2] at this; exact this
  have HW : Hid (∀ V, _ → _) := pr2_later w (k) n t (0) n2 t2
  clear hm1 hm2
  go_enter Tryz.func19, Tryz.ntmps19
  go_wp2_with (first
    | (go_at_call 36; with_reducible refine Calls.mono (HM1.out _) ?_; rintro e w1 ⟨rfl, hb1⟩; have HX1 := hide hb1; obtain ⟨⟨p0, p1, p2⟩, ⟨q0, q1, q2⟩, ⟨d0, d1, d2, f0, f1, f2⟩, HK1, HB1⟩ := HW.out _ HX1.out; clear hb1)
    | (go_at_call 36; with_reducible refine Calls.mono (HM2.out _) ?_; rintro e w2 ⟨rfl, hb2⟩; have HX2 := hide (below_trans HX1.out hb2); obtain ⟨⟨p0, p1, p2⟩, ⟨q0, q1, q2⟩, ⟨d0, d1, d2, f0, f1, f2⟩, HK2, HB2⟩ := HW.out _ HX2.out; clear hb2)
    | (go_at_call 37; with_reducible refine Calls.mono (rnull_walk _) ?_; rintro e w3 ⟨rfl, hb3⟩; have HX3 := hide (below_trans HX2.out hb3); obtain ⟨⟨p0, p1, p2⟩, ⟨q0, q1, q2⟩, ⟨d0, d1, d2, f0, f1, f2⟩, HK3, HB3⟩ := HW.out _ HX3.out; clear hb3))
  exact ret_val2g Tryz.results19 rfl rfl HK3.out ⟨rfl, below_set3g HB3.out (Nat.le_succ_of_le (Nat.le_succ _)) _ _ _⟩

set_option maxHeartbeats 1000000 in
set_option maxRecDepth 10000 in
theorem rbinA_15 (c n : Int) (t : ByteArray) (n2 : Int) (t2 : ByteArray) (k2 : Int) (hm1 : mayB 0 n t = true) (hm2 : mayB k2 n2 t2 = true) (w : World) :
    Calls Tryz.prog 19 #[.int .i64 15, val 0 n t, val k2 n2 t2, .int .i64 c] w fun e w' => e = .returned (.tuple #[val 0 0 ⟨#[]⟩, .int .i64 0]) ∧ Below w.heap.size w w' := by
  have HM1 : Hid (∀ V, Calls Tryz.prog 36 #[.agg #[.int .i64 (0), .int .i64 n, .string t]] V fun e w' => e = .returned (.bool true) ∧ Below V.heap.size V w') := fun V => by have := rmay_walk (0) n t V; rw [hm1] at this; exact this
  have HM2 : Hid (∀ V, Calls Tryz.prog 36 #[.agg #[.int .i64 (k2), .int .i64 n2, .string t2]] V fun e w' => e = .returned (.bool true) ∧ Below V.heap.size V w') := fun V => by have := rmay_walk (k2) n2 t2 V; rw [hm2] at this; exact this
  have HW : Hid (∀ V, _ → _) := pr2_later w (0) n t (k2) n2 t2
  clear hm1 hm2
  go_enter Tryz.func19, Tryz.ntmps19
  go_wp2_with (first
    | (go_at_call 36; with_reducible refine Calls.mono (HM1.out _) ?_; rintro e w1 ⟨rfl, hb1⟩; have HX1 := hide hb1; obtain ⟨⟨p0, p1, p2⟩, ⟨q0, q1, q2⟩, ⟨d0, d1, d2, f0, f1, f2⟩, HK1, HB1⟩ := HW.out _ HX1.out; clear hb1)
    | (go_at_call 36; with_reducible refine Calls.mono (HM2.out _) ?_; rintro e w2 ⟨rfl, hb2⟩; have HX2 := hide (below_trans HX1.out hb2); obtain ⟨⟨p0, p1, p2⟩, ⟨q0, q1, q2⟩, ⟨d0, d1, d2, f0, f1, f2⟩, HK2, HB2⟩ := HW.out _ HX2.out; clear hb2)
    | (go_at_call 37; with_reducible refine Calls.mono (rnull_walk _) ?_; rintro e w3 ⟨rfl, hb3⟩; have HX3 := hide (below_trans HX2.out hb3); obtain ⟨⟨p0, p1, p2⟩, ⟨q0, q1, q2⟩, ⟨d0, d1, d2, f0, f1, f2⟩, HK3, HB3⟩ := HW.out _ HX3.out; clear hb3))
  exact ret_val2g Tryz.results19 rfl rfl HK3.out ⟨rfl, below_set3g HB3.out (Nat.le_succ_of_le (Nat.le_succ _)) _ _ _⟩

set_option maxHeartbeats 1000000 in
set_option maxRecDepth 10000 in
theorem rbinB_15 (c n : Int) (t : ByteArray) (n2 : Int) (t2 : ByteArray) (k : Int) (hk : (k == 0) = false) (hm1 : mayB k n t = true) (hm2 : mayB 0 n2 t2 = true) (w : World) :
    Calls Tryz.prog 19 #[.int .i64 15, val k n t, val 0 n2 t2, .int .i64 c] w fun e w' => e = .returned (.tuple #[val 0 0 ⟨#[]⟩, .int .i64 0]) ∧ Below w.heap.size w w' := by
  have HM1 : Hid (∀ V, Calls Tryz.prog 36 #[.agg #[.int .i64 (k), .int .i64 n, .string t]] V fun e w' => e = .returned (.bool true) ∧ Below V.heap.size V w') := fun V => by have := rmay_walk (k) n t V; rw [hm1] at this; exact this
  have HM2 : Hid (∀ V, Calls Tryz.prog 36 #[.agg #[.int .i64 (0), .int .i64 n2, .string t2]] V fun e w' => e = .returned (.bool true) ∧ Below V.heap.size V w') := fun V => by have := rmay_walk (0) n2 t2 V; rw [hm2] at this; exact this
  have HW : Hid (∀ V, _ → _) := pr2_later w (k) n t (0) n2 t2
  clear hm1 hm2
  go_enter Tryz.func19, Tryz.ntmps19
  go_wp2_with (first
    | (go_at_call 36; with_reducible refine Calls.mono (HM1.out _) ?_; rintro e w1 ⟨rfl, hb1⟩; have HX1 := hide hb1; obtain ⟨⟨p0, p1, p2⟩, ⟨q0, q1, q2⟩, ⟨d0, d1, d2, f0, f1, f2⟩, HK1, HB1⟩ := HW.out _ HX1.out; clear hb1)
    | (go_at_call 36; with_reducible refine Calls.mono (HM2.out _) ?_; rintro e w2 ⟨rfl, hb2⟩; have HX2 := hide (below_trans HX1.out hb2); obtain ⟨⟨p0, p1, p2⟩, ⟨q0, q1, q2⟩, ⟨d0, d1, d2, f0, f1, f2⟩, HK2, HB2⟩ := HW.out _ HX2.out; clear hb2)
    | (go_at_call 37; with_reducible refine Calls.mono (rnull_walk _) ?_; rintro e w3 ⟨rfl, hb3⟩; have HX3 := hide (below_trans HX2.out hb3); obtain ⟨⟨p0, p1, p2⟩, ⟨q0, q1, q2⟩, ⟨d0, d1, d2, f0, f1, f2⟩, HK3, HB3⟩ := HW.out _ HX3.out; clear hb3))
  exact ret_val2g Tryz.results19 rfl rfl HK3.out ⟨rfl, below_set3g HB3.out (Nat.le_succ_of_le (Nat.le_succ _)) _ _ _⟩

set_option maxHeartbeats 1000000 in
set_option maxRecDepth 10000 in
theorem rbinA_16 (c n : Int) (t : ByteArray) (n2 : Int) (t2 : ByteArray) (k2 : Int) (hm1 : mayB 0 n t = true) (hm2 : mayB k2 n2 t2 = true) (w : World) :
    Calls Tryz.prog 19 #[.int .i64 16, val 0 n t, val k2 n2 t2, .int .i64 c] w fun e w' => e = .returned (.tuple #[val 0 0 ⟨#[]⟩, .int .i64 0]) ∧ Below w.heap.size w w' := by
  have HM1 : Hid (∀ V, Calls Tryz.prog 36 #[.agg #[.int .i64 (0), .int .i64 n, .string t]] V fun e w' => e = .returned (.bool true) ∧ Below V.heap.size V w') := fun V => by have := rmay_walk (0) n t V; rw [hm1] at this; exact this
  have HM2 : Hid (∀ V, Calls Tryz.prog 36 #[.agg #[.int .i64 (k2), .int .i64 n2, .string t2]] V fun e w' => e = .returned (.bool true) ∧ Below V.heap.size V w') := fun V => by have := rmay_walk (k2) n2 t2 V; rw [hm2] at this; exact this
  have HW : Hid (∀ V, _ → _) := pr2_later w (0) n t (k2) n2 t2
  clear hm1 hm2
  go_enter Tryz.func19, Tryz.ntmps19
  go_wp2_with (first
    | (go_at_call 36; with_reducible refine Calls.mono (HM1.out _) ?_; rintro e w1 ⟨rfl, hb1⟩; have HX1 := hide hb1; obtain ⟨⟨p0, p1, p2⟩, ⟨q0, q1, q2⟩, ⟨d0, d1, d2, f0, f1, f2⟩, HK1, HB1⟩ := HW.out _ HX1.out; clear hb1)
    | (go_at_call 36; with_reducible refine Calls.mono (HM2.out _) ?_; rintro e w2 ⟨rfl, hb2⟩; have HX2 := hide (below_trans HX1.out hb2); obtain ⟨⟨p0, p1, p2⟩, ⟨q0, q1, q2⟩, ⟨d0, d1, d2, f0, f1, f2⟩, HK2, HB2⟩ := HW.out _ HX2.out; clear hb2)
    | (go_at_call 37; with_reducible refine Calls.mono (rnull_walk _) ?_; rintro e w3 ⟨rfl, hb3⟩; have HX3 := hide (below_trans HX2.out hb3); obtain ⟨⟨p0, p1, p2⟩, ⟨q0, q1, q2⟩, ⟨d0, d1, d2, f0, f1, f2⟩, HK3, HB3⟩ := HW.out _ HX3.out; clear hb3))
  exact ret_val2g Tryz.results19 rfl rfl HK3.out ⟨rfl, below_set3g HB3.out (Nat.le_succ_of_le (Nat.le_succ _)) _ _ _⟩

set_option maxHeartbeats 1000000 in
set_option maxRecDepth 10000 in
theorem rbinB_16 (c n : Int) (t : ByteArray) (n2 : Int) (t2 : ByteArray) (k : Int) (hk : (k == 0) = false) (hm1 : mayB k n t = true) (hm2 : mayB 0 n2 t2 = true) (w : World) :
    Calls Tryz.prog 19 #[.int .i64 16, val k n t, val 0 n2 t2, .int .i64 c] w fun e w' => e = .returned (.tuple #[val 0 0 ⟨#[]⟩, .int .i64 0]) ∧ Below w.heap.size w w' := by
  have HM1 : Hid (∀ V, Calls Tryz.prog 36 #[.agg #[.int .i64 (k), .int .i64 n, .string t]] V fun e w' => e = .returned (.bool true) ∧ Below V.heap.size V w') := fun V => by have := rmay_walk (k) n t V; rw [hm1] at this; exact this
  have HM2 : Hid (∀ V, Calls Tryz.prog 36 #[.agg #[.int .i64 (0), .int .i64 n2, .string t2]] V fun e w' => e = .returned (.bool true) ∧ Below V.heap.size V w') := fun V => by have := rmay_walk (0) n2 t2 V; rw [hm2] at this; exact this
  have HW : Hid (∀ V, _ → _) := pr2_later w (k) n t (0) n2 t2
  clear hm1 hm2
  go_enter Tryz.func19, Tryz.ntmps19
  go_wp2_with (first
    | (go_at_call 36; with_reducible refine Calls.mono (HM1.out _) ?_; rintro e w1 ⟨rfl, hb1⟩; have HX1 := hide hb1; obtain ⟨⟨p0, p1, p2⟩, ⟨q0, q1, q2⟩, ⟨d0, d1, d2, f0, f1, f2⟩, HK1, HB1⟩ := HW.out _ HX1.out; clear hb1)
    | (go_at_call 36; with_reducible refine Calls.mono (HM2.out _) ?_; rintro e w2 ⟨rfl, hb2⟩; have HX2 := hide (below_trans HX1.out hb2); obtain ⟨⟨p0, p1, p2⟩, ⟨q0, q1, q2⟩, ⟨d0, d1, d2, f0, f1, f2⟩, HK2, HB2⟩ := HW.out _ HX2.out; clear hb2)
    | (go_at_call 37; with_reducible refine Calls.mono (rnull_walk _) ?_; rintro e w3 ⟨rfl, hb3⟩; have HX3 := hide (below_trans HX2.out hb3); obtain ⟨⟨p0, p1, p2⟩, ⟨q0, q1, q2⟩, ⟨d0, d1, d2, f0, f1, f2⟩, HK3, HB3⟩ := HW.out _ HX3.out; clear hb3))
  exact ret_val2g Tryz.results19 rfl rfl HK3.out ⟨rfl, below_set3g HB3.out (Nat.le_succ_of_le (Nat.le_succ _)) _ _ _⟩

set_option maxHeartbeats 1000000 in
set_option maxRecDepth 10000 in
theorem rbinA_17 (c n : Int) (t : ByteArray) (n2 : Int) (t2 : ByteArray) (k2 : Int) (hm1 : mayB 0 n t = true) (hm2 : mayB k2 n2 t2 = true) (w : World) :
    Calls Tryz.prog 19 #[.int .i64 17, val 0 n t, val k2 n2 t2, .int .i64 c] w fun e w' => e = .returned (.tuple #[val 0 0 ⟨#[]⟩, .int .i64 0]) ∧ Below w.heap.size w w' := by
  have HM1 : Hid (∀ V, Calls Tryz.prog 36 #[.agg #[.int .i64 (0), .int .i64 n, .string t]] V fun e w' => e = .returned (.bool true) ∧ Below V.heap.size V w') := fun V => by have := rmay_walk (0) n t V; rw [hm1] at this; exact this
  have HM2 : Hid (∀ V, Calls Tryz.prog 36 #[.agg #[.int .i64 (k2), .int .i64 n2, .string t2]] V fun e w' => e = .returned (.bool true) ∧ Below V.heap.size V w') := fun V => by have := rmay_walk (k2) n2 t2 V; rw [hm2] at this; exact this
  have HW : Hid (∀ V, _ → _) := pr2_later w (0) n t (k2) n2 t2
  clear hm1 hm2
  go_enter Tryz.func19, Tryz.ntmps19
  go_wp2_with (first
    | (go_at_call 36; with_reducible refine Calls.mono (HM1.out _) ?_; rintro e w1 ⟨rfl, hb1⟩; have HX1 := hide hb1; obtain ⟨⟨p0, p1, p2⟩, ⟨q0, q1, q2⟩, ⟨d0, d1, d2, f0, f1, f2⟩, HK1, HB1⟩ := HW.out _ HX1.out; clear hb1)
    | (go_at_call 36; with_reducible refine Calls.mono (HM2.out _) ?_; rintro e w2 ⟨rfl, hb2⟩; have HX2 := hide (below_trans HX1.out hb2); obtain ⟨⟨p0, p1, p2⟩, ⟨q0, q1, q2⟩, ⟨d0, d1, d2, f0, f1, f2⟩, HK2, HB2⟩ := HW.out _ HX2.out; clear hb2)
    | (go_at_call 37; with_reducible refine Calls.mono (rnull_walk _) ?_; rintro e w3 ⟨rfl, hb3⟩; have HX3 := hide (below_trans HX2.out hb3); obtain ⟨⟨p0, p1, p2⟩, ⟨q0, q1, q2⟩, ⟨d0, d1, d2, f0, f1, f2⟩, HK3, HB3⟩ := HW.out _ HX3.out; clear hb3))
  exact ret_val2g Tryz.results19 rfl rfl HK3.out ⟨rfl, below_set3g HB3.out (Nat.le_succ_of_le (Nat.le_succ _)) _ _ _⟩

set_option maxHeartbeats 1000000 in
set_option maxRecDepth 10000 in
theorem rbinB_17 (c n : Int) (t : ByteArray) (n2 : Int) (t2 : ByteArray) (k : Int) (hk : (k == 0) = false) (hm1 : mayB k n t = true) (hm2 : mayB 0 n2 t2 = true) (w : World) :
    Calls Tryz.prog 19 #[.int .i64 17, val k n t, val 0 n2 t2, .int .i64 c] w fun e w' => e = .returned (.tuple #[val 0 0 ⟨#[]⟩, .int .i64 0]) ∧ Below w.heap.size w w' := by
  have HM1 : Hid (∀ V, Calls Tryz.prog 36 #[.agg #[.int .i64 (k), .int .i64 n, .string t]] V fun e w' => e = .returned (.bool true) ∧ Below V.heap.size V w') := fun V => by have := rmay_walk (k) n t V; rw [hm1] at this; exact this
  have HM2 : Hid (∀ V, Calls Tryz.prog 36 #[.agg #[.int .i64 (0), .int .i64 n2, .string t2]] V fun e w' => e = .returned (.bool true) ∧ Below V.heap.size V w') := fun V => by have := rmay_walk (0) n2 t2 V; rw [hm2] at this; exact this
  have HW : Hid (∀ V, _ → _) := pr2_later w (k) n t (0) n2 t2
  clear hm1 hm2
  go_enter Tryz.func19, Tryz.ntmps19
  go_wp2_with (first
    | (go_at_call 36; with_reducible refine Calls.mono (HM1.out _) ?_; rintro e w1 ⟨rfl, hb1⟩; have HX1 := hide hb1; obtain ⟨⟨p0, p1, p2⟩, ⟨q0, q1, q2⟩, ⟨d0, d1, d2, f0, f1, f2⟩, HK1, HB1⟩ := HW.out _ HX1.out; clear hb1)
    | (go_at_call 36; with_reducible refine Calls.mono (HM2.out _) ?_; rintro e w2 ⟨rfl, hb2⟩; have HX2 := hide (below_trans HX1.out hb2); obtain ⟨⟨p0, p1, p2⟩, ⟨q0, q1, q2⟩, ⟨d0, d1, d2, f0, f1, f2⟩, HK2, HB2⟩ := HW.out _ HX2.out; clear hb2)
    | (go_at_call 37; with_reducible refine Calls.mono (rnull_walk _) ?_; rintro e w3 ⟨rfl, hb3⟩; have HX3 := hide (below_trans HX2.out hb3); obtain ⟨⟨p0, p1, p2⟩, ⟨q0, q1, q2⟩, ⟨d0, d1, d2, f0, f1, f2⟩, HK3, HB3⟩ := HW.out _ HX3.out; clear hb3))
  exact ret_val2g Tryz.results19 rfl rfl HK3.out ⟨rfl, below_set3g HB3.out (Nat.le_succ_of_le (Nat.le_succ _)) _ _ _⟩

set_option maxHeartbeats 1000000 in
set_option maxRecDepth 10000 in
theorem rbinA_18 (c n : Int) (t : ByteArray) (n2 : Int) (t2 : ByteArray) (k2 : Int) (hm1 : mayB 0 n t = true) (hm2 : mayB k2 n2 t2 = true) (w : World) :
    Calls Tryz.prog 19 #[.int .i64 18, val 0 n t, val k2 n2 t2, .int .i64 c] w fun e w' => e = .returned (.tuple #[val 0 0 ⟨#[]⟩, .int .i64 0]) ∧ Below w.heap.size w w' := by
  have HM1 : Hid (∀ V, Calls Tryz.prog 36 #[.agg #[.int .i64 (0), .int .i64 n, .string t]] V fun e w' => e = .returned (.bool true) ∧ Below V.heap.size V w') := fun V => by have := rmay_walk (0) n t V; rw [hm1] at this; exact this
  have HM2 : Hid (∀ V, Calls Tryz.prog 36 #[.agg #[.int .i64 (k2), .int .i64 n2, .string t2]] V fun e w' => e = .returned (.bool true) ∧ Below V.heap.size V w') := fun V => by have := rmay_walk (k2) n2 t2 V; rw [hm2] at this; exact this
  have HW : Hid (∀ V, _ → _) := pr2_later w (0) n t (k2) n2 t2
  clear hm1 hm2
  go_enter Tryz.func19, Tryz.ntmps19
  go_wp2_with (first
    | (go_at_call 36; with_reducible refine Calls.mono (HM1.out _) ?_; rintro e w1 ⟨rfl, hb1⟩; have HX1 := hide hb1; obtain ⟨⟨p0, p1, p2⟩, ⟨q0, q1, q2⟩, ⟨d0, d1, d2, f0, f1, f2⟩, HK1, HB1⟩ := HW.out _ HX1.out; clear hb1)
    | (go_at_call 36; with_reducible refine Calls.mono (HM2.out _) ?_; rintro e w2 ⟨rfl, hb2⟩; have HX2 := hide (below_trans HX1.out hb2); obtain ⟨⟨p0, p1, p2⟩, ⟨q0, q1, q2⟩, ⟨d0, d1, d2, f0, f1, f2⟩, HK2, HB2⟩ := HW.out _ HX2.out; clear hb2)
    | (go_at_call 37; with_reducible refine Calls.mono (rnull_walk _) ?_; rintro e w3 ⟨rfl, hb3⟩; have HX3 := hide (below_trans HX2.out hb3); obtain ⟨⟨p0, p1, p2⟩, ⟨q0, q1, q2⟩, ⟨d0, d1, d2, f0, f1, f2⟩, HK3, HB3⟩ := HW.out _ HX3.out; clear hb3))
  exact ret_val2g Tryz.results19 rfl rfl HK3.out ⟨rfl, below_set3g HB3.out (Nat.le_succ_of_le (Nat.le_succ _)) _ _ _⟩

set_option maxHeartbeats 1000000 in
set_option maxRecDepth 10000 in
theorem rbinB_18 (c n : Int) (t : ByteArray) (n2 : Int) (t2 : ByteArray) (k : Int) (hk : (k == 0) = false) (hm1 : mayB k n t = true) (hm2 : mayB 0 n2 t2 = true) (w : World) :
    Calls Tryz.prog 19 #[.int .i64 18, val k n t, val 0 n2 t2, .int .i64 c] w fun e w' => e = .returned (.tuple #[val 0 0 ⟨#[]⟩, .int .i64 0]) ∧ Below w.heap.size w w' := by
  have HM1 : Hid (∀ V, Calls Tryz.prog 36 #[.agg #[.int .i64 (k), .int .i64 n, .string t]] V fun e w' => e = .returned (.bool true) ∧ Below V.heap.size V w') := fun V => by have := rmay_walk (k) n t V; rw [hm1] at this; exact this
  have HM2 : Hid (∀ V, Calls Tryz.prog 36 #[.agg #[.int .i64 (0), .int .i64 n2, .string t2]] V fun e w' => e = .returned (.bool true) ∧ Below V.heap.size V w') := fun V => by have := rmay_walk (0) n2 t2 V; rw [hm2] at this; exact this
  have HW : Hid (∀ V, _ → _) := pr2_later w (k) n t (0) n2 t2
  clear hm1 hm2
  go_enter Tryz.func19, Tryz.ntmps19
  go_wp2_with (first
    | (go_at_call 36; with_reducible refine Calls.mono (HM1.out _) ?_; rintro e w1 ⟨rfl, hb1⟩; have HX1 := hide hb1; obtain ⟨⟨p0, p1, p2⟩, ⟨q0, q1, q2⟩, ⟨d0, d1, d2, f0, f1, f2⟩, HK1, HB1⟩ := HW.out _ HX1.out; clear hb1)
    | (go_at_call 36; with_reducible refine Calls.mono (HM2.out _) ?_; rintro e w2 ⟨rfl, hb2⟩; have HX2 := hide (below_trans HX1.out hb2); obtain ⟨⟨p0, p1, p2⟩, ⟨q0, q1, q2⟩, ⟨d0, d1, d2, f0, f1, f2⟩, HK2, HB2⟩ := HW.out _ HX2.out; clear hb2)
    | (go_at_call 37; with_reducible refine Calls.mono (rnull_walk _) ?_; rintro e w3 ⟨rfl, hb3⟩; have HX3 := hide (below_trans HX2.out hb3); obtain ⟨⟨p0, p1, p2⟩, ⟨q0, q1, q2⟩, ⟨d0, d1, d2, f0, f1, f2⟩, HK3, HB3⟩ := HW.out _ HX3.out; clear hb3))
  exact ret_val2g Tryz.results19 rfl rfl HK3.out ⟨rfl, below_set3g HB3.out (Nat.le_succ_of_le (Nat.le_succ _)) _ _ _⟩
end Go.Proofs.YtoekdeoekcmpgaaGreatDoor
