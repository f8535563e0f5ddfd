/- Package calc: Binary over texts, comparisons, logic. -/
import Derived.Test.YtoekdeoekcmpgabGreatDoorBQ
namespace Go.Proofs.YtoekdeoekcmpgabGreatDoor
open Go.ChangeShapes Go.WideShapes Go.ChangeAt Go.RowKit
set_option linter.unusedVariables false

set_option maxHeartbeats 1000000 in
set_option maxRecDepth 10000 in
theorem un_text (k n : Int) (t : ByteArray) (k2 n2 : Int) (t2 : ByteArray) (hk : (k == 0) = false) (hk2 : (k2 == 0) = false) (c1 c2 : Int) (c3 : ByteArray) (p3 : Nat) (w : World) (hc : w.cell? ⟨p3, 0, none⟩ = some (.func (.func 33) #[] #[]))
    (HF : Hid (∀ V, Below w.heap.size w V → Calls Tryz.prog 33 #[.agg #[.int .i64 k, .int .i64 n, .string t], .agg #[.int .i64 k2, .int .i64 n2, .string t2]] V fun e w' => e = .returned (val c1 c2 c3) ∧ Below V.heap.size V w')) :
    Calls Tryz.prog 58 #[val k n t, val k2 n2 t2, .pointer (some ⟨p3, 0, none⟩)] w fun e w' => e = .returned (val c1 c2 c3) ∧ Below w.heap.size w w' := by
  have HW : Hid (∀ V, _ → _) := pr2_later w k n t k2 n2 t2
  have hc3 := old_cell3 hc (vcells k n t) (vcells k2 n2 t2) nilcells
  obtain ⟨⟨p0, p1, p2⟩, ⟨q0, q1, q2⟩, ⟨d0, d1, d2, f0, f1, f2⟩, HK0, HB0⟩ := HW.out _ (Below.refl _ _)
  clear hc
  go_enter Tryz.func58, Tryz.ntmps58
  go_wp2_with (first
    | (go_at_call 33; with_reducible refine Calls.mono (HF.out _ HB0.out) ?_; rintro e w2 ⟨rfl, hb2⟩; obtain ⟨⟨p0, p1, p2⟩, ⟨q0, q1, q2⟩, ⟨d0, d1, d2, f0, f1, f2⟩, HK2, HB2⟩ := HW.out _ hb2; clear hb2))
  exact ret_valg Tryz.results58 rfl HK2.out ⟨rfl, below_set3g HB2.out (Nat.le_succ_of_le (Nat.le_succ _)) _ _ _⟩

set_option maxHeartbeats 1000000 in
set_option maxRecDepth 10000 in
theorem un_stand (k n : Int) (t : ByteArray) (k2 n2 : Int) (t2 : ByteArray) (hk : (k == 0) = false) (hk2 : (k2 == 0) = false) (c1 c2 : Int) (c3 : ByteArray) (p3 pf pc : Nat) (w : World) (hc : w.cell? ⟨p3, 0, none⟩ = some (.func (.func 61) #[] #[.pointer (some ⟨pf, 0, none⟩), .pointer (some ⟨pc, 0, none⟩)]))
    (HF : Hid (∀ V, Below w.heap.size w V → Calls Tryz.prog 61 #[.agg #[.int .i64 k, .int .i64 n, .string t], .agg #[.int .i64 k2, .int .i64 n2, .string t2], .pointer (some ⟨pf, 0, none⟩), .pointer (some ⟨pc, 0, none⟩)] V fun e w' => e = .returned (val c1 c2 c3) ∧ Below V.heap.size V w')) :
    Calls Tryz.prog 58 #[val k n t, val k2 n2 t2, .pointer (some ⟨p3, 0, none⟩)] w fun e w' => e = .returned (val c1 c2 c3) ∧ Below w.heap.size w w' := by
  have HW : Hid (∀ V, _ → _) := pr2_later w k n t k2 n2 t2
  have hc3 := old_cell3 hc (vcells k n t) (vcells k2 n2 t2) nilcells
  obtain ⟨⟨p0, p1, p2⟩, ⟨q0, q1, q2⟩, ⟨d0, d1, d2, f0, f1, f2⟩, HK0, HB0⟩ := HW.out _ (Below.refl _ _)
  clear hc
  go_enter Tryz.func58, Tryz.ntmps58
  go_wp2_with (first
    | (go_at_call 61; with_reducible refine Calls.mono (HF.out _ HB0.out) ?_; rintro e w2 ⟨rfl, hb2⟩; obtain ⟨⟨p0, p1, p2⟩, ⟨q0, q1, q2⟩, ⟨d0, d1, d2, f0, f1, f2⟩, HK2, HB2⟩ := HW.out _ hb2; clear hb2))
  exact ret_valg Tryz.results58 rfl HK2.out ⟨rfl, below_set3g HB2.out (Nat.le_succ_of_le (Nat.le_succ _)) _ _ _⟩

set_option maxHeartbeats 1000000 in
set_option maxRecDepth 10000 in
theorem binary_un (op c : Int) (P : World → Nat → Prop) (k n : Int) (t : ByteArray) (k2 n2 : Int) (t2 : ByteArray) (hm1 : mayB k n t = true) (hm2 : mayB k2 n2 t2 = true) (c1 c2 : Int) (c3 : ByteArray)
    (HT : Hid (∀ V, Calls Tryz.prog 16 #[.int .i64 op, .int .i64 c] V fun e w' => ∃ p : Nat, e = .returned (.func (.func 58) #[] #[.pointer (some ⟨p, 0, none⟩)]) ∧ P w' p ∧ Below V.heap.size V w'))
    (HPb : Hid (∀ V W p, P V p → Below V.heap.size V W → P W p))
    (HC : Hid (∀ V p, Env V → P V p → Calls Tryz.prog 58 #[.agg #[.int .i64 k, .int .i64 n, .string t], .agg #[.int .i64 k2, .int .i64 n2, .string t2], .pointer (some ⟨p, 0, none⟩)] V fun e w' => e = .returned (val c1 c2 c3) ∧ Below V.heap.size V w')) (w : World) (hE : Env w) :
    Calls Tryz.prog 13 #[.int .i64 op, val k n t, val k2 n2 t2, .int .i64 c] w fun e w' => e = .returned (.tuple #[val c1 c2 c3, .int .i64 0]) ∧ Below w.heap.size w w' := by
  have HM1 : Hid (∀ V, Calls Tryz.prog 15 #[.agg #[.int .i64 k, .int .i64 n, .string t]] V fun e w' => e = .returned (.bool true) ∧ Below V.heap.size V w') := fun V => by have := may_walk k n t V; rw [hm1] at this; exact this
  have HM2 : Hid (∀ V, Calls Tryz.prog 15 #[.agg #[.int .i64 k2, .int .i64 n2, .string t2]] V fun e w' => e = .returned (.bool true) ∧ Below V.heap.size V w') := fun V => by have := may_walk k2 n2 t2 V; rw [hm2] at this; exact this
  have HW : Hid (∀ V, _ → _) := pr2_later w k n t k2 n2 t2
  have HE : Hid (∀ V, Below w.heap.size w V → Env V) := fun V h => hE.below h
  have hnf := fn2_nil
  clear hm1 hm2 hE
  go_enter Tryz.func13, Tryz.ntmps13
  go_wp2_with (first
    | (go_at_call 16; with_reducible refine Calls.mono (HT.out _) ?_; rintro e w1 ⟨p, rfl, hA1, hb1⟩; obtain ⟨⟨p0, p1, p2⟩, ⟨q0, q1, q2⟩, ⟨d0, d1, d2, f0, f1, f2⟩, HK1, HB1⟩ := HW.out _ hb1; have HX1 := hide hb1; have HA1 := hide hA1; clear hb1 hA1)
    | (go_at_call 15; with_reducible refine Calls.mono (HM1.out _) ?_; rintro e w2 ⟨rfl, hb2⟩; have HX2 := hide (below_trans HX1.out hb2); have HA2 := hide (HPb.out _ _ _ HA1.out hb2); obtain ⟨⟨p0, p1, p2⟩, ⟨q0, q1, q2⟩, ⟨d0, d1, d2, f0, f1, f2⟩, HK2, HB2⟩ := HW.out _ HX2.out; clear hb2)
    | (go_at_call 15; with_reducible refine Calls.mono (HM2.out _) ?_; rintro e w3 ⟨rfl, hb3⟩; have HX3 := hide (below_trans HX2.out hb3); have HA3 := hide (HPb.out _ _ _ HA2.out hb3); obtain ⟨⟨p0, p1, p2⟩, ⟨q0, q1, q2⟩, ⟨d0, d1, d2, f0, f1, f2⟩, HK3, HB3⟩ := HW.out _ HX3.out; clear hb3)
    | (go_at_call 58; with_reducible refine Calls.mono (HC.out _ _ (HE.out _ HB3.out) HA3.out) ?_; rintro e w4 ⟨rfl, hb4⟩; have HX4 := hide (below_trans HX3.out hb4); obtain ⟨⟨p0, p1, p2⟩, ⟨q0, q1, q2⟩, ⟨d0, d1, d2, f0, f1, f2⟩, HK4, HB4⟩ := HW.out _ HX4.out; clear hb4))
  exact ret_val2g Tryz.results13 rfl rfl HK4.out ⟨rfl, below_set3g HB4.out (Nat.le_succ_of_le (Nat.le_succ _)) _ _ _⟩

set_option maxHeartbeats 1000000 in
set_option maxRecDepth 10000 in
theorem binary_st (op c : Int) (P : World → Nat → Nat → Prop) (k n : Int) (t : ByteArray) (k2 n2 : Int) (t2 : ByteArray) (hm1 : mayB k n t = true) (hm2 : mayB k2 n2 t2 = true) (c1 c2 : Int) (c3 : ByteArray)
    (HT : Hid (∀ V, Calls Tryz.prog 16 #[.int .i64 op, .int .i64 c] V fun e w' => ∃ pf pc : Nat, e = .returned (.func (.func 61) #[] #[.pointer (some ⟨pf, 0, none⟩), .pointer (some ⟨pc, 0, none⟩)]) ∧ P w' pf pc ∧ Below V.heap.size V w'))
    (HPb : Hid (∀ V W pf pc, P V pf pc → Below V.heap.size V W → P W pf pc))
    (HC : Hid (∀ V pf pc, Env V → P V pf pc → Calls Tryz.prog 61 #[.agg #[.int .i64 k, .int .i64 n, .string t], .agg #[.int .i64 k2, .int .i64 n2, .string t2], .pointer (some ⟨pf, 0, none⟩), .pointer (some ⟨pc, 0, none⟩)] V fun e w' => e = .returned (val c1 c2 c3) ∧ Below V.heap.size V w')) (w : World) (hE : Env w) :
    Calls Tryz.prog 13 #[.int .i64 op, val k n t, val k2 n2 t2, .int .i64 c] w fun e w' => e = .returned (.tuple #[val c1 c2 c3, .int .i64 0]) ∧ Below w.heap.size w w' := by
  have HM1 : Hid (∀ V, Calls Tryz.prog 15 #[.agg #[.int .i64 k, .int .i64 n, .string t]] V fun e w' => e = .returned (.bool true) ∧ Below V.heap.size V w') := fun V => by have := may_walk k n t V; rw [hm1] at this; exact this
  have HM2 : Hid (∀ V, Calls Tryz.prog 15 #[.agg #[.int .i64 k2, .int .i64 n2, .string t2]] V fun e w' => e = .returned (.bool true) ∧ Below V.heap.size V w') := fun V => by have := may_walk k2 n2 t2 V; rw [hm2] at this; exact this
  have HW : Hid (∀ V, _ → _) := pr2_later w k n t k2 n2 t2
  have HE : Hid (∀ V, Below w.heap.size w V → Env V) := fun V h => hE.below h
  have hnf := fn2_nil
  clear hm1 hm2 hE
  go_enter Tryz.func13, Tryz.ntmps13
  go_wp2_with (first
    | (go_at_call 16; with_reducible refine Calls.mono (HT.out _) ?_; rintro e w1 ⟨pf, pc, rfl, hA1, hb1⟩; obtain ⟨⟨p0, p1, p2⟩, ⟨q0, q1, q2⟩, ⟨d0, d1, d2, f0, f1, f2⟩, HK1, HB1⟩ := HW.out _ hb1; have HX1 := hide hb1; have HA1 := hide hA1; clear hb1 hA1)
    | (go_at_call 15; with_reducible refine Calls.mono (HM1.out _) ?_; rintro e w2 ⟨rfl, hb2⟩; have HX2 := hide (below_trans HX1.out hb2); have HA2 := hide (HPb.out _ _ _ _ HA1.out hb2); obtain ⟨⟨p0, p1, p2⟩, ⟨q0, q1, q2⟩, ⟨d0, d1, d2, f0, f1, f2⟩, HK2, HB2⟩ := HW.out _ HX2.out; clear hb2)
    | (go_at_call 15; with_reducible refine Calls.mono (HM2.out _) ?_; rintro e w3 ⟨rfl, hb3⟩; have HX3 := hide (below_trans HX2.out hb3); have HA3 := hide (HPb.out _ _ _ _ HA2.out hb3); obtain ⟨⟨p0, p1, p2⟩, ⟨q0, q1, q2⟩, ⟨d0, d1, d2, f0, f1, f2⟩, HK3, HB3⟩ := HW.out _ HX3.out; clear hb3)
    | (go_at_call 61; with_reducible refine Calls.mono (HC.out _ _ _ (HE.out _ HB3.out) HA3.out) ?_; rintro e w4 ⟨rfl, hb4⟩; have HX4 := hide (below_trans HX3.out hb4); obtain ⟨⟨p0, p1, p2⟩, ⟨q0, q1, q2⟩, ⟨d0, d1, d2, f0, f1, f2⟩, HK4, HB4⟩ := HW.out _ HX4.out; clear hb4))
  exact ret_val2g Tryz.results13 rfl rfl HK4.out ⟨rfl, below_set3g HB4.out (Nat.le_succ_of_le (Nat.le_succ _)) _ _ _⟩

set_option maxHeartbeats 1000000 in
set_option maxRecDepth 10000 in
theorem binary_set (op c : Int) (P : World → Nat → Prop) (k n : Int) (t : ByteArray) (k2 n2 : Int) (t2 : ByteArray) (hm1 : mayB k n t = true) (hm2 : mayB k2 n2 t2 = true) (c1 c2 : Int) (c3 : ByteArray)
    (HT : Hid (∀ V, Calls Tryz.prog 16 #[.int .i64 op, .int .i64 c] V fun e w' => ∃ p : Nat, e = .returned (.func (.func 63) #[] #[.pointer (some ⟨p, 0, none⟩)]) ∧ P w' p ∧ Below V.heap.size V w'))
    (HPb : Hid (∀ V W p, P V p → Below V.heap.size V W → P W p))
    (HC : Hid (∀ V p, Env V → P V p → Calls Tryz.prog 63 #[.agg #[.int .i64 k, .int .i64 n, .string t], .agg #[.int .i64 k2, .int .i64 n2, .string t2], .pointer (some ⟨p, 0, none⟩)] V fun e w' => e = .returned (val c1 c2 c3) ∧ Below V.heap.size V w')) (w : World) (hE : Env w) :
    Calls Tryz.prog 13 #[.int .i64 op, val k n t, val k2 n2 t2, .int .i64 c] w fun e w' => e = .returned (.tuple #[val c1 c2 c3, .int .i64 0]) ∧ Below w.heap.size w w' := by
  have HM1 : Hid (∀ V, Calls Tryz.prog 15 #[.agg #[.int .i64 k, .int .i64 n, .string t]] V fun e w' => e = .returned (.bool true) ∧ Below V.heap.size V w') := fun V => by have := may_walk k n t V; rw [hm1] at this; exact this
  have HM2 : Hid (∀ V, Calls Tryz.prog 15 #[.agg #[.int .i64 k2, .int .i64 n2, .string t2]] V fun e w' => e = .returned (.bool true) ∧ Below V.heap.size V w') := fun V => by have := may_walk k2 n2 t2 V; rw [hm2] at this; exact this
  have HW : Hid (∀ V, _ → _) := pr2_later w k n t k2 n2 t2
  have HE : Hid (∀ V, Below w.heap.size w V → Env V) := fun V h => hE.below h
  have hnf := fn2_nil
  clear hm1 hm2 hE
  go_enter Tryz.func13, Tryz.ntmps13
  go_wp2_with (first
    | (go_at_call 16; with_reducible refine Calls.mono (HT.out _) ?_; rintro e w1 ⟨p, rfl, hA1, hb1⟩; obtain ⟨⟨p0, p1, p2⟩, ⟨q0, q1, q2⟩, ⟨d0, d1, d2, f0, f1, f2⟩, HK1, HB1⟩ := HW.out _ hb1; have HX1 := hide hb1; have HA1 := hide hA1; clear hb1 hA1)
    | (go_at_call 15; with_reducible refine Calls.mono (HM1.out _) ?_; rintro e w2 ⟨rfl, hb2⟩; have HX2 := hide (below_trans HX1.out hb2); have HA2 := hide (HPb.out _ _ _ HA1.out hb2); obtain ⟨⟨p0, p1, p2⟩, ⟨q0, q1, q2⟩, ⟨d0, d1, d2, f0, f1, f2⟩, HK2, HB2⟩ := HW.out _ HX2.out; clear hb2)
    | (go_at_call 15; with_reducible refine Calls.mono (HM2.out _) ?_; rintro e w3 ⟨rfl, hb3⟩; have HX3 := hide (below_trans HX2.out hb3); have HA3 := hide (HPb.out _ _ _ HA2.out hb3); obtain ⟨⟨p0, p1, p2⟩, ⟨q0, q1, q2⟩, ⟨d0, d1, d2, f0, f1, f2⟩, HK3, HB3⟩ := HW.out _ HX3.out; clear hb3)
    | (go_at_call 63; with_reducible refine Calls.mono (HC.out _ _ (HE.out _ HB3.out) HA3.out) ?_; rintro e w4 ⟨rfl, hb4⟩; have HX4 := hide (below_trans HX3.out hb4); obtain ⟨⟨p0, p1, p2⟩, ⟨q0, q1, q2⟩, ⟨d0, d1, d2, f0, f1, f2⟩, HK4, HB4⟩ := HW.out _ HX4.out; clear hb4))
  exact ret_val2g Tryz.results13 rfl rfl HK4.out ⟨rfl, below_set3g HB4.out (Nat.le_succ_of_le (Nat.le_succ _)) _ _ _⟩
end Go.Proofs.YtoekdeoekcmpgabGreatDoor
