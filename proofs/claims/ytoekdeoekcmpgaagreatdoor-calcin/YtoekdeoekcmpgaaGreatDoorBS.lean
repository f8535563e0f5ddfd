/- Package calc: Binary over texts, comparisons, logic. -/
/- Package calc: Binary where there is no such operator, or a value may not be. -/
import Derived.Test.YtoekdeoekcmpgaaGreatDoorBQ
namespace Go.Proofs.YtoekdeoekcmpgaaGreatDoor
open Go.ChangeShapes Go.WideShapes Go.ChangeAt Go.RowKit
set_option linter.unusedVariables false

set_option maxHeartbeats 1000000 in
set_option maxRecDepth 10000 in
theorem un_text (k n : Int) (t : ByteArray) (k2 n2 : Int) (t2 : ByteArray) (hk : (k == 0) = false) (hk2 : (k2 == 0) = false) (c1 c2 : Int) (c3 : ByteArray) (p3 : Nat) (w : World) (hc : w.cell? ⟨p3, 0, none⟩ = some (.func (.func 82) #[] #[]))
    (HF : Hid (∀ V, Below w.heap.size w V → Calls Tryz.prog 82 #[.agg #[.int .i64 k, .int .i64 n, .string t], .agg #[.int .i64 k2, .int .i64 n2, .string t2]] V fun e w' => e = .returned (val c1 c2 c3) ∧ Below V.heap.size V w')) :
    Calls Tryz.prog 112 #[val k n t, val k2 n2 t2, .pointer (some ⟨p3, 0, none⟩)] w fun e w' => e = .returned (val c1 c2 c3) ∧ Below w.heap.size w w' := by
  have HW : Hid (∀ V, _ → _) := pr2_later w k n t k2 n2 t2
  have hc3 := old_cell3 hc (vcells k n t) (vcells k2 n2 t2) nilcells
  obtain ⟨⟨p0, p1, p2⟩, ⟨q0, q1, q2⟩, ⟨d0, d1, d2, f0, f1, f2⟩, HK0, HB0⟩ := HW.out _ (Below.refl _ _)
  clear hc
  go_enter Tryz.func112, Tryz.ntmps112
  go_wp2_with (first
    | (go_at_call 82; with_reducible refine Calls.mono (HF.out _ HB0.out) ?_; rintro e w2 ⟨rfl, hb2⟩; obtain ⟨⟨p0, p1, p2⟩, ⟨q0, q1, q2⟩, ⟨d0, d1, d2, f0, f1, f2⟩, HK2, HB2⟩ := HW.out _ hb2; clear hb2))
  exact ret_valg Tryz.results112 rfl HK2.out ⟨rfl, below_set3g HB2.out (Nat.le_succ_of_le (Nat.le_succ _)) _ _ _⟩

set_option maxHeartbeats 1000000 in
set_option maxRecDepth 10000 in
theorem un_stand (k n : Int) (t : ByteArray) (k2 n2 : Int) (t2 : ByteArray) (hk : (k == 0) = false) (hk2 : (k2 == 0) = false) (c1 c2 : Int) (c3 : ByteArray) (p3 pf pc : Nat) (w : World) (hc : w.cell? ⟨p3, 0, none⟩ = some (.func (.func 114) #[] #[.pointer (some ⟨pf, 0, none⟩), .pointer (some ⟨pc, 0, none⟩)]))
    (HF : Hid (∀ V, Below w.heap.size w V → Calls Tryz.prog 114 #[.agg #[.int .i64 k, .int .i64 n, .string t], .agg #[.int .i64 k2, .int .i64 n2, .string t2], .pointer (some ⟨pf, 0, none⟩), .pointer (some ⟨pc, 0, none⟩)] V fun e w' => e = .returned (val c1 c2 c3) ∧ Below V.heap.size V w')) :
    Calls Tryz.prog 112 #[val k n t, val k2 n2 t2, .pointer (some ⟨p3, 0, none⟩)] w fun e w' => e = .returned (val c1 c2 c3) ∧ Below w.heap.size w w' := by
  have HW : Hid (∀ V, _ → _) := pr2_later w k n t k2 n2 t2
  have hc3 := old_cell3 hc (vcells k n t) (vcells k2 n2 t2) nilcells
  obtain ⟨⟨p0, p1, p2⟩, ⟨q0, q1, q2⟩, ⟨d0, d1, d2, f0, f1, f2⟩, HK0, HB0⟩ := HW.out _ (Below.refl _ _)
  clear hc
  go_enter Tryz.func112, Tryz.ntmps112
  go_wp2_with (first
    | (go_at_call 114; with_reducible refine Calls.mono (HF.out _ HB0.out) ?_; rintro e w2 ⟨rfl, hb2⟩; obtain ⟨⟨p0, p1, p2⟩, ⟨q0, q1, q2⟩, ⟨d0, d1, d2, f0, f1, f2⟩, HK2, HB2⟩ := HW.out _ hb2; clear hb2))
  exact ret_valg Tryz.results112 rfl HK2.out ⟨rfl, below_set3g HB2.out (Nat.le_succ_of_le (Nat.le_succ _)) _ _ _⟩

set_option maxHeartbeats 1000000 in
set_option maxRecDepth 10000 in
theorem binary_un (op c : Int) (P : World → Nat → Prop) (k n : Int) (t : ByteArray) (k2 n2 : Int) (t2 : ByteArray) (hm1 : mayB k n t = true) (hm2 : mayB k2 n2 t2 = true) (c1 c2 : Int) (c3 : ByteArray)
    (HT : Hid (∀ V, Calls Tryz.prog 46 #[.int .i64 op, .int .i64 c] V fun e w' => ∃ p : Nat, e = .returned (.func (.func 112) #[] #[.pointer (some ⟨p, 0, none⟩)]) ∧ P w' p ∧ Below V.heap.size V w'))
    (HPb : Hid (∀ V W p, P V p → Below V.heap.size V W → P W p))
    (HC : Hid (∀ V p, Env V → P V p → Calls Tryz.prog 112 #[.agg #[.int .i64 k, .int .i64 n, .string t], .agg #[.int .i64 k2, .int .i64 n2, .string t2], .pointer (some ⟨p, 0, none⟩)] V fun e w' => e = .returned (val c1 c2 c3) ∧ Below V.heap.size V w')) (w : World) (hE : Env w) :
    Calls Tryz.prog 18 #[.int .i64 op, val k n t, val k2 n2 t2, .int .i64 c] w fun e w' => e = .returned (.tuple #[val c1 c2 c3, .int .i64 0]) ∧ Below w.heap.size w w' := by
  have HM1 : Hid (∀ V, Calls Tryz.prog 32 #[.agg #[.int .i64 k, .int .i64 n, .string t]] V fun e w' => e = .returned (.bool true) ∧ Below V.heap.size V w') := fun V => by have := may_walk k n t V; rw [hm1] at this; exact this
  have HM2 : Hid (∀ V, Calls Tryz.prog 32 #[.agg #[.int .i64 k2, .int .i64 n2, .string t2]] V fun e w' => e = .returned (.bool true) ∧ Below V.heap.size V w') := fun V => by have := may_walk k2 n2 t2 V; rw [hm2] at this; exact this
  have HW : Hid (∀ V, _ → _) := pr2_later w k n t k2 n2 t2
  have HE : Hid (∀ V, Below w.heap.size w V → Env V) := fun V h => hE.below h
  have hnf := fn2_nil
  clear hm1 hm2 hE
  go_enter Tryz.func18, Tryz.ntmps18
  go_wp2_with (first
    | (go_at_call 46; with_reducible refine Calls.mono (HT.out _) ?_; rintro e w1 ⟨p, rfl, hA1, hb1⟩; obtain ⟨⟨p0, p1, p2⟩, ⟨q0, q1, q2⟩, ⟨d0, d1, d2, f0, f1, f2⟩, HK1, HB1⟩ := HW.out _ hb1; have HX1 := hide hb1; have HA1 := hide hA1; clear hb1 hA1)
    | (go_at_call 32; with_reducible refine Calls.mono (HM1.out _) ?_; rintro e w2 ⟨rfl, hb2⟩; have HX2 := hide (below_trans HX1.out hb2); have HA2 := hide (HPb.out _ _ _ HA1.out hb2); obtain ⟨⟨p0, p1, p2⟩, ⟨q0, q1, q2⟩, ⟨d0, d1, d2, f0, f1, f2⟩, HK2, HB2⟩ := HW.out _ HX2.out; clear hb2)
    | (go_at_call 32; with_reducible refine Calls.mono (HM2.out _) ?_; rintro e w3 ⟨rfl, hb3⟩; have HX3 := hide (below_trans HX2.out hb3); have HA3 := hide (HPb.out _ _ _ HA2.out hb3); obtain ⟨⟨p0, p1, p2⟩, ⟨q0, q1, q2⟩, ⟨d0, d1, d2, f0, f1, f2⟩, HK3, HB3⟩ := HW.out _ HX3.out; clear hb3)
    | (go_at_call 112; with_reducible refine Calls.mono (HC.out _ _ (HE.out _ HB3.out) HA3.out) ?_; rintro e w4 ⟨rfl, hb4⟩; have HX4 := hide (below_trans HX3.out hb4); obtain ⟨⟨p0, p1, p2⟩, ⟨q0, q1, q2⟩, ⟨d0, d1, d2, f0, f1, f2⟩, HK4, HB4⟩ := HW.out _ HX4.out; clear hb4))
  exact ret_val2g Tryz.results18 rfl rfl HK4.out ⟨rfl, below_set3g HB4.out (Nat.le_succ_of_le (Nat.le_succ _)) _ _ _⟩

set_option maxHeartbeats 1000000 in
set_option maxRecDepth 10000 in
theorem binary_st (op c : Int) (P : World → Nat → Nat → Prop) (k n : Int) (t : ByteArray) (k2 n2 : Int) (t2 : ByteArray) (hm1 : mayB k n t = true) (hm2 : mayB k2 n2 t2 = true) (c1 c2 : Int) (c3 : ByteArray)
    (HT : Hid (∀ V, Calls Tryz.prog 46 #[.int .i64 op, .int .i64 c] V fun e w' => ∃ pf pc : Nat, e = .returned (.func (.func 114) #[] #[.pointer (some ⟨pf, 0, none⟩), .pointer (some ⟨pc, 0, none⟩)]) ∧ P w' pf pc ∧ Below V.heap.size V w'))
    (HPb : Hid (∀ V W pf pc, P V pf pc → Below V.heap.size V W → P W pf pc))
    (HC : Hid (∀ V pf pc, Env V → P V pf pc → Calls Tryz.prog 114 #[.agg #[.int .i64 k, .int .i64 n, .string t], .agg #[.int .i64 k2, .int .i64 n2, .string t2], .pointer (some ⟨pf, 0, none⟩), .pointer (some ⟨pc, 0, none⟩)] V fun e w' => e = .returned (val c1 c2 c3) ∧ Below V.heap.size V w')) (w : World) (hE : Env w) :
    Calls Tryz.prog 18 #[.int .i64 op, val k n t, val k2 n2 t2, .int .i64 c] w fun e w' => e = .returned (.tuple #[val c1 c2 c3, .int .i64 0]) ∧ Below w.heap.size w w' := by
  have HM1 : Hid (∀ V, Calls Tryz.prog 32 #[.agg #[.int .i64 k, .int .i64 n, .string t]] V fun e w' => e = .returned (.bool true) ∧ Below V.heap.size V w') := fun V => by have := may_walk k n t V; rw [hm1] at this; exact this
  have HM2 : Hid (∀ V, Calls Tryz.prog 32 #[.agg #[.int .i64 k2, .int .i64 n2, .string t2]] V fun e w' => e = .returned (.bool true) ∧ Below V.heap.size V w') := fun V => by have := may_walk k2 n2 t2 V; rw [hm2] at this; exact this
  have HW : Hid (∀ V, _ → _) := pr2_later w k n t k2 n2 t2
  have HE : Hid (∀ V, Below w.heap.size w V → Env V) := fun V h => hE.below h
  have hnf := fn2_nil
  clear hm1 hm2 hE
  go_enter Tryz.func18, Tryz.ntmps18
  go_wp2_with (first
    | (go_at_call 46; with_reducible refine Calls.mono (HT.out _) ?_; rintro e w1 ⟨pf, pc, rfl, hA1, hb1⟩; obtain ⟨⟨p0, p1, p2⟩, ⟨q0, q1, q2⟩, ⟨d0, d1, d2, f0, f1, f2⟩, HK1, HB1⟩ := HW.out _ hb1; have HX1 := hide hb1; have HA1 := hide hA1; clear hb1 hA1)
    | (go_at_call 32; with_reducible refine Calls.mono (HM1.out _) ?_; rintro e w2 ⟨rfl, hb2⟩; have HX2 := hide (below_trans HX1.out hb2); have HA2 := hide (HPb.out _ _ _ _ HA1.out hb2); obtain ⟨⟨p0, p1, p2⟩, ⟨q0, q1, q2⟩, ⟨d0, d1, d2, f0, f1, f2⟩, HK2, HB2⟩ := HW.out _ HX2.out; clear hb2)
    | (go_at_call 32; with_reducible refine Calls.mono (HM2.out _) ?_; rintro e w3 ⟨rfl, hb3⟩; have HX3 := hide (below_trans HX2.out hb3); have HA3 := hide (HPb.out _ _ _ _ HA2.out hb3); obtain ⟨⟨p0, p1, p2⟩, ⟨q0, q1, q2⟩, ⟨d0, d1, d2, f0, f1, f2⟩, HK3, HB3⟩ := HW.out _ HX3.out; clear hb3)
    | (go_at_call 114; with_reducible refine Calls.mono (HC.out _ _ _ (HE.out _ HB3.out) HA3.out) ?_; rintro e w4 ⟨rfl, hb4⟩; have HX4 := hide (below_trans HX3.out hb4); obtain ⟨⟨p0, p1, p2⟩, ⟨q0, q1, q2⟩, ⟨d0, d1, d2, f0, f1, f2⟩, HK4, HB4⟩ := HW.out _ HX4.out; clear hb4))
  exact ret_val2g Tryz.results18 rfl rfl HK4.out ⟨rfl, below_set3g HB4.out (Nat.le_succ_of_le (Nat.le_succ _)) _ _ _⟩

set_option maxHeartbeats 1000000 in
set_option maxRecDepth 10000 in
theorem binary_set (op c : Int) (P : World → Nat → Prop) (k n : Int) (t : ByteArray) (k2 n2 : Int) (t2 : ByteArray) (hm1 : mayB k n t = true) (hm2 : mayB k2 n2 t2 = true) (c1 c2 : Int) (c3 : ByteArray)
    (HT : Hid (∀ V, Calls Tryz.prog 46 #[.int .i64 op, .int .i64 c] V fun e w' => ∃ p : Nat, e = .returned (.func (.func 116) #[] #[.pointer (some ⟨p, 0, none⟩)]) ∧ P w' p ∧ Below V.heap.size V w'))
    (HPb : Hid (∀ V W p, P V p → Below V.heap.size V W → P W p))
    (HC : Hid (∀ V p, Env V → P V p → Calls Tryz.prog 116 #[.agg #[.int .i64 k, .int .i64 n, .string t], .agg #[.int .i64 k2, .int .i64 n2, .string t2], .pointer (some ⟨p, 0, none⟩)] V fun e w' => e = .returned (val c1 c2 c3) ∧ Below V.heap.size V w')) (w : World) (hE : Env w) :
    Calls Tryz.prog 18 #[.int .i64 op, val k n t, val k2 n2 t2, .int .i64 c] w fun e w' => e = .returned (.tuple #[val c1 c2 c3, .int .i64 0]) ∧ Below w.heap.size w w' := by
  have HM1 : Hid (∀ V, Calls Tryz.prog 32 #[.agg #[.int .i64 k, .int .i64 n, .string t]] V fun e w' => e = .returned (.bool true) ∧ Below V.heap.size V w') := fun V => by have := may_walk k n t V; rw [hm1] at this; exact this
  have HM2 : Hid (∀ V, Calls Tryz.prog 32 #[.agg #[.int .i64 k2, .int .i64 n2, .string t2]] V fun e w' => e = .returned (.bool true) ∧ Below V.heap.size V w') := fun V => by have := may_walk k2 n2 t2 V; rw [hm2] at this; exact this
  have HW : Hid (∀ V, _ → _) := pr2_later w k n t k2 n2 t2
  have HE : Hid (∀ V, Below w.heap.size w V → Env V) := fun V h => hE.below h
  have hnf := fn2_nil
  clear hm1 hm2 hE
  go_enter Tryz.func18, Tryz.ntmps18
  go_wp2_with (first
    | (go_at_call 46; with_reducible refine Calls.mono (HT.out _) ?_; rintro e w1 ⟨p, rfl, hA1, hb1⟩; obtain ⟨⟨p0, p1, p2⟩, ⟨q0, q1, q2⟩, ⟨d0, d1, d2, f0, f1, f2⟩, HK1, HB1⟩ := HW.out _ hb1; have HX1 := hide hb1; have HA1 := hide hA1; clear hb1 hA1)
    | (go_at_call 32; with_reducible refine Calls.mono (HM1.out _) ?_; rintro e w2 ⟨rfl, hb2⟩; have HX2 := hide (below_trans HX1.out hb2); have HA2 := hide (HPb.out _ _ _ HA1.out hb2); obtain ⟨⟨p0, p1, p2⟩, ⟨q0, q1, q2⟩, ⟨d0, d1, d2, f0, f1, f2⟩, HK2, HB2⟩ := HW.out _ HX2.out; clear hb2)
    | (go_at_call 32; with_reducible refine Calls.mono (HM2.out _) ?_; rintro e w3 ⟨rfl, hb3⟩; have HX3 := hide (below_trans HX2.out hb3); have HA3 := hide (HPb.out _ _ _ HA2.out hb3); obtain ⟨⟨p0, p1, p2⟩, ⟨q0, q1, q2⟩, ⟨d0, d1, d2, f0, f1, f2⟩, HK3, HB3⟩ := HW.out _ HX3.out; clear hb3)
    | (go_at_call 116; with_reducible refine Calls.mono (HC.out _ _ (HE.out _ HB3.out) HA3.out) ?_; rintro e w4 ⟨rfl, hb4⟩; have HX4 := hide (below_trans HX3.out hb4); obtain ⟨⟨p0, p1, p2⟩, ⟨q0, q1, q2⟩, ⟨d0, d1, d2, f0, f1, f2⟩, HK4, HB4⟩ := HW.out _ HX4.out; clear hb4))
  exact ret_val2g Tryz.results18 rfl rfl HK4.out ⟨rfl, below_set3g HB4.out (Nat.le_succ_of_le (Nat.le_succ _)) _ _ _⟩
end Go.Proofs.YtoekdeoekcmpgaaGreatDoor

namespace Go.Proofs.YtoekdeoekcmpgaaGreatDoor
open Go.ChangeShapes Go.WideShapes Go.ChangeAt Go.RowKit
set_option linter.unusedVariables false

set_option maxHeartbeats 1000000 in
set_option maxRecDepth 10000 in
theorem ofTwo_no (op c : Int) (h : op < 7 ∨ 22 < op) (w : World) : Calls Tryz.prog 46 #[.int .i64 op, .int .i64 c] w fun e w' => e = .returned .nilFunc ∧ w = w' := by
  have h7 : (op == 7) = false := by simp; omega
  have h8 : (op == 8) = false := by simp; omega
  have h9 : (op == 9) = false := by simp; omega
  have h10 : (op == 10) = false := by simp; omega
  have h11 : (op == 11) = false := by simp; omega
  have h12 : (op == 12) = false := by simp; omega
  have h13 : (op == 13) = false := by simp; omega
  have h14 : (op == 14) = false := by simp; omega
  have h15 : (op == 15) = false := by simp; omega
  have h16 : (op == 16) = false := by simp; omega
  have h17 : (op == 17) = false := by simp; omega
  have h18 : (op == 18) = false := by simp; omega
  have h19 : (op == 19) = false := by simp; omega
  have h20 : (op == 20) = false := by simp; omega
  have h21 : (op == 21) = false := by simp; omega
  have h22 : (op == 22) = false := by simp; omega
  clear h
  go_enter Tryz.func46, Tryz.ntmps46
  go_wp2
  go_ret
  exact ⟨rfl, rfl⟩

set_option maxHeartbeats 1000000 in
theorem binary_no (op c : Int) (h : op < 7 ∨ 22 < op) (k n : Int) (t : ByteArray) (k2 n2 : Int) (t2 : ByteArray) (w : World) : Calls Tryz.prog 18 #[.int .i64 op, val k n t, val k2 n2 t2, .int .i64 c] w fun e w' => e = .returned (.tuple #[val 0 0 ⟨#[]⟩, .int .i64 130]) ∧ Below w.heap.size w w' := by
  have hnf := nil2_nil
  have HN := hide (ofTwo_no op c h)
  obtain ⟨⟨p0, p1, p2⟩, ⟨q0, q1, q2⟩, ⟨d0, d1, d2, f0, f1, f2⟩, HK1, HB1⟩ := pr2_later w k n t k2 n2 t2 _ (Below.refl _ _)
  clear h
  go_enter Tryz.func18, Tryz.ntmps18
  go_wp2_with (first
    | (go_at_call 46; with_reducible refine Calls.mono (HN.out _) ?_; rintro e w1 ⟨rfl, rfl⟩))
  exact ret_same2g Tryz.results18 rfl rfl HK1.out ⟨rfl, HB1.out⟩

abbrev SomeFn (w : World) (e : Ending) (w' : World) : Prop := ∃ (fn : Fn) (a b : Array Value), e = .returned (.func fn a b) ∧ Below w.heap.size w w'

theorem ofTwo_some (op c : Int) (h0 : 7 ≤ op) (h1 : op ≤ 22) (w : World) : Calls Tryz.prog 46 #[.int .i64 op, .int .i64 c] w (SomeFn w) := by
  have h : op = 7 ∨ op = 8 ∨ op = 9 ∨ op = 10 ∨ op = 11 ∨ op = 12 ∨ op = 13 ∨ op = 14 ∨ op = 15 ∨ op = 16 ∨ op = 17 ∨ op = 18 ∨ op = 19 ∨ op = 20 ∨ op = 21 ∨ op = 22 := by omega
  rcases h with rfl | rfl | rfl | rfl | rfl | rfl | rfl | rfl | rfl | rfl | rfl | rfl | rfl | rfl | rfl | rfl
  · exact Calls.mono (ofTwo_add c w) (fun e w' ⟨p, h, _, hb⟩ => ⟨_, _, _, h, hb⟩)
  · exact Calls.mono (ofTwo_sub c w) (fun e w' ⟨p, h, _, hb⟩ => ⟨_, _, _, h, hb⟩)
  · exact Calls.mono (ofTwo_mul c w) (fun e w' ⟨p, h, _, hb⟩ => ⟨_, _, _, h, hb⟩)
  · exact Calls.mono (ofTwo_div c w) (fun e w' ⟨p, h, _, hb⟩ => ⟨_, _, _, h, hb⟩)
  · exact Calls.mono (ofTwo_rem c w) (fun e w' ⟨p, h, _, hb⟩ => ⟨_, _, _, h, hb⟩)
  · exact Calls.mono (ofTwo_concat c w) (fun e w' ⟨p, h, _, hb⟩ => ⟨_, _, _, h, hb⟩)
  · exact Calls.mono (ofTwo_eq c w) (fun e w' ⟨p, v, h, _, _, hb⟩ => ⟨_, _, _, h, hb⟩)
  · exact Calls.mono (ofTwo_ne c w) (fun e w' ⟨p, v, h, _, _, hb⟩ => ⟨_, _, _, h, hb⟩)
  · exact Calls.mono (ofTwo_lt c w) (fun e w' ⟨p, v, h, _, _, hb⟩ => ⟨_, _, _, h, hb⟩)
  · exact Calls.mono (ofTwo_le c w) (fun e w' ⟨p, v, h, _, _, hb⟩ => ⟨_, _, _, h, hb⟩)
  · exact Calls.mono (ofTwo_gt c w) (fun e w' ⟨p, v, h, _, _, hb⟩ => ⟨_, _, _, h, hb⟩)
  · exact Calls.mono (ofTwo_ge c w) (fun e w' ⟨p, v, h, _, _, hb⟩ => ⟨_, _, _, h, hb⟩)
  · exact Calls.mono (ofTwo_is c w) (fun e w' ⟨v, h, ⟨pf, pc, hv, _⟩, hb⟩ => ⟨_, _, _, h.trans (congrArg _ hv), hb⟩)
  · exact Calls.mono (ofTwo_isnot c w) (fun e w' ⟨v, h, ⟨pf, pc, hv, _⟩, hb⟩ => ⟨_, _, _, h.trans (congrArg _ hv), hb⟩)
  · exact Calls.mono (ofTwo_and c w) (fun e w' ⟨p, h, _, hb⟩ => ⟨_, _, _, h, hb⟩)
  · exact Calls.mono (ofTwo_or c w) (fun e w' ⟨p, h, _, hb⟩ => ⟨_, _, _, h, hb⟩)

set_option maxHeartbeats 1000000 in
set_option maxRecDepth 10000 in
theorem binary_bad1 (op c : Int) (h0 : 7 ≤ op) (h1 : op ≤ 22) (k n : Int) (t : ByteArray) (k2 n2 : Int) (t2 : ByteArray) (hm1 : mayB k n t = false) (w : World) : Calls Tryz.prog 18 #[.int .i64 op, val k n t, val k2 n2 t2, .int .i64 c] w fun e w' => e = .returned (.tuple #[val 0 0 ⟨#[]⟩, .int .i64 2]) ∧ Below w.heap.size w w' := by
  have HT : Hid (∀ V, Calls Tryz.prog 46 #[.int .i64 op, .int .i64 c] V fun e w' => ∃ (fn : Fn) (a b : Array Value), e = .returned (.func fn a b) ∧ Below V.heap.size V w') := fun V => ofTwo_some op c h0 h1 V
  have HM1 : Hid (∀ V, Calls Tryz.prog 32 #[.agg #[.int .i64 k, .int .i64 n, .string t]] V fun e w' => e = .returned (.bool false) ∧ Below V.heap.size V w') := fun V => by have := may_walk k n t V; rw [hm1] at this; exact this
  have HW : Hid (∀ V, _ → _) := pr2_later w k n t k2 n2 t2
  have hnf := fn2_nil
  clear hm1 h0 h1
  go_enter Tryz.func18, Tryz.ntmps18
  go_wp2_with (first
    | (go_at_call 46; with_reducible refine Calls.mono (HT.out _) ?_; rintro e w1 ⟨fn, fa, fb, rfl, hb1⟩; obtain ⟨⟨p0, p1, p2⟩, ⟨q0, q1, q2⟩, ⟨d0, d1, d2, f0, f1, f2⟩, HK1, HB1⟩ := HW.out _ hb1; have HX1 := hide hb1; clear hb1)
    | (go_at_call 32; with_reducible refine Calls.mono (HM1.out _) ?_; rintro e w2 ⟨rfl, hb2⟩; have HX2 := hide (below_trans HX1.out hb2); obtain ⟨⟨p0, p1, p2⟩, ⟨q0, q1, q2⟩, ⟨d0, d1, d2, f0, f1, f2⟩, HK2, HB2⟩ := HW.out _ HX2.out; clear hb2))
  exact ret_val2g Tryz.results18 rfl rfl HK2.out ⟨rfl, below_set3g HB2.out (Nat.le_succ_of_le (Nat.le_succ _)) _ _ _⟩

set_option maxHeartbeats 1000000 in
set_option maxRecDepth 10000 in
theorem binary_bad2 (op c : Int) (h0 : 7 ≤ op) (h1 : op ≤ 22) (k n : Int) (t : ByteArray) (k2 n2 : Int) (t2 : ByteArray) (hm1 : mayB k n t = true) (hm2 : mayB k2 n2 t2 = false) (w : World) : Calls Tryz.prog 18 #[.int .i64 op, val k n t, val k2 n2 t2, .int .i64 c] w fun e w' => e = .returned (.tuple #[val 0 0 ⟨#[]⟩, .int .i64 2]) ∧ Below w.heap.size w w' := by
  have HT : Hid (∀ V, Calls Tryz.prog 46 #[.int .i64 op, .int .i64 c] V fun e w' => ∃ (fn : Fn) (a b : Array Value), e = .returned (.func fn a b) ∧ Below V.heap.size V w') := fun V => ofTwo_some op c h0 h1 V
  have HM1 : Hid (∀ V, Calls Tryz.prog 32 #[.agg #[.int .i64 k, .int .i64 n, .string t]] V fun e w' => e = .returned (.bool true) ∧ Below V.heap.size V w') := fun V => by have := may_walk k n t V; rw [hm1] at this; exact this
  have HM2 : Hid (∀ V, Calls Tryz.prog 32 #[.agg #[.int .i64 k2, .int .i64 n2, .string t2]] V fun e w' => e = .returned (.bool false) ∧ Below V.heap.size V w') := fun V => by have := may_walk k2 n2 t2 V; rw [hm2] at this; exact this
  have HW : Hid (∀ V, _ → _) := pr2_later w k n t k2 n2 t2
  have hnf := fn2_nil
  clear hm1 h0 h1 hm2
  go_enter Tryz.func18, Tryz.ntmps18
  go_wp2_with (first
    | (go_at_call 46; with_reducible refine Calls.mono (HT.out _) ?_; rintro e w1 ⟨fn, fa, fb, rfl, hb1⟩; obtain ⟨⟨p0, p1, p2⟩, ⟨q0, q1, q2⟩, ⟨d0, d1, d2, f0, f1, f2⟩, HK1, HB1⟩ := HW.out _ hb1; have HX1 := hide hb1; clear hb1)
    | (go_at_call 32; with_reducible refine Calls.mono (HM1.out _) ?_; rintro e w2 ⟨rfl, hb2⟩; have HX2 := hide (below_trans HX1.out hb2); obtain ⟨⟨p0, p1, p2⟩, ⟨q0, q1, q2⟩, ⟨d0, d1, d2, f0, f1, f2⟩, HK2, HB2⟩ := HW.out _ HX2.out; clear hb2)
    | (go_at_call 32; with_reducible refine Calls.mono (HM2.out _) ?_; rintro e w3 ⟨rfl, hb3⟩; have HX3 := hide (below_trans HX2.out hb3); obtain ⟨⟨p0, p1, p2⟩, ⟨q0, q1, q2⟩, ⟨d0, d1, d2, f0, f1, f2⟩, HK3, HB3⟩ := HW.out _ HX3.out; clear hb3))
  exact ret_val2g Tryz.results18 rfl rfl HK3.out ⟨rfl, below_set3g HB3.out (Nat.le_succ_of_le (Nat.le_succ _)) _ _ _⟩
end Go.Proofs.YtoekdeoekcmpgaaGreatDoor
