/- Package calc: the closures of texts, comparisons and logic. -/
import Derived.Test.YtoekdeoekcmpgaaGreatDoorKAD
import Derived.Test.YtoekdeoekcmpgaaGreatDoorVC2
import Derived.Test.YtoekdeoekcmpgaaGreatDoorKT
import Derived.Laws.Concat
namespace Go.Proofs.YtoekdeoekcmpgaaGreatDoor
open Go.ChangeShapes Go.WideShapes Go.ChangeAt Go.RowKit
set_option linter.unusedVariables false

set_option maxHeartbeats 1000000 in
set_option maxRecDepth 10000 in
theorem concat_walk (k n : Int) (t : ByteArray) (k2 n2 : Int) (t2 : ByteArray) (h0 : -9223372036854775808 ≤ n) (h1 : n ≤ 9223372036854775807) (g0 : -9223372036854775808 ≤ n2) (g1 : n2 ≤ 9223372036854775807) (hm1 : mayB k n t = true) (hm2 : mayB k2 n2 t2 = true) (hk1 : k ≠ 0) (hk2 : k2 ≠ 0) (w : World) (hE : Env w) :
    Calls Tryz.prog 82 #[val k n t, val k2 n2 t2] w fun e w' => e = .returned (textV (showT k n t ++ showT k2 n2 t2)) ∧ Below w.heap.size w w' := by
  have HW : Hid (∀ V, _ → _) := pr2_later w k n t k2 n2 t2
  have HG : Hid (∀ V, Below (((w.alloc (vcells k n t)).alloc (vcells k2 n2 t2)).alloc nilcells).heap.size (((w.alloc (vcells k n t)).alloc (vcells k2 n2 t2)).alloc nilcells) V → Below (w.heap.size + 1 + 1) (((w.alloc (vcells k n t)).alloc (vcells k2 n2 t2)).alloc nilcells) V) := fun V h => h.mono (by simp)
  have HSS : Hid (∀ V, Below (w.heap.size + 1 + 1) (((w.alloc (vcells k n t)).alloc (vcells k2 n2 t2)).alloc nilcells) V → (V.cell? ⟨w.heap.size, 0, none⟩ = some (.int .i64 k) ∧ V.cell? ⟨w.heap.size, 1, none⟩ = some (.int .i64 n) ∧ V.cell? ⟨w.heap.size, 2, none⟩ = some (.string t)) ∧ (V.cell? ⟨w.heap.size + 1, 0, none⟩ = some (.int .i64 k2) ∧ V.cell? ⟨w.heap.size + 1, 1, none⟩ = some (.int .i64 n2) ∧ V.cell? ⟨w.heap.size + 1, 2, none⟩ = some (.string t2))) := fun V h => by
    obtain ⟨⟨p0, p1, p2⟩, ⟨q0, q1, q2⟩, _⟩ := pr2_later w k n t k2 n2 t2 _ (Below.refl _ _)
    exact ⟨⟨(h.cell (by show w.heap.size < _; omega)).trans p0, (h.cell (by show w.heap.size < _; omega)).trans p1, (h.cell (by show w.heap.size < _; omega)).trans p2⟩, ⟨(h.cell (by show w.heap.size + 1 < _; omega)).trans q0, (h.cell (by show w.heap.size + 1 < _; omega)).trans q1, (h.cell (by show w.heap.size + 1 < _; omega)).trans q2⟩⟩
  have HD : Hid (∀ V, Below (((w.alloc (vcells k n t)).alloc (vcells k2 n2 t2)).alloc nilcells).drew.heap.size (((w.alloc (vcells k n t)).alloc (vcells k2 n2 t2)).alloc nilcells).drew V → Below (((w.alloc (vcells k n t)).alloc (vcells k2 n2 t2)).alloc nilcells).heap.size (((w.alloc (vcells k n t)).alloc (vcells k2 n2 t2)).alloc nilcells) V) := fun V h => below_trans (Below.refl _ _).drew h
  have HS0 : Hid (((((w.alloc (vcells k n t)).alloc (vcells k2 n2 t2)).alloc nilcells).drew.cell? ⟨w.heap.size, 0, none⟩ = some (.int .i64 k) ∧ (((w.alloc (vcells k n t)).alloc (vcells k2 n2 t2)).alloc nilcells).drew.cell? ⟨w.heap.size, 1, none⟩ = some (.int .i64 n) ∧ (((w.alloc (vcells k n t)).alloc (vcells k2 n2 t2)).alloc nilcells).drew.cell? ⟨w.heap.size, 2, none⟩ = some (.string t)) ∧ ((((w.alloc (vcells k n t)).alloc (vcells k2 n2 t2)).alloc nilcells).drew.cell? ⟨w.heap.size + 1, 0, none⟩ = some (.int .i64 k2) ∧ (((w.alloc (vcells k n t)).alloc (vcells k2 n2 t2)).alloc nilcells).drew.cell? ⟨w.heap.size + 1, 1, none⟩ = some (.int .i64 n2) ∧ (((w.alloc (vcells k n t)).alloc (vcells k2 n2 t2)).alloc nilcells).drew.cell? ⟨w.heap.size + 1, 2, none⟩ = some (.string t2))) := HSS.out _ (HG.out _ (HD.out _ (Below.refl _ _)))
  have HS1 : Hid (∀ V, Below (((w.alloc (vcells k n t)).alloc (vcells k2 n2 t2)).alloc nilcells).heap.size (((w.alloc (vcells k n t)).alloc (vcells k2 n2 t2)).alloc nilcells) V → (V.cell? ⟨w.heap.size, 0, none⟩ = some (.int .i64 k) ∧ V.cell? ⟨w.heap.size, 1, none⟩ = some (.int .i64 n) ∧ V.cell? ⟨w.heap.size, 2, none⟩ = some (.string t)) ∧ (V.cell? ⟨w.heap.size + 1, 0, none⟩ = some (.int .i64 k2) ∧ V.cell? ⟨w.heap.size + 1, 1, none⟩ = some (.int .i64 n2) ∧ V.cell? ⟨w.heap.size + 1, 2, none⟩ = some (.string t2))) := fun V h => HSS.out _ (HG.out _ h)
  have HS3 : Hid (∀ V za zb zc, Below (((w.alloc (vcells k n t)).alloc (vcells k2 n2 t2)).alloc nilcells).heap.size (((w.alloc (vcells k n t)).alloc (vcells k2 n2 t2)).alloc nilcells) V → ((((V.setCell ⟨w.heap.size + 1 + 1, 0, none⟩ za).setCell ⟨w.heap.size + 1 + 1, 1, none⟩ zb).setCell ⟨w.heap.size + 1 + 1, 2, none⟩ zc).cell? ⟨w.heap.size, 0, none⟩ = some (.int .i64 k) ∧ (((V.setCell ⟨w.heap.size + 1 + 1, 0, none⟩ za).setCell ⟨w.heap.size + 1 + 1, 1, none⟩ zb).setCell ⟨w.heap.size + 1 + 1, 2, none⟩ zc).cell? ⟨w.heap.size, 1, none⟩ = some (.int .i64 n) ∧ (((V.setCell ⟨w.heap.size + 1 + 1, 0, none⟩ za).setCell ⟨w.heap.size + 1 + 1, 1, none⟩ zb).setCell ⟨w.heap.size + 1 + 1, 2, none⟩ zc).cell? ⟨w.heap.size, 2, none⟩ = some (.string t)) ∧ ((((V.setCell ⟨w.heap.size + 1 + 1, 0, none⟩ za).setCell ⟨w.heap.size + 1 + 1, 1, none⟩ zb).setCell ⟨w.heap.size + 1 + 1, 2, none⟩ zc).cell? ⟨w.heap.size + 1, 0, none⟩ = some (.int .i64 k2) ∧ (((V.setCell ⟨w.heap.size + 1 + 1, 0, none⟩ za).setCell ⟨w.heap.size + 1 + 1, 1, none⟩ zb).setCell ⟨w.heap.size + 1 + 1, 2, none⟩ zc).cell? ⟨w.heap.size + 1, 1, none⟩ = some (.int .i64 n2) ∧ (((V.setCell ⟨w.heap.size + 1 + 1, 0, none⟩ za).setCell ⟨w.heap.size + 1 + 1, 1, none⟩ zb).setCell ⟨w.heap.size + 1 + 1, 2, none⟩ zc).cell? ⟨w.heap.size + 1, 2, none⟩ = some (.string t2))) := fun V za zb zc h => HSS.out _ (Below.setCell (Below.setCell (Below.setCell (HG.out _ h) (Nat.le_refl _) _) (Nat.le_refl _) _) (Nat.le_refl _) _)
  have HBd : Hid (Below w.heap.size w (((w.alloc (vcells k n t)).alloc (vcells k2 n2 t2)).alloc nilcells).drew) := (pr2_later w k n t k2 n2 t2 _ (Below.refl _ _)).2.2.2.2.drew
  obtain ⟨ha1, ha2⟩ := show_some h0 h1 hm1 hk1
  obtain ⟨hb1, hb2⟩ := show_some g0 g1 hm2 hk2
  obtain ⟨T1, hT1⟩ : ∃ T, showT k n t = T := ⟨_, rfl⟩
  obtain ⟨T2, hT2⟩ : ∃ T, showT k2 n2 t2 = T := ⟨_, rfl⟩
  rw [hT1] at ha1 ha2 ⊢
  rw [hT2] at hb1 hb2 ⊢
  have HA : Hid (∀ V, Env V → Calls Tryz.prog 14 #[.agg #[.int .i64 k, .int .i64 n, .string t]] V fun e w' => e = .returned (.agg #[.int .i64 2, .int .i64 0, .string T1]) ∧ Below V.heap.size V w') := fun V hV => by have := show_walk k n t h0 h1 V hV; rw [ha1] at this; exact this
  have HBs : Hid (∀ V, Env V → Calls Tryz.prog 14 #[.agg #[.int .i64 k2, .int .i64 n2, .string t2]] V fun e w' => e = .returned (.agg #[.int .i64 2, .int .i64 0, .string T2]) ∧ Below V.heap.size V w') := fun V hV => by have := show_walk k2 n2 t2 g0 g1 V hV; rw [hb1] at this; exact this
  have hf1 : ∀ V, (Instr.field 24 (.agg #[.int .i64 2, .int .i64 0, .string T1]) 2).run Tryz.prog V = .ok (.string T1) V := fun V => by kernel_rfl
  have hf2 : ∀ V, (Instr.field 24 (.agg #[.int .i64 2, .int .i64 0, .string T2]) 2).run Tryz.prog V = .ok (.string T2) V := fun V => by kernel_rfl
  obtain ⟨c1, c2, c3, hc⟩ := textV_val (T1 ++ T2)
  have HT : Hid (∀ V, Calls Tryz.prog 41 #[.string (T1 ++ T2)] V fun e w' => e = .returned (val c1 c2 c3) ∧ Below V.heap.size V w') := fun V => by rw [← hc]; exact ktext_walk _ V
  rw [hc]
  have HE : Hid (∀ V, Below w.heap.size w V → Env V) := fun V h => hE.below h
  have hsum : T1.size + T2.size ≤ 9223372036854775807 := by omega
  have hs3 : ¬ T1.size + T2.size > 9223372036854775807 := by omega
  have hs4 : ¬ 9223372036854775807 < T1.size + T2.size := by omega
  have hs5 : ¬ (9223372036854775807 : Int) < (T1.size : Int) + (T2.size : Int) := by omega
  have hadd : ∀ V, (Op.stringOp BinOp.add T1 T2).run Tryz.prog V = .ok (.string (T1 ++ T2)) V := fun V => run_string_add_sum V T1 T2 hsum
  clear hE hm1 hm2 hk1 hk2 ha1 hb1 hT1 hT2 hc
  go_enter Tryz.func82, Tryz.ntmps82
  go_wp2_with fail
  go_region_held3 (fun V => (V.cell? ⟨w.heap.size, 0, none⟩ = some (.int .i64 k) ∧ V.cell? ⟨w.heap.size, 1, none⟩ = some (.int .i64 n) ∧ V.cell? ⟨w.heap.size, 2, none⟩ = some (.string t)) ∧ (V.cell? ⟨w.heap.size + 1, 0, none⟩ = some (.int .i64 k2) ∧ V.cell? ⟨w.heap.size + 1, 1, none⟩ = some (.int .i64 n2) ∧ V.cell? ⟨w.heap.size + 1, 2, none⟩ = some (.string t2))) (first | with_reducible exact HS0.out | with_reducible exact HS1.out _ HX1.out | with_reducible exact HS1.out _ HX2.out | with_reducible exact HS1.out _ HX3.out | with_reducible exact HS3.out _ _ _ _ HX3.out) (first
    | (go_at_call 14; with_reducible refine Calls.mono (HA.out _ (HE.out _ HBd.out)) ?_; rintro e w1 ⟨rfl, hb1⟩; have HX1 := hide (HD.out _ hb1); obtain ⟨-, -, ⟨d0, d1, d2, f0, f1, f2⟩, HK1, HB1⟩ := HW.out _ HX1.out; clear hb1)
    | (go_at_call 14; with_reducible refine Calls.mono (HBs.out _ (HE.out _ HB1.out)) ?_; rintro e w2 ⟨rfl, hb2⟩; have HX2 := hide (below_trans HX1.out hb2); obtain ⟨-, -, ⟨d0, d1, d2, f0, f1, f2⟩, HK2, HB2⟩ := HW.out _ HX2.out; clear hb2)
    | (go_at_call 41; with_reducible refine Calls.mono (HT.out _) ?_; rintro e w3 ⟨rfl, hb3⟩; have HX3 := hide (below_trans HX2.out hb3); obtain ⟨-, -, ⟨d0, d1, d2, f0, f1, f2⟩, HK3, HB3⟩ := HW.out _ HX3.out; clear hb3))
  all_goals (try go_wp2)
  all_goals exact ret_valg Tryz.results82 rfl HK3.out ⟨rfl, below_set3g HB3.out (Nat.le_succ_of_le (Nat.le_succ _)) _ _ _⟩

set_option maxHeartbeats 1000000 in
theorem ask_ne (n : Int) (w : World) : Calls Tryz.prog 137 #[.int .i64 n] w fun e w' => e = .returned (.bool (decide (n ≠ 0))) ∧ w = w' := by
  go_enter Tryz.func137, Tryz.ntmps137
  go_wp2
  go_ret
  refine ⟨?_, rfl⟩
  first | rfl | (by_cases h : n = 0 <;> simp [h, bne])
set_option maxHeartbeats 1000000 in
theorem ask_lt (n : Int) (w : World) : Calls Tryz.prog 138 #[.int .i64 n] w fun e w' => e = .returned (.bool (decide (n < 0))) ∧ w = w' := by
  go_enter Tryz.func138, Tryz.ntmps138
  go_wp2
  go_ret
  refine ⟨?_, rfl⟩
  first | rfl | (by_cases h : n = 0 <;> simp [h, bne])
set_option maxHeartbeats 1000000 in
theorem ask_le (n : Int) (w : World) : Calls Tryz.prog 139 #[.int .i64 n] w fun e w' => e = .returned (.bool (decide (n ≤ 0))) ∧ w = w' := by
  go_enter Tryz.func139, Tryz.ntmps139
  go_wp2
  go_ret
  refine ⟨?_, rfl⟩
  first | rfl | (by_cases h : n = 0 <;> simp [h, bne])
set_option maxHeartbeats 1000000 in
theorem ask_gt (n : Int) (w : World) : Calls Tryz.prog 140 #[.int .i64 n] w fun e w' => e = .returned (.bool (decide (0 < n))) ∧ w = w' := by
  go_enter Tryz.func140, Tryz.ntmps140
  go_wp2
  go_ret
  refine ⟨?_, rfl⟩
  first | rfl | (by_cases h : n = 0 <;> simp [h, bne])
set_option maxHeartbeats 1000000 in
theorem ask_ge (n : Int) (w : World) : Calls Tryz.prog 141 #[.int .i64 n] w fun e w' => e = .returned (.bool (decide (0 ≤ n))) ∧ w = w' := by
  go_enter Tryz.func141, Tryz.ntmps141
  go_wp2
  go_ret
  refine ⟨?_, rfl⟩
  first | rfl | (by_cases h : n = 0 <;> simp [h, bne])
set_option maxHeartbeats 1000000 in
theorem ask_eq (n : Int) (w : World) : Calls Tryz.prog 142 #[.int .i64 n] w fun e w' => e = .returned (.bool (decide (n = 0))) ∧ w = w' := by
  go_enter Tryz.func142, Tryz.ntmps142
  go_wp2
  go_ret
  refine ⟨?_, rfl⟩
  first | rfl | (by_cases h : n = 0 <;> simp [h, bne])
end Go.Proofs.YtoekdeoekcmpgaaGreatDoor
