/- The walk of ValueOrder: values that may be. -/
import Derived.Test.YtghemaghbpekfabDoorWO
namespace Go.Proofs.YtghemaghbpekfabDoor
open Go.ChangeShapes Go.WideShapes Go.ChangeAt Go.RowKit
set_option linter.unusedVariables false

set_option maxHeartbeats 1000000 in
set_option maxRecDepth 10000 in
theorem order_yesP (k1 n1 : Int) (t1 : ByteArray) (k2 n2 : Int) (t2 : ByteArray) (k3 n3 : Int) (t3 : ByteArray) (c : Int) (hm1 : mayB k1 n1 t1 = true) (hm2 : mayB k2 n2 t2 = true) (hm3 : mayB k3 n3 t3 = true) (X Y Z D : Int) (hC12 : cmpA k1 n1 t1 k2 n2 t2 c = X) (hC23 : cmpA k2 n2 t2 k3 n3 t3 c = Y) (hC13 : cmpA k1 n1 t1 k3 n3 t3 c = Z) (hC21 : cmpA k2 n2 t2 k1 n1 t1 c = -X) (hC11 : cmpA k1 n1 t1 k1 n1 t1 c = 0) (hD12 : cmpA k1 n1 t1 k2 n2 t2 0 = D)
    (hX1 : -1 ≤ X) (hX2 : X ≤ 1) (hx : 0 < X) (hD : D ≠ 0) (w : World) (hE : Env w) : Calls Tryd.prog 3 #[val k1 n1 t1, val k2 n2 t2, val k3 n3 t3, .int .i64 c] w fun e w' => e = .returned (.bool true) ∧ Below w.heap.size w w' := by
  have HM1 : Hid (∀ V, Calls Tryd.prog 5 #[.agg #[.int .i64 k1, .int .i64 n1, .string t1]] V fun e w' => e = .returned (.bool true) ∧ Below V.heap.size V w') := fun V => by have := may_walk k1 n1 t1 V; rw [hm1] at this; exact this
  have HM2 : Hid (∀ V, Calls Tryd.prog 5 #[.agg #[.int .i64 k2, .int .i64 n2, .string t2]] V fun e w' => e = .returned (.bool true) ∧ Below V.heap.size V w') := fun V => by have := may_walk k2 n2 t2 V; rw [hm2] at this; exact this
  have HM3 : Hid (∀ V, Calls Tryd.prog 5 #[.agg #[.int .i64 k3, .int .i64 n3, .string t3]] V fun e w' => e = .returned (.bool true) ∧ Below V.heap.size V w') := fun V => by have := may_walk k3 n3 t3 V; rw [hm3] at this; exact this
  have HW : Hid (∀ V, Below (((w.alloc (vc k1 n1 t1)).alloc (vc k2 n2 t2)).alloc (vc k3 n3 t3)).heap.size (((w.alloc (vc k1 n1 t1)).alloc (vc k2 n2 t2)).alloc (vc k3 n3 t3)) V → (V.cell? ⟨w.heap.size, 0, none⟩ = some (.int .i64 k1) ∧ V.cell? ⟨w.heap.size, 1, none⟩ = some (.int .i64 n1) ∧ V.cell? ⟨w.heap.size, 2, none⟩ = some (.string t1)) ∧ (V.cell? ⟨w.heap.size + 1, 0, none⟩ = some (.int .i64 k2) ∧ V.cell? ⟨w.heap.size + 1, 1, none⟩ = some (.int .i64 n2) ∧ V.cell? ⟨w.heap.size + 1, 2, none⟩ = some (.string t2)) ∧ (V.cell? ⟨w.heap.size + 1 + 1, 0, none⟩ = some (.int .i64 k3) ∧ V.cell? ⟨w.heap.size + 1 + 1, 1, none⟩ = some (.int .i64 n3) ∧ V.cell? ⟨w.heap.size + 1 + 1, 2, none⟩ = some (.string t3))) := nine_later w k1 n1 t1 k2 n2 t2 k3 n3 t3
  have HB : Hid (∀ V, Below (((w.alloc (vc k1 n1 t1)).alloc (vc k2 n2 t2)).alloc (vc k3 n3 t3)).heap.size (((w.alloc (vc k1 n1 t1)).alloc (vc k2 n2 t2)).alloc (vc k3 n3 t3)) V → Below w.heap.size w V) := fun V h => three_below w _ _ _ h
  have HE0 : Hid (Env (((w.alloc (vc k1 n1 t1)).alloc (vc k2 n2 t2)).alloc (vc k3 n3 t3))) := hE.below (three_below w _ _ _ (Below.refl _ _))
  have C12 : Hid (∀ V, Calls Tryd.prog 6 #[.agg #[.int .i64 k1, .int .i64 n1, .string t1], .agg #[.int .i64 k2, .int .i64 n2, .string t2], .int .i64 c] V fun e w' => e = .returned (.int .i64 (X)) ∧ Below V.heap.size V w') := fun V => by have := cmp_walk k1 n1 t1 k2 n2 t2 c V; rw [hC12] at this; exact this
  have C23 : Hid (∀ V, Calls Tryd.prog 6 #[.agg #[.int .i64 k2, .int .i64 n2, .string t2], .agg #[.int .i64 k3, .int .i64 n3, .string t3], .int .i64 c] V fun e w' => e = .returned (.int .i64 (Y)) ∧ Below V.heap.size V w') := fun V => by have := cmp_walk k2 n2 t2 k3 n3 t3 c V; rw [hC23] at this; exact this
  have C13 : Hid (∀ V, Calls Tryd.prog 6 #[.agg #[.int .i64 k1, .int .i64 n1, .string t1], .agg #[.int .i64 k3, .int .i64 n3, .string t3], .int .i64 c] V fun e w' => e = .returned (.int .i64 (Z)) ∧ Below V.heap.size V w') := fun V => by have := cmp_walk k1 n1 t1 k3 n3 t3 c V; rw [hC13] at this; exact this
  have C21 : Hid (∀ V, Calls Tryd.prog 6 #[.agg #[.int .i64 k2, .int .i64 n2, .string t2], .agg #[.int .i64 k1, .int .i64 n1, .string t1], .int .i64 c] V fun e w' => e = .returned (.int .i64 (-X)) ∧ Below V.heap.size V w') := fun V => by have := cmp_walk k2 n2 t2 k1 n1 t1 c V; rw [hC21] at this; exact this
  have C11 : Hid (∀ V, Calls Tryd.prog 6 #[.agg #[.int .i64 k1, .int .i64 n1, .string t1], .agg #[.int .i64 k1, .int .i64 n1, .string t1], .int .i64 c] V fun e w' => e = .returned (.int .i64 (0)) ∧ Below V.heap.size V w') := fun V => by have := cmp_walk k1 n1 t1 k1 n1 t1 c V; rw [hC11] at this; exact this
  have D12 : Hid (∀ V, Calls Tryd.prog 6 #[.agg #[.int .i64 k1, .int .i64 n1, .string t1], .agg #[.int .i64 k2, .int .i64 n2, .string t2], .int .i64 0] V fun e w' => e = .returned (.int .i64 (D)) ∧ Below V.heap.size V w') := fun V => by have := cmp_walk k1 n1 t1 k2 n2 t2 0 V; rw [hD12] at this; exact this
  have hw : IntKind.i64.wrap (-X) = -X := by rw [IntKind.wrap_i64]; omega
  have i1 : ¬ X < -1 := by omega
  have i2 : ¬ 1 < X := by omega
  have i3 : ¬ X ≤ 0 := by omega
  have d1 : (D != 0) = true := by simp [bne, hD]
  have d2 : (D == 0) = false := by simp [hD]
  clear hD hx
  clear hE hm1 hm2 hm3 hC12 hC23 hC13 hC21 hC11 hD12
  go_enter Tryd.func3, Tryd.ntmps3
  go_wp2_with (first
    | (go_at_call 4; with_reducible refine Calls.mono (head_walk _ HE0.out) ?_; rintro e w1 ⟨rfl, hb1⟩; have HX1 := hide hb1; obtain ⟨⟨a0, a1, a2⟩, ⟨b0, b1, b2⟩, c0, c1, c2⟩ := HW.out _ hb1; clear hb1)
    | (go_at_call 5; with_reducible refine Calls.mono (HM1.out _) ?_; rintro e w2 ⟨rfl, hb2⟩; have HX2 := hide (below_trans HX1.out hb2); obtain ⟨⟨a0, a1, a2⟩, ⟨b0, b1, b2⟩, c0, c1, c2⟩ := HW.out _ HX2.out; clear hb2)
    | (go_at_call 5; with_reducible refine Calls.mono (HM2.out _) ?_; rintro e w3 ⟨rfl, hb3⟩; have HX3 := hide (below_trans HX2.out hb3); obtain ⟨⟨a0, a1, a2⟩, ⟨b0, b1, b2⟩, c0, c1, c2⟩ := HW.out _ HX3.out; clear hb3)
    | (go_at_call 5; with_reducible refine Calls.mono (HM3.out _) ?_; rintro e w4 ⟨rfl, hb4⟩; have HX4 := hide (below_trans HX3.out hb4); obtain ⟨⟨a0, a1, a2⟩, ⟨b0, b1, b2⟩, c0, c1, c2⟩ := HW.out _ HX4.out; clear hb4))
  have HD4 : Hid (∀ V, Below w4.drew.heap.size w4.drew V → Below (((w.alloc (vc k1 n1 t1)).alloc (vc k2 n2 t2)).alloc (vc k3 n3 t3)).heap.size (((w.alloc (vc k1 n1 t1)).alloc (vc k2 n2 t2)).alloc (vc k3 n3 t3)) V) := fun V h => below_trans (below_trans HX4.out (Below.refl _ _).drew) h
  go_region_held3 (fun V => (V.cell? ⟨w.heap.size, 0, none⟩ = some (.int .i64 k1) ∧ V.cell? ⟨w.heap.size, 1, none⟩ = some (.int .i64 n1) ∧ V.cell? ⟨w.heap.size, 2, none⟩ = some (.string t1)) ∧ (V.cell? ⟨w.heap.size + 1, 0, none⟩ = some (.int .i64 k2) ∧ V.cell? ⟨w.heap.size + 1, 1, none⟩ = some (.int .i64 n2) ∧ V.cell? ⟨w.heap.size + 1, 2, none⟩ = some (.string t2)) ∧ (V.cell? ⟨w.heap.size + 1 + 1, 0, none⟩ = some (.int .i64 k3) ∧ V.cell? ⟨w.heap.size + 1 + 1, 1, none⟩ = some (.int .i64 n3) ∧ V.cell? ⟨w.heap.size + 1 + 1, 2, none⟩ = some (.string t3))) (first | exact HW.out _ (HD4.out _ (Below.refl _ _)) | exact HW.out _ HX5.out | exact HW.out _ HX6.out | exact HW.out _ HX7.out) (first
    | (go_at_call 6; with_reducible refine Calls.mono (C12.out _) ?_; rintro e w5 ⟨rfl, hb5⟩; have HX5 := hide (HD4.out _ hb5); clear hb5)
    | (go_at_call 6; with_reducible refine Calls.mono (C23.out _) ?_; rintro e w6 ⟨rfl, hb6⟩; have HX6 := hide (below_trans HX5.out hb6); clear hb6)
    | (go_at_call 6; with_reducible refine Calls.mono (C13.out _) ?_; rintro e w7 ⟨rfl, hb7⟩; have HX7 := hide (below_trans HX6.out hb7); clear hb7))
  obtain ⟨⟨a0, a1, a2⟩, ⟨b0, b1, b2⟩, c0, c1, c2⟩ := HW.out _ HX7.out
  go_wp2_with (first
    | (go_at_call 6; with_reducible refine Calls.mono (C21.out _) ?_; rintro e w8 ⟨rfl, hb8⟩; have HX8 := hide (below_trans HX7.out hb8); obtain ⟨⟨a0, a1, a2⟩, ⟨b0, b1, b2⟩, c0, c1, c2⟩ := HW.out _ HX8.out; clear hb8)
    | (go_at_call 6; with_reducible refine Calls.mono (C11.out _) ?_; rintro e w9 ⟨rfl, hb9⟩; have HX9 := hide (below_trans HX8.out hb9); obtain ⟨⟨a0, a1, a2⟩, ⟨b0, b1, b2⟩, c0, c1, c2⟩ := HW.out _ HX9.out; clear hb9)
    | (go_at_call 6; with_reducible refine Calls.mono (D12.out _) ?_; rintro e w10 ⟨rfl, hb10⟩; have HX10 := hide (below_trans HX9.out hb10); obtain ⟨⟨a0, a1, a2⟩, ⟨b0, b1, b2⟩, c0, c1, c2⟩ := HW.out _ HX10.out; clear hb10))
  all_goals go_ret
  all_goals exact ⟨by simp, HB.out _ HX10.out⟩

set_option maxHeartbeats 1000000 in
set_option maxRecDepth 10000 in
theorem order_yesQ (k1 n1 : Int) (t1 : ByteArray) (k2 n2 : Int) (t2 : ByteArray) (k3 n3 : Int) (t3 : ByteArray) (c : Int) (hm1 : mayB k1 n1 t1 = true) (hm2 : mayB k2 n2 t2 = true) (hm3 : mayB k3 n3 t3 = true) (X Y Z D : Int) (hC12 : cmpA k1 n1 t1 k2 n2 t2 c = X) (hC23 : cmpA k2 n2 t2 k3 n3 t3 c = Y) (hC13 : cmpA k1 n1 t1 k3 n3 t3 c = Z) (hC21 : cmpA k2 n2 t2 k1 n1 t1 c = -X) (hC11 : cmpA k1 n1 t1 k1 n1 t1 c = 0) (hD12 : cmpA k1 n1 t1 k2 n2 t2 0 = D)
    (hX1 : -1 ≤ X) (hX2 : X ≤ 1) (hx : X ≤ 0) (hy : 0 < Y) (hD : D ≠ 0) (w : World) (hE : Env w) : Calls Tryd.prog 3 #[val k1 n1 t1, val k2 n2 t2, val k3 n3 t3, .int .i64 c] w fun e w' => e = .returned (.bool true) ∧ Below w.heap.size w w' := by
  have HM1 : Hid (∀ V, Calls Tryd.prog 5 #[.agg #[.int .i64 k1, .int .i64 n1, .string t1]] V fun e w' => e = .returned (.bool true) ∧ Below V.heap.size V w') := fun V => by have := may_walk k1 n1 t1 V; rw [hm1] at this; exact this
  have HM2 : Hid (∀ V, Calls Tryd.prog 5 #[.agg #[.int .i64 k2, .int .i64 n2, .string t2]] V fun e w' => e = .returned (.bool true) ∧ Below V.heap.size V w') := fun V => by have := may_walk k2 n2 t2 V; rw [hm2] at this; exact this
  have HM3 : Hid (∀ V, Calls Tryd.prog 5 #[.agg #[.int .i64 k3, .int .i64 n3, .string t3]] V fun e w' => e = .returned (.bool true) ∧ Below V.heap.size V w') := fun V => by have := may_walk k3 n3 t3 V; rw [hm3] at this; exact this
  have HW : Hid (∀ V, Below (((w.alloc (vc k1 n1 t1)).alloc (vc k2 n2 t2)).alloc (vc k3 n3 t3)).heap.size (((w.alloc (vc k1 n1 t1)).alloc (vc k2 n2 t2)).alloc (vc k3 n3 t3)) V → (V.cell? ⟨w.heap.size, 0, none⟩ = some (.int .i64 k1) ∧ V.cell? ⟨w.heap.size, 1, none⟩ = some (.int .i64 n1) ∧ V.cell? ⟨w.heap.size, 2, none⟩ = some (.string t1)) ∧ (V.cell? ⟨w.heap.size + 1, 0, none⟩ = some (.int .i64 k2) ∧ V.cell? ⟨w.heap.size + 1, 1, none⟩ = some (.int .i64 n2) ∧ V.cell? ⟨w.heap.size + 1, 2, none⟩ = some (.string t2)) ∧ (V.cell? ⟨w.heap.size + 1 + 1, 0, none⟩ = some (.int .i64 k3) ∧ V.cell? ⟨w.heap.size + 1 + 1, 1, none⟩ = some (.int .i64 n3) ∧ V.cell? ⟨w.heap.size + 1 + 1, 2, none⟩ = some (.string t3))) := nine_later w k1 n1 t1 k2 n2 t2 k3 n3 t3
  have HB : Hid (∀ V, Below (((w.alloc (vc k1 n1 t1)).alloc (vc k2 n2 t2)).alloc (vc k3 n3 t3)).heap.size (((w.alloc (vc k1 n1 t1)).alloc (vc k2 n2 t2)).alloc (vc k3 n3 t3)) V → Below w.heap.size w V) := fun V h => three_below w _ _ _ h
  have HE0 : Hid (Env (((w.alloc (vc k1 n1 t1)).alloc (vc k2 n2 t2)).alloc (vc k3 n3 t3))) := hE.below (three_below w _ _ _ (Below.refl _ _))
  have C12 : Hid (∀ V, Calls Tryd.prog 6 #[.agg #[.int .i64 k1, .int .i64 n1, .string t1], .agg #[.int .i64 k2, .int .i64 n2, .string t2], .int .i64 c] V fun e w' => e = .returned (.int .i64 (X)) ∧ Below V.heap.size V w') := fun V => by have := cmp_walk k1 n1 t1 k2 n2 t2 c V; rw [hC12] at this; exact this
  have C23 : Hid (∀ V, Calls Tryd.prog 6 #[.agg #[.int .i64 k2, .int .i64 n2, .string t2], .agg #[.int .i64 k3, .int .i64 n3, .string t3], .int .i64 c] V fun e w' => e = .returned (.int .i64 (Y)) ∧ Below V.heap.size V w') := fun V => by have := cmp_walk k2 n2 t2 k3 n3 t3 c V; rw [hC23] at this; exact this
  have C13 : Hid (∀ V, Calls Tryd.prog 6 #[.agg #[.int .i64 k1, .int .i64 n1, .string t1], .agg #[.int .i64 k3, .int .i64 n3, .string t3], .int .i64 c] V fun e w' => e = .returned (.int .i64 (Z)) ∧ Below V.heap.size V w') := fun V => by have := cmp_walk k1 n1 t1 k3 n3 t3 c V; rw [hC13] at this; exact this
  have C21 : Hid (∀ V, Calls Tryd.prog 6 #[.agg #[.int .i64 k2, .int .i64 n2, .string t2], .agg #[.int .i64 k1, .int .i64 n1, .string t1], .int .i64 c] V fun e w' => e = .returned (.int .i64 (-X)) ∧ Below V.heap.size V w') := fun V => by have := cmp_walk k2 n2 t2 k1 n1 t1 c V; rw [hC21] at this; exact this
  have C11 : Hid (∀ V, Calls Tryd.prog 6 #[.agg #[.int .i64 k1, .int .i64 n1, .string t1], .agg #[.int .i64 k1, .int .i64 n1, .string t1], .int .i64 c] V fun e w' => e = .returned (.int .i64 (0)) ∧ Below V.heap.size V w') := fun V => by have := cmp_walk k1 n1 t1 k1 n1 t1 c V; rw [hC11] at this; exact this
  have D12 : Hid (∀ V, Calls Tryd.prog 6 #[.agg #[.int .i64 k1, .int .i64 n1, .string t1], .agg #[.int .i64 k2, .int .i64 n2, .string t2], .int .i64 0] V fun e w' => e = .returned (.int .i64 (D)) ∧ Below V.heap.size V w') := fun V => by have := cmp_walk k1 n1 t1 k2 n2 t2 0 V; rw [hD12] at this; exact this
  have hw : IntKind.i64.wrap (-X) = -X := by rw [IntKind.wrap_i64]; omega
  have i1 : ¬ X < -1 := by omega
  have i2 : ¬ 1 < X := by omega
  have i3 : ¬ Y ≤ 0 := by omega
  have d1 : (D != 0) = true := by simp [bne, hD]
  have d2 : (D == 0) = false := by simp [hD]
  clear hD hy
  clear hE hm1 hm2 hm3 hC12 hC23 hC13 hC21 hC11 hD12
  go_enter Tryd.func3, Tryd.ntmps3
  go_wp2_with (first
    | (go_at_call 4; with_reducible refine Calls.mono (head_walk _ HE0.out) ?_; rintro e w1 ⟨rfl, hb1⟩; have HX1 := hide hb1; obtain ⟨⟨a0, a1, a2⟩, ⟨b0, b1, b2⟩, c0, c1, c2⟩ := HW.out _ hb1; clear hb1)
    | (go_at_call 5; with_reducible refine Calls.mono (HM1.out _) ?_; rintro e w2 ⟨rfl, hb2⟩; have HX2 := hide (below_trans HX1.out hb2); obtain ⟨⟨a0, a1, a2⟩, ⟨b0, b1, b2⟩, c0, c1, c2⟩ := HW.out _ HX2.out; clear hb2)
    | (go_at_call 5; with_reducible refine Calls.mono (HM2.out _) ?_; rintro e w3 ⟨rfl, hb3⟩; have HX3 := hide (below_trans HX2.out hb3); obtain ⟨⟨a0, a1, a2⟩, ⟨b0, b1, b2⟩, c0, c1, c2⟩ := HW.out _ HX3.out; clear hb3)
    | (go_at_call 5; with_reducible refine Calls.mono (HM3.out _) ?_; rintro e w4 ⟨rfl, hb4⟩; have HX4 := hide (below_trans HX3.out hb4); obtain ⟨⟨a0, a1, a2⟩, ⟨b0, b1, b2⟩, c0, c1, c2⟩ := HW.out _ HX4.out; clear hb4))
  have HD4 : Hid (∀ V, Below w4.drew.heap.size w4.drew V → Below (((w.alloc (vc k1 n1 t1)).alloc (vc k2 n2 t2)).alloc (vc k3 n3 t3)).heap.size (((w.alloc (vc k1 n1 t1)).alloc (vc k2 n2 t2)).alloc (vc k3 n3 t3)) V) := fun V h => below_trans (below_trans HX4.out (Below.refl _ _).drew) h
  go_region_held3 (fun V => (V.cell? ⟨w.heap.size, 0, none⟩ = some (.int .i64 k1) ∧ V.cell? ⟨w.heap.size, 1, none⟩ = some (.int .i64 n1) ∧ V.cell? ⟨w.heap.size, 2, none⟩ = some (.string t1)) ∧ (V.cell? ⟨w.heap.size + 1, 0, none⟩ = some (.int .i64 k2) ∧ V.cell? ⟨w.heap.size + 1, 1, none⟩ = some (.int .i64 n2) ∧ V.cell? ⟨w.heap.size + 1, 2, none⟩ = some (.string t2)) ∧ (V.cell? ⟨w.heap.size + 1 + 1, 0, none⟩ = some (.int .i64 k3) ∧ V.cell? ⟨w.heap.size + 1 + 1, 1, none⟩ = some (.int .i64 n3) ∧ V.cell? ⟨w.heap.size + 1 + 1, 2, none⟩ = some (.string t3))) (first | exact HW.out _ (HD4.out _ (Below.refl _ _)) | exact HW.out _ HX5.out | exact HW.out _ HX6.out | exact HW.out _ HX7.out) (first
    | (go_at_call 6; with_reducible refine Calls.mono (C12.out _) ?_; rintro e w5 ⟨rfl, hb5⟩; have HX5 := hide (HD4.out _ hb5); clear hb5)
    | (go_at_call 6; with_reducible refine Calls.mono (C23.out _) ?_; rintro e w6 ⟨rfl, hb6⟩; have HX6 := hide (below_trans HX5.out hb6); clear hb6)
    | (go_at_call 6; with_reducible refine Calls.mono (C13.out _) ?_; rintro e w7 ⟨rfl, hb7⟩; have HX7 := hide (below_trans HX6.out hb7); clear hb7))
  obtain ⟨⟨a0, a1, a2⟩, ⟨b0, b1, b2⟩, c0, c1, c2⟩ := HW.out _ HX7.out
  go_wp2_with (first
    | (go_at_call 6; with_reducible refine Calls.mono (C21.out _) ?_; rintro e w8 ⟨rfl, hb8⟩; have HX8 := hide (below_trans HX7.out hb8); obtain ⟨⟨a0, a1, a2⟩, ⟨b0, b1, b2⟩, c0, c1, c2⟩ := HW.out _ HX8.out; clear hb8)
    | (go_at_call 6; with_reducible refine Calls.mono (C11.out _) ?_; rintro e w9 ⟨rfl, hb9⟩; have HX9 := hide (below_trans HX8.out hb9); obtain ⟨⟨a0, a1, a2⟩, ⟨b0, b1, b2⟩, c0, c1, c2⟩ := HW.out _ HX9.out; clear hb9)
    | (go_at_call 6; with_reducible refine Calls.mono (D12.out _) ?_; rintro e w10 ⟨rfl, hb10⟩; have HX10 := hide (below_trans HX9.out hb10); obtain ⟨⟨a0, a1, a2⟩, ⟨b0, b1, b2⟩, c0, c1, c2⟩ := HW.out _ HX10.out; clear hb10))
  all_goals go_ret
  all_goals exact ⟨by simp, HB.out _ HX10.out⟩

set_option maxHeartbeats 1000000 in
set_option maxRecDepth 10000 in
theorem order_yesR (k1 n1 : Int) (t1 : ByteArray) (k2 n2 : Int) (t2 : ByteArray) (k3 n3 : Int) (t3 : ByteArray) (c : Int) (hm1 : mayB k1 n1 t1 = true) (hm2 : mayB k2 n2 t2 = true) (hm3 : mayB k3 n3 t3 = true) (X Y Z D : Int) (hC12 : cmpA k1 n1 t1 k2 n2 t2 c = X) (hC23 : cmpA k2 n2 t2 k3 n3 t3 c = Y) (hC13 : cmpA k1 n1 t1 k3 n3 t3 c = Z) (hC21 : cmpA k2 n2 t2 k1 n1 t1 c = -X) (hC11 : cmpA k1 n1 t1 k1 n1 t1 c = 0) (hD12 : cmpA k1 n1 t1 k2 n2 t2 0 = D)
    (hX1 : -1 ≤ X) (hX2 : X ≤ 1) (hx : X ≤ 0) (hy : Y ≤ 0) (hz : Z ≤ 0) (hD : D ≠ 0) (w : World) (hE : Env w) : Calls Tryd.prog 3 #[val k1 n1 t1, val k2 n2 t2, val k3 n3 t3, .int .i64 c] w fun e w' => e = .returned (.bool true) ∧ Below w.heap.size w w' := by
  have HM1 : Hid (∀ V, Calls Tryd.prog 5 #[.agg #[.int .i64 k1, .int .i64 n1, .string t1]] V fun e w' => e = .returned (.bool true) ∧ Below V.heap.size V w') := fun V => by have := may_walk k1 n1 t1 V; rw [hm1] at this; exact this
  have HM2 : Hid (∀ V, Calls Tryd.prog 5 #[.agg #[.int .i64 k2, .int .i64 n2, .string t2]] V fun e w' => e = .returned (.bool true) ∧ Below V.heap.size V w') := fun V => by have := may_walk k2 n2 t2 V; rw [hm2] at this; exact this
  have HM3 : Hid (∀ V, Calls Tryd.prog 5 #[.agg #[.int .i64 k3, .int .i64 n3, .string t3]] V fun e w' => e = .returned (.bool true) ∧ Below V.heap.size V w') := fun V => by have := may_walk k3 n3 t3 V; rw [hm3] at this; exact this
  have HW : Hid (∀ V, Below (((w.alloc (vc k1 n1 t1)).alloc (vc k2 n2 t2)).alloc (vc k3 n3 t3)).heap.size (((w.alloc (vc k1 n1 t1)).alloc (vc k2 n2 t2)).alloc (vc k3 n3 t3)) V → (V.cell? ⟨w.heap.size, 0, none⟩ = some (.int .i64 k1) ∧ V.cell? ⟨w.heap.size, 1, none⟩ = some (.int .i64 n1) ∧ V.cell? ⟨w.heap.size, 2, none⟩ = some (.string t1)) ∧ (V.cell? ⟨w.heap.size + 1, 0, none⟩ = some (.int .i64 k2) ∧ V.cell? ⟨w.heap.size + 1, 1, none⟩ = some (.int .i64 n2) ∧ V.cell? ⟨w.heap.size + 1, 2, none⟩ = some (.string t2)) ∧ (V.cell? ⟨w.heap.size + 1 + 1, 0, none⟩ = some (.int .i64 k3) ∧ V.cell? ⟨w.heap.size + 1 + 1, 1, none⟩ = some (.int .i64 n3) ∧ V.cell? ⟨w.heap.size + 1 + 1, 2, none⟩ = some (.string t3))) := nine_later w k1 n1 t1 k2 n2 t2 k3 n3 t3
  have HB : Hid (∀ V, Below (((w.alloc (vc k1 n1 t1)).alloc (vc k2 n2 t2)).alloc (vc k3 n3 t3)).heap.size (((w.alloc (vc k1 n1 t1)).alloc (vc k2 n2 t2)).alloc (vc k3 n3 t3)) V → Below w.heap.size w V) := fun V h => three_below w _ _ _ h
  have HE0 : Hid (Env (((w.alloc (vc k1 n1 t1)).alloc (vc k2 n2 t2)).alloc (vc k3 n3 t3))) := hE.below (three_below w _ _ _ (Below.refl _ _))
  have C12 : Hid (∀ V, Calls Tryd.prog 6 #[.agg #[.int .i64 k1, .int .i64 n1, .string t1], .agg #[.int .i64 k2, .int .i64 n2, .string t2], .int .i64 c] V fun e w' => e = .returned (.int .i64 (X)) ∧ Below V.heap.size V w') := fun V => by have := cmp_walk k1 n1 t1 k2 n2 t2 c V; rw [hC12] at this; exact this
  have C23 : Hid (∀ V, Calls Tryd.prog 6 #[.agg #[.int .i64 k2, .int .i64 n2, .string t2], .agg #[.int .i64 k3, .int .i64 n3, .string t3], .int .i64 c] V fun e w' => e = .returned (.int .i64 (Y)) ∧ Below V.heap.size V w') := fun V => by have := cmp_walk k2 n2 t2 k3 n3 t3 c V; rw [hC23] at this; exact this
  have C13 : Hid (∀ V, Calls Tryd.prog 6 #[.agg #[.int .i64 k1, .int .i64 n1, .string t1], .agg #[.int .i64 k3, .int .i64 n3, .string t3], .int .i64 c] V fun e w' => e = .returned (.int .i64 (Z)) ∧ Below V.heap.size V w') := fun V => by have := cmp_walk k1 n1 t1 k3 n3 t3 c V; rw [hC13] at this; exact this
  have C21 : Hid (∀ V, Calls Tryd.prog 6 #[.agg #[.int .i64 k2, .int .i64 n2, .string t2], .agg #[.int .i64 k1, .int .i64 n1, .string t1], .int .i64 c] V fun e w' => e = .returned (.int .i64 (-X)) ∧ Below V.heap.size V w') := fun V => by have := cmp_walk k2 n2 t2 k1 n1 t1 c V; rw [hC21] at this; exact this
  have C11 : Hid (∀ V, Calls Tryd.prog 6 #[.agg #[.int .i64 k1, .int .i64 n1, .string t1], .agg #[.int .i64 k1, .int .i64 n1, .string t1], .int .i64 c] V fun e w' => e = .returned (.int .i64 (0)) ∧ Below V.heap.size V w') := fun V => by have := cmp_walk k1 n1 t1 k1 n1 t1 c V; rw [hC11] at this; exact this
  have D12 : Hid (∀ V, Calls Tryd.prog 6 #[.agg #[.int .i64 k1, .int .i64 n1, .string t1], .agg #[.int .i64 k2, .int .i64 n2, .string t2], .int .i64 0] V fun e w' => e = .returned (.int .i64 (D)) ∧ Below V.heap.size V w') := fun V => by have := cmp_walk k1 n1 t1 k2 n2 t2 0 V; rw [hD12] at this; exact this
  have hw : IntKind.i64.wrap (-X) = -X := by rw [IntKind.wrap_i64]; omega
  have i1 : ¬ X < -1 := by omega
  have i2 : ¬ 1 < X := by omega
  have i3 : ¬ 0 < Z := by omega
  have d1 : (D != 0) = true := by simp [bne, hD]
  have d2 : (D == 0) = false := by simp [hD]
  clear hD hz
  clear hE hm1 hm2 hm3 hC12 hC23 hC13 hC21 hC11 hD12
  go_enter Tryd.func3, Tryd.ntmps3
  go_wp2_with (first
    | (go_at_call 4; with_reducible refine Calls.mono (head_walk _ HE0.out) ?_; rintro e w1 ⟨rfl, hb1⟩; have HX1 := hide hb1; obtain ⟨⟨a0, a1, a2⟩, ⟨b0, b1, b2⟩, c0, c1, c2⟩ := HW.out _ hb1; clear hb1)
    | (go_at_call 5; with_reducible refine Calls.mono (HM1.out _) ?_; rintro e w2 ⟨rfl, hb2⟩; have HX2 := hide (below_trans HX1.out hb2); obtain ⟨⟨a0, a1, a2⟩, ⟨b0, b1, b2⟩, c0, c1, c2⟩ := HW.out _ HX2.out; clear hb2)
    | (go_at_call 5; with_reducible refine Calls.mono (HM2.out _) ?_; rintro e w3 ⟨rfl, hb3⟩; have HX3 := hide (below_trans HX2.out hb3); obtain ⟨⟨a0, a1, a2⟩, ⟨b0, b1, b2⟩, c0, c1, c2⟩ := HW.out _ HX3.out; clear hb3)
    | (go_at_call 5; with_reducible refine Calls.mono (HM3.out _) ?_; rintro e w4 ⟨rfl, hb4⟩; have HX4 := hide (below_trans HX3.out hb4); obtain ⟨⟨a0, a1, a2⟩, ⟨b0, b1, b2⟩, c0, c1, c2⟩ := HW.out _ HX4.out; clear hb4))
  have HD4 : Hid (∀ V, Below w4.drew.heap.size w4.drew V → Below (((w.alloc (vc k1 n1 t1)).alloc (vc k2 n2 t2)).alloc (vc k3 n3 t3)).heap.size (((w.alloc (vc k1 n1 t1)).alloc (vc k2 n2 t2)).alloc (vc k3 n3 t3)) V) := fun V h => below_trans (below_trans HX4.out (Below.refl _ _).drew) h
  go_region_held3 (fun V => (V.cell? ⟨w.heap.size, 0, none⟩ = some (.int .i64 k1) ∧ V.cell? ⟨w.heap.size, 1, none⟩ = some (.int .i64 n1) ∧ V.cell? ⟨w.heap.size, 2, none⟩ = some (.string t1)) ∧ (V.cell? ⟨w.heap.size + 1, 0, none⟩ = some (.int .i64 k2) ∧ V.cell? ⟨w.heap.size + 1, 1, none⟩ = some (.int .i64 n2) ∧ V.cell? ⟨w.heap.size + 1, 2, none⟩ = some (.string t2)) ∧ (V.cell? ⟨w.heap.size + 1 + 1, 0, none⟩ = some (.int .i64 k3) ∧ V.cell? ⟨w.heap.size + 1 + 1, 1, none⟩ = some (.int .i64 n3) ∧ V.cell? ⟨w.heap.size + 1 + 1, 2, none⟩ = some (.string t3))) (first | exact HW.out _ (HD4.out _ (Below.refl _ _)) | exact HW.out _ HX5.out | exact HW.out _ HX6.out | exact HW.out _ HX7.out) (first
    | (go_at_call 6; with_reducible refine Calls.mono (C12.out _) ?_; rintro e w5 ⟨rfl, hb5⟩; have HX5 := hide (HD4.out _ hb5); clear hb5)
    | (go_at_call 6; with_reducible refine Calls.mono (C23.out _) ?_; rintro e w6 ⟨rfl, hb6⟩; have HX6 := hide (below_trans HX5.out hb6); clear hb6)
    | (go_at_call 6; with_reducible refine Calls.mono (C13.out _) ?_; rintro e w7 ⟨rfl, hb7⟩; have HX7 := hide (below_trans HX6.out hb7); clear hb7))
  obtain ⟨⟨a0, a1, a2⟩, ⟨b0, b1, b2⟩, c0, c1, c2⟩ := HW.out _ HX7.out
  go_wp2_with (first
    | (go_at_call 6; with_reducible refine Calls.mono (C21.out _) ?_; rintro e w8 ⟨rfl, hb8⟩; have HX8 := hide (below_trans HX7.out hb8); obtain ⟨⟨a0, a1, a2⟩, ⟨b0, b1, b2⟩, c0, c1, c2⟩ := HW.out _ HX8.out; clear hb8)
    | (go_at_call 6; with_reducible refine Calls.mono (C11.out _) ?_; rintro e w9 ⟨rfl, hb9⟩; have HX9 := hide (below_trans HX8.out hb9); obtain ⟨⟨a0, a1, a2⟩, ⟨b0, b1, b2⟩, c0, c1, c2⟩ := HW.out _ HX9.out; clear hb9)
    | (go_at_call 6; with_reducible refine Calls.mono (D12.out _) ?_; rintro e w10 ⟨rfl, hb10⟩; have HX10 := hide (below_trans HX9.out hb10); obtain ⟨⟨a0, a1, a2⟩, ⟨b0, b1, b2⟩, c0, c1, c2⟩ := HW.out _ HX10.out; clear hb10))
  all_goals go_ret
  all_goals exact ⟨by simp, HB.out _ HX10.out⟩

set_option maxHeartbeats 1000000 in
set_option maxRecDepth 10000 in
theorem order_sameA (k1 n1 : Int) (t1 : ByteArray) (k3 n3 : Int) (t3 : ByteArray) (c : Int) (hm1 : mayB k1 n1 t1 = true) (hm3 : mayB k3 n3 t3 = true) (Y : Int) (hC13 : cmpA k1 n1 t1 k3 n3 t3 c = Y) (hC11 : ∀ c, cmpA k1 n1 t1 k1 n1 t1 c = 0)
    (hy : 0 < Y) (w : World) (hE : Env w) : Calls Tryd.prog 3 #[val k1 n1 t1, val k1 n1 t1, val k3 n3 t3, .int .i64 c] w fun e w' => e = .returned (.bool true) ∧ Below w.heap.size w w' := by
  have HM1 : Hid (∀ V, Calls Tryd.prog 5 #[.agg #[.int .i64 k1, .int .i64 n1, .string t1]] V fun e w' => e = .returned (.bool true) ∧ Below V.heap.size V w') := fun V => by have := may_walk k1 n1 t1 V; rw [hm1] at this; exact this
  have HM2 : Hid (∀ V, Calls Tryd.prog 5 #[.agg #[.int .i64 k1, .int .i64 n1, .string t1]] V fun e w' => e = .returned (.bool true) ∧ Below V.heap.size V w') := fun V => by have := may_walk k1 n1 t1 V; rw [hm1] at this; exact this
  have HM3 : Hid (∀ V, Calls Tryd.prog 5 #[.agg #[.int .i64 k3, .int .i64 n3, .string t3]] V fun e w' => e = .returned (.bool true) ∧ Below V.heap.size V w') := fun V => by have := may_walk k3 n3 t3 V; rw [hm3] at this; exact this
  have HW : Hid (∀ V, Below (((w.alloc (vc k1 n1 t1)).alloc (vc k1 n1 t1)).alloc (vc k3 n3 t3)).heap.size (((w.alloc (vc k1 n1 t1)).alloc (vc k1 n1 t1)).alloc (vc k3 n3 t3)) V → (V.cell? ⟨w.heap.size, 0, none⟩ = some (.int .i64 k1) ∧ V.cell? ⟨w.heap.size, 1, none⟩ = some (.int .i64 n1) ∧ V.cell? ⟨w.heap.size, 2, none⟩ = some (.string t1)) ∧ (V.cell? ⟨w.heap.size + 1, 0, none⟩ = some (.int .i64 k1) ∧ V.cell? ⟨w.heap.size + 1, 1, none⟩ = some (.int .i64 n1) ∧ V.cell? ⟨w.heap.size + 1, 2, none⟩ = some (.string t1)) ∧ (V.cell? ⟨w.heap.size + 1 + 1, 0, none⟩ = some (.int .i64 k3) ∧ V.cell? ⟨w.heap.size + 1 + 1, 1, none⟩ = some (.int .i64 n3) ∧ V.cell? ⟨w.heap.size + 1 + 1, 2, none⟩ = some (.string t3))) := nine_later w k1 n1 t1 k1 n1 t1 k3 n3 t3
  have HB : Hid (∀ V, Below (((w.alloc (vc k1 n1 t1)).alloc (vc k1 n1 t1)).alloc (vc k3 n3 t3)).heap.size (((w.alloc (vc k1 n1 t1)).alloc (vc k1 n1 t1)).alloc (vc k3 n3 t3)) V → Below w.heap.size w V) := fun V h => three_below w _ _ _ h
  have HE0 : Hid (Env (((w.alloc (vc k1 n1 t1)).alloc (vc k1 n1 t1)).alloc (vc k3 n3 t3))) := hE.below (three_below w _ _ _ (Below.refl _ _))
  have C12 : Hid (∀ V, Calls Tryd.prog 6 #[.agg #[.int .i64 k1, .int .i64 n1, .string t1], .agg #[.int .i64 k1, .int .i64 n1, .string t1], .int .i64 c] V fun e w' => e = .returned (.int .i64 0) ∧ Below V.heap.size V w') := fun V => by have := cmp_walk k1 n1 t1 k1 n1 t1 c V; rw [hC11] at this; exact this
  have C23 : Hid (∀ V, Calls Tryd.prog 6 #[.agg #[.int .i64 k1, .int .i64 n1, .string t1], .agg #[.int .i64 k3, .int .i64 n3, .string t3], .int .i64 c] V fun e w' => e = .returned (.int .i64 (Y)) ∧ Below V.heap.size V w') := fun V => by have := cmp_walk k1 n1 t1 k3 n3 t3 c V; rw [hC13] at this; exact this
  have C13 : Hid (∀ V, Calls Tryd.prog 6 #[.agg #[.int .i64 k1, .int .i64 n1, .string t1], .agg #[.int .i64 k3, .int .i64 n3, .string t3], .int .i64 c] V fun e w' => e = .returned (.int .i64 (Y)) ∧ Below V.heap.size V w') := fun V => by have := cmp_walk k1 n1 t1 k3 n3 t3 c V; rw [hC13] at this; exact this
  have C21 : Hid (∀ V, Calls Tryd.prog 6 #[.agg #[.int .i64 k1, .int .i64 n1, .string t1], .agg #[.int .i64 k1, .int .i64 n1, .string t1], .int .i64 c] V fun e w' => e = .returned (.int .i64 0) ∧ Below V.heap.size V w') := fun V => by have := cmp_walk k1 n1 t1 k1 n1 t1 c V; rw [hC11] at this; exact this
  have C11 : Hid (∀ V, Calls Tryd.prog 6 #[.agg #[.int .i64 k1, .int .i64 n1, .string t1], .agg #[.int .i64 k1, .int .i64 n1, .string t1], .int .i64 c] V fun e w' => e = .returned (.int .i64 0) ∧ Below V.heap.size V w') := fun V => by have := cmp_walk k1 n1 t1 k1 n1 t1 c V; rw [hC11] at this; exact this
  have D12 : Hid (∀ V, Calls Tryd.prog 6 #[.agg #[.int .i64 k1, .int .i64 n1, .string t1], .agg #[.int .i64 k1, .int .i64 n1, .string t1], .int .i64 0] V fun e w' => e = .returned (.int .i64 0) ∧ Below V.heap.size V w') := fun V => by have := cmp_walk k1 n1 t1 k1 n1 t1 0 V; rw [hC11] at this; exact this
  have i3 : ¬ Y ≤ 0 := by omega
  clear hE hm1 hm3 hC13 hC11
  go_enter Tryd.func3, Tryd.ntmps3
  go_wp2_with (first
    | (go_at_call 4; with_reducible refine Calls.mono (head_walk _ HE0.out) ?_; rintro e w1 ⟨rfl, hb1⟩; have HX1 := hide hb1; obtain ⟨⟨a0, a1, a2⟩, ⟨b0, b1, b2⟩, c0, c1, c2⟩ := HW.out _ hb1; clear hb1)
    | (go_at_call 5; with_reducible refine Calls.mono (HM1.out _) ?_; rintro e w2 ⟨rfl, hb2⟩; have HX2 := hide (below_trans HX1.out hb2); obtain ⟨⟨a0, a1, a2⟩, ⟨b0, b1, b2⟩, c0, c1, c2⟩ := HW.out _ HX2.out; clear hb2)
    | (go_at_call 5; with_reducible refine Calls.mono (HM2.out _) ?_; rintro e w3 ⟨rfl, hb3⟩; have HX3 := hide (below_trans HX2.out hb3); obtain ⟨⟨a0, a1, a2⟩, ⟨b0, b1, b2⟩, c0, c1, c2⟩ := HW.out _ HX3.out; clear hb3)
    | (go_at_call 5; with_reducible refine Calls.mono (HM3.out _) ?_; rintro e w4 ⟨rfl, hb4⟩; have HX4 := hide (below_trans HX3.out hb4); obtain ⟨⟨a0, a1, a2⟩, ⟨b0, b1, b2⟩, c0, c1, c2⟩ := HW.out _ HX4.out; clear hb4))
  have HD4 : Hid (∀ V, Below w4.drew.heap.size w4.drew V → Below (((w.alloc (vc k1 n1 t1)).alloc (vc k1 n1 t1)).alloc (vc k3 n3 t3)).heap.size (((w.alloc (vc k1 n1 t1)).alloc (vc k1 n1 t1)).alloc (vc k3 n3 t3)) V) := fun V h => below_trans (below_trans HX4.out (Below.refl _ _).drew) h
  go_region_held3 (fun V => (V.cell? ⟨w.heap.size, 0, none⟩ = some (.int .i64 k1) ∧ V.cell? ⟨w.heap.size, 1, none⟩ = some (.int .i64 n1) ∧ V.cell? ⟨w.heap.size, 2, none⟩ = some (.string t1)) ∧ (V.cell? ⟨w.heap.size + 1, 0, none⟩ = some (.int .i64 k1) ∧ V.cell? ⟨w.heap.size + 1, 1, none⟩ = some (.int .i64 n1) ∧ V.cell? ⟨w.heap.size + 1, 2, none⟩ = some (.string t1)) ∧ (V.cell? ⟨w.heap.size + 1 + 1, 0, none⟩ = some (.int .i64 k3) ∧ V.cell? ⟨w.heap.size + 1 + 1, 1, none⟩ = some (.int .i64 n3) ∧ V.cell? ⟨w.heap.size + 1 + 1, 2, none⟩ = some (.string t3))) (first | exact HW.out _ (HD4.out _ (Below.refl _ _)) | exact HW.out _ HX5.out | exact HW.out _ HX6.out | exact HW.out _ HX7.out) (first
    | (go_at_call 6; with_reducible refine Calls.mono (C12.out _) ?_; rintro e w5 ⟨rfl, hb5⟩; have HX5 := hide (HD4.out _ hb5); clear hb5)
    | (go_at_call 6; with_reducible refine Calls.mono (C23.out _) ?_; rintro e w6 ⟨rfl, hb6⟩; have HX6 := hide (below_trans HX5.out hb6); clear hb6)
    | (go_at_call 6; with_reducible refine Calls.mono (C13.out _) ?_; rintro e w7 ⟨rfl, hb7⟩; have HX7 := hide (below_trans HX6.out hb7); clear hb7))
  obtain ⟨⟨a0, a1, a2⟩, ⟨b0, b1, b2⟩, c0, c1, c2⟩ := HW.out _ HX7.out
  go_wp2_with (first
    | (go_at_call 6; with_reducible refine Calls.mono (C21.out _) ?_; rintro e w8 ⟨rfl, hb8⟩; have HX8 := hide (below_trans HX7.out hb8); obtain ⟨⟨a0, a1, a2⟩, ⟨b0, b1, b2⟩, c0, c1, c2⟩ := HW.out _ HX8.out; clear hb8)
    | (go_at_call 6; with_reducible refine Calls.mono (C11.out _) ?_; rintro e w9 ⟨rfl, hb9⟩; have HX9 := hide (below_trans HX8.out hb9); obtain ⟨⟨a0, a1, a2⟩, ⟨b0, b1, b2⟩, c0, c1, c2⟩ := HW.out _ HX9.out; clear hb9)
    | (go_at_call 6; with_reducible refine Calls.mono (D12.out _) ?_; rintro e w10 ⟨rfl, hb10⟩; have HX10 := hide (below_trans HX9.out hb10); obtain ⟨⟨a0, a1, a2⟩, ⟨b0, b1, b2⟩, c0, c1, c2⟩ := HW.out _ HX10.out; clear hb10))
  all_goals go_ret
  all_goals exact ⟨by simp, HB.out _ HX10.out⟩

set_option maxHeartbeats 1000000 in
set_option maxRecDepth 10000 in
theorem order_sameB (k1 n1 : Int) (t1 : ByteArray) (k3 n3 : Int) (t3 : ByteArray) (c : Int) (hm1 : mayB k1 n1 t1 = true) (hm3 : mayB k3 n3 t3 = true) (Y : Int) (hC13 : cmpA k1 n1 t1 k3 n3 t3 c = Y) (hC11 : ∀ c, cmpA k1 n1 t1 k1 n1 t1 c = 0)
    (hy : Y ≤ 0) (w : World) (hE : Env w) : Calls Tryd.prog 3 #[val k1 n1 t1, val k1 n1 t1, val k3 n3 t3, .int .i64 c] w fun e w' => e = .returned (.bool true) ∧ Below w.heap.size w w' := by
  have HM1 : Hid (∀ V, Calls Tryd.prog 5 #[.agg #[.int .i64 k1, .int .i64 n1, .string t1]] V fun e w' => e = .returned (.bool true) ∧ Below V.heap.size V w') := fun V => by have := may_walk k1 n1 t1 V; rw [hm1] at this; exact this
  have HM2 : Hid (∀ V, Calls Tryd.prog 5 #[.agg #[.int .i64 k1, .int .i64 n1, .string t1]] V fun e w' => e = .returned (.bool true) ∧ Below V.heap.size V w') := fun V => by have := may_walk k1 n1 t1 V; rw [hm1] at this; exact this
  have HM3 : Hid (∀ V, Calls Tryd.prog 5 #[.agg #[.int .i64 k3, .int .i64 n3, .string t3]] V fun e w' => e = .returned (.bool true) ∧ Below V.heap.size V w') := fun V => by have := may_walk k3 n3 t3 V; rw [hm3] at this; exact this
  have HW : Hid (∀ V, Below (((w.alloc (vc k1 n1 t1)).alloc (vc k1 n1 t1)).alloc (vc k3 n3 t3)).heap.size (((w.alloc (vc k1 n1 t1)).alloc (vc k1 n1 t1)).alloc (vc k3 n3 t3)) V → (V.cell? ⟨w.heap.size, 0, none⟩ = some (.int .i64 k1) ∧ V.cell? ⟨w.heap.size, 1, none⟩ = some (.int .i64 n1) ∧ V.cell? ⟨w.heap.size, 2, none⟩ = some (.string t1)) ∧ (V.cell? ⟨w.heap.size + 1, 0, none⟩ = some (.int .i64 k1) ∧ V.cell? ⟨w.heap.size + 1, 1, none⟩ = some (.int .i64 n1) ∧ V.cell? ⟨w.heap.size + 1, 2, none⟩ = some (.string t1)) ∧ (V.cell? ⟨w.heap.size + 1 + 1, 0, none⟩ = some (.int .i64 k3) ∧ V.cell? ⟨w.heap.size + 1 + 1, 1, none⟩ = some (.int .i64 n3) ∧ V.cell? ⟨w.heap.size + 1 + 1, 2, none⟩ = some (.string t3))) := nine_later w k1 n1 t1 k1 n1 t1 k3 n3 t3
  have HB : Hid (∀ V, Below (((w.alloc (vc k1 n1 t1)).alloc (vc k1 n1 t1)).alloc (vc k3 n3 t3)).heap.size (((w.alloc (vc k1 n1 t1)).alloc (vc k1 n1 t1)).alloc (vc k3 n3 t3)) V → Below w.heap.size w V) := fun V h => three_below w _ _ _ h
  have HE0 : Hid (Env (((w.alloc (vc k1 n1 t1)).alloc (vc k1 n1 t1)).alloc (vc k3 n3 t3))) := hE.below (three_below w _ _ _ (Below.refl _ _))
  have C12 : Hid (∀ V, Calls Tryd.prog 6 #[.agg #[.int .i64 k1, .int .i64 n1, .string t1], .agg #[.int .i64 k1, .int .i64 n1, .string t1], .int .i64 c] V fun e w' => e = .returned (.int .i64 0) ∧ Below V.heap.size V w') := fun V => by have := cmp_walk k1 n1 t1 k1 n1 t1 c V; rw [hC11] at this; exact this
  have C23 : Hid (∀ V, Calls Tryd.prog 6 #[.agg #[.int .i64 k1, .int .i64 n1, .string t1], .agg #[.int .i64 k3, .int .i64 n3, .string t3], .int .i64 c] V fun e w' => e = .returned (.int .i64 (Y)) ∧ Below V.heap.size V w') := fun V => by have := cmp_walk k1 n1 t1 k3 n3 t3 c V; rw [hC13] at this; exact this
  have C13 : Hid (∀ V, Calls Tryd.prog 6 #[.agg #[.int .i64 k1, .int .i64 n1, .string t1], .agg #[.int .i64 k3, .int .i64 n3, .string t3], .int .i64 c] V fun e w' => e = .returned (.int .i64 (Y)) ∧ Below V.heap.size V w') := fun V => by have := cmp_walk k1 n1 t1 k3 n3 t3 c V; rw [hC13] at this; exact this
  have C21 : Hid (∀ V, Calls Tryd.prog 6 #[.agg #[.int .i64 k1, .int .i64 n1, .string t1], .agg #[.int .i64 k1, .int .i64 n1, .string t1], .int .i64 c] V fun e w' => e = .returned (.int .i64 0) ∧ Below V.heap.size V w') := fun V => by have := cmp_walk k1 n1 t1 k1 n1 t1 c V; rw [hC11] at this; exact this
  have C11 : Hid (∀ V, Calls Tryd.prog 6 #[.agg #[.int .i64 k1, .int .i64 n1, .string t1], .agg #[.int .i64 k1, .int .i64 n1, .string t1], .int .i64 c] V fun e w' => e = .returned (.int .i64 0) ∧ Below V.heap.size V w') := fun V => by have := cmp_walk k1 n1 t1 k1 n1 t1 c V; rw [hC11] at this; exact this
  have D12 : Hid (∀ V, Calls Tryd.prog 6 #[.agg #[.int .i64 k1, .int .i64 n1, .string t1], .agg #[.int .i64 k1, .int .i64 n1, .string t1], .int .i64 0] V fun e w' => e = .returned (.int .i64 0) ∧ Below V.heap.size V w') := fun V => by have := cmp_walk k1 n1 t1 k1 n1 t1 0 V; rw [hC11] at this; exact this
  have i3 : ¬ 0 < Y := by omega
  clear hE hm1 hm3 hC13 hC11
  go_enter Tryd.func3, Tryd.ntmps3
  go_wp2_with (first
    | (go_at_call 4; with_reducible refine Calls.mono (head_walk _ HE0.out) ?_; rintro e w1 ⟨rfl, hb1⟩; have HX1 := hide hb1; obtain ⟨⟨a0, a1, a2⟩, ⟨b0, b1, b2⟩, c0, c1, c2⟩ := HW.out _ hb1; clear hb1)
    | (go_at_call 5; with_reducible refine Calls.mono (HM1.out _) ?_; rintro e w2 ⟨rfl, hb2⟩; have HX2 := hide (below_trans HX1.out hb2); obtain ⟨⟨a0, a1, a2⟩, ⟨b0, b1, b2⟩, c0, c1, c2⟩ := HW.out _ HX2.out; clear hb2)
    | (go_at_call 5; with_reducible refine Calls.mono (HM2.out _) ?_; rintro e w3 ⟨rfl, hb3⟩; have HX3 := hide (below_trans HX2.out hb3); obtain ⟨⟨a0, a1, a2⟩, ⟨b0, b1, b2⟩, c0, c1, c2⟩ := HW.out _ HX3.out; clear hb3)
    | (go_at_call 5; with_reducible refine Calls.mono (HM3.out _) ?_; rintro e w4 ⟨rfl, hb4⟩; have HX4 := hide (below_trans HX3.out hb4); obtain ⟨⟨a0, a1, a2⟩, ⟨b0, b1, b2⟩, c0, c1, c2⟩ := HW.out _ HX4.out; clear hb4))
  have HD4 : Hid (∀ V, Below w4.drew.heap.size w4.drew V → Below (((w.alloc (vc k1 n1 t1)).alloc (vc k1 n1 t1)).alloc (vc k3 n3 t3)).heap.size (((w.alloc (vc k1 n1 t1)).alloc (vc k1 n1 t1)).alloc (vc k3 n3 t3)) V) := fun V h => below_trans (below_trans HX4.out (Below.refl _ _).drew) h
  go_region_held3 (fun V => (V.cell? ⟨w.heap.size, 0, none⟩ = some (.int .i64 k1) ∧ V.cell? ⟨w.heap.size, 1, none⟩ = some (.int .i64 n1) ∧ V.cell? ⟨w.heap.size, 2, none⟩ = some (.string t1)) ∧ (V.cell? ⟨w.heap.size + 1, 0, none⟩ = some (.int .i64 k1) ∧ V.cell? ⟨w.heap.size + 1, 1, none⟩ = some (.int .i64 n1) ∧ V.cell? ⟨w.heap.size + 1, 2, none⟩ = some (.string t1)) ∧ (V.cell? ⟨w.heap.size + 1 + 1, 0, none⟩ = some (.int .i64 k3) ∧ V.cell? ⟨w.heap.size + 1 + 1, 1, none⟩ = some (.int .i64 n3) ∧ V.cell? ⟨w.heap.size + 1 + 1, 2, none⟩ = some (.string t3))) (first | exact HW.out _ (HD4.out _ (Below.refl _ _)) | exact HW.out _ HX5.out | exact HW.out _ HX6.out | exact HW.out _ HX7.out) (first
    | (go_at_call 6; with_reducible refine Calls.mono (C12.out _) ?_; rintro e w5 ⟨rfl, hb5⟩; have HX5 := hide (HD4.out _ hb5); clear hb5)
    | (go_at_call 6; with_reducible refine Calls.mono (C23.out _) ?_; rintro e w6 ⟨rfl, hb6⟩; have HX6 := hide (below_trans HX5.out hb6); clear hb6)
    | (go_at_call 6; with_reducible refine Calls.mono (C13.out _) ?_; rintro e w7 ⟨rfl, hb7⟩; have HX7 := hide (below_trans HX6.out hb7); clear hb7))
  obtain ⟨⟨a0, a1, a2⟩, ⟨b0, b1, b2⟩, c0, c1, c2⟩ := HW.out _ HX7.out
  go_wp2_with (first
    | (go_at_call 6; with_reducible refine Calls.mono (C21.out _) ?_; rintro e w8 ⟨rfl, hb8⟩; have HX8 := hide (below_trans HX7.out hb8); obtain ⟨⟨a0, a1, a2⟩, ⟨b0, b1, b2⟩, c0, c1, c2⟩ := HW.out _ HX8.out; clear hb8)
    | (go_at_call 6; with_reducible refine Calls.mono (C11.out _) ?_; rintro e w9 ⟨rfl, hb9⟩; have HX9 := hide (below_trans HX8.out hb9); obtain ⟨⟨a0, a1, a2⟩, ⟨b0, b1, b2⟩, c0, c1, c2⟩ := HW.out _ HX9.out; clear hb9)
    | (go_at_call 6; with_reducible refine Calls.mono (D12.out _) ?_; rintro e w10 ⟨rfl, hb10⟩; have HX10 := hide (below_trans HX9.out hb10); obtain ⟨⟨a0, a1, a2⟩, ⟨b0, b1, b2⟩, c0, c1, c2⟩ := HW.out _ HX10.out; clear hb10))
  all_goals go_ret
  all_goals exact ⟨by simp, HB.out _ HX10.out⟩

theorem ba_of (t1 t2 : ByteArray) (h : t1.data.toList = t2.data.toList) : t1 = t2 := by
  cases t1 with | mk d1 => cases t2 with | mk d2 => cases d1; cases d2; simp at h; simp [h]

theorem order_walk (k1 n1 : Int) (t1 : ByteArray) (k2 n2 : Int) (t2 : ByteArray) (k3 n3 : Int) (t3 : ByteArray) (c : Int) (w : World) (hE : Env w) : Calls Tryd.prog 3 #[val k1 n1 t1, val k2 n2 t2, val k3 n3 t3, .int .i64 c] w fun e w' => e = .returned (.bool true) ∧ Below w.heap.size w w' := by
  by_cases hm1 : mayB k1 n1 t1 = true
  · by_cases hm2 : mayB k2 n2 t2 = true
    · by_cases hm3 : mayB k3 n3 t3 = true
      · have a12 : ∀ c, cmpA k1 n1 t1 k2 n2 t2 c = cmpV k1 n1 t1.data.toList k2 n2 t2.data.toList c := fun c => if_pos ⟨hm1, hm2⟩
        have a23 : cmpA k2 n2 t2 k3 n3 t3 c = cmpV k2 n2 t2.data.toList k3 n3 t3.data.toList c := if_pos ⟨hm2, hm3⟩
        have a13 : cmpA k1 n1 t1 k3 n3 t3 c = cmpV k1 n1 t1.data.toList k3 n3 t3.data.toList c := if_pos ⟨hm1, hm3⟩
        have a21 : cmpA k2 n2 t2 k1 n1 t1 c = -cmpV k1 n1 t1.data.toList k2 n2 t2.data.toList c := (if_pos ⟨hm2, hm1⟩).trans (cmpV_neg _ _ _ _ _ _ _)
        have a11 : ∀ c, cmpA k1 n1 t1 k1 n1 t1 c = 0 := fun c => (if_pos ⟨hm1, hm1⟩).trans (cmpV_self _ _ _ _)
        have hr := cmpV_range k1 n1 t1.data.toList k2 n2 t2.data.toList c
        by_cases hD : cmpV k1 n1 t1.data.toList k2 n2 t2.data.toList 0 = 0
        · obtain ⟨rfl, rfl, ht⟩ := cmpV_same (of_decide_eq_true hm1) (of_decide_eq_true hm2) hD
          obtain rfl := ba_of t1 t2 ht
          by_cases hy : 0 < cmpV k1 n1 t1.data.toList k3 n3 t3.data.toList c
          · exact order_sameA k1 n1 t1 k3 n3 t3 c hm1 hm3 _ a13 a11 hy w hE
          · exact order_sameB k1 n1 t1 k3 n3 t3 c hm1 hm3 _ a13 a11 (by omega) w hE
        · by_cases hx : 0 < cmpV k1 n1 t1.data.toList k2 n2 t2.data.toList c
          · exact order_yesP k1 n1 t1 k2 n2 t2 k3 n3 t3 c hm1 hm2 hm3 _ _ _ _ (a12 c) a23 a13 a21 (a11 c) (a12 0) hr.1 hr.2 hx hD w hE
          · by_cases hy : 0 < cmpV k2 n2 t2.data.toList k3 n3 t3.data.toList c
            · exact order_yesQ k1 n1 t1 k2 n2 t2 k3 n3 t3 c hm1 hm2 hm3 _ _ _ _ (a12 c) a23 a13 a21 (a11 c) (a12 0) hr.1 hr.2 (by omega) hy hD w hE
            · exact order_yesR k1 n1 t1 k2 n2 t2 k3 n3 t3 c hm1 hm2 hm3 _ _ _ _ (a12 c) a23 a13 a21 (a11 c) (a12 0) hr.1 hr.2 (by omega) (by omega) (cmpV_trans k1 n1 t1.data.toList k2 n2 t2.data.toList k3 n3 t3.data.toList c (by omega) (by omega)) hD w hE
      · exact order_noc k1 n1 t1 k2 n2 t2 k3 n3 t3 c hm1 hm2 (by simpa using hm3) w hE
    · exact order_nob k1 n1 t1 k2 n2 t2 k3 n3 t3 c hm1 (by simpa using hm2) w hE
  · exact order_noa k1 n1 t1 k2 n2 t2 k3 n3 t3 c (by simpa using hm1) w hE
theorem order_card (k1 n1 : Int) (t1 : ByteArray) (k2 n2 : Int) (t2 : ByteArray) (k3 n3 : Int) (t3 : ByteArray) (c : Int) (_ : -9223372036854775808 ≤ n1) (_ : n1 ≤ 9223372036854775807) (_ : -9223372036854775808 ≤ n2) (_ : n2 ≤ 9223372036854775807) (_ : -9223372036854775808 ≤ n3) (_ : n3 ≤ 9223372036854775807) (_ : -9223372036854775808 ≤ c) (_ : c ≤ 9223372036854775807) (w : World) (hE : Env w) : Calls Tryd.prog 3 #[val k1 n1 t1, val k2 n2 t2, val k3 n3 t3, .int .i64 c] w fun e w' => e = .returned (.bool true) ∧ Below w.heap.size w w' :=
  order_walk k1 n1 t1 k2 n2 t2 k3 n3 t3 c w hE
end Go.Proofs.YtghemaghbpekfabDoor
