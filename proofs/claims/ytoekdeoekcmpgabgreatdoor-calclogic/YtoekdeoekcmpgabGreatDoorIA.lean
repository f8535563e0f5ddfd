/- Package calc: In of a list of one value. -/
import Derived.Test.YtoekdeoekcmpgabGreatDoorBT
import Derived.LoopN
namespace Go.Proofs.YtoekdeoekcmpgabGreatDoor
open Go.ChangeShapes Go.WideShapes Go.ChangeAt Go.RowKit
set_option linter.unusedVariables false

theorem apart3 {X : World} {b1 b2 : Nat} {o : Obj} (h : X.heap[b2]? = some o) (hne : b1 ≠ b2) (v0 v1 v2 : Value) : (((X.setCell ⟨b1, 0, none⟩ v0).setCell ⟨b1, 1, none⟩ v1).setCell ⟨b1, 2, none⟩ v2).heap[b2]? = some o := by
  rw [Below.heap_setCell _ _ _ _ (Ne.symm hne), Below.heap_setCell _ _ _ _ (Ne.symm hne), Below.heap_setCell _ _ _ _ (Ne.symm hne)]
  exact h

set_option maxHeartbeats 8000000 in
set_option maxRecDepth 10000 in
theorem in1_walk (c : Int) (P : World → Nat → Prop) (k n : Int) (t : ByteArray) (k2 n2 : Int) (t2 : ByteArray) (g : Nat) (hm1 : mayB k n t = true) (hm2 : mayB k2 n2 t2 = true) (e1 e2 : Int) (e3 : ByteArray) (o1 o2 : Int) (o3 : ByteArray)
    (HT : Hid (∀ V, Calls Tryz.prog 16 #[.int .i64 13, .int .i64 c] V fun e w' => ∃ p : Nat, e = .returned (.func (.func 58) #[] #[.pointer (some ⟨p, 0, none⟩)]) ∧ P w' p ∧ Below V.heap.size V w'))
    (HPb : Hid (∀ V W p, P V p → Below V.heap.size V W → P W p))
    (HC : Hid (∀ V p, Env V → P V p → Calls Tryz.prog 58 #[.agg #[.int .i64 k, .int .i64 n, .string t], .agg #[.int .i64 k2, .int .i64 n2, .string t2], .pointer (some ⟨p, 0, none⟩)] V fun e w' => e = .returned (val e1 e2 e3) ∧ Below V.heap.size V w'))
    (HO : Hid (∀ V p, Env V → V.cell? ⟨p, 0, none⟩ = some (.bool true) → Calls Tryz.prog 63 #[.agg #[.int .i64 1, .int .i64 0, .string ⟨#[]⟩], .agg #[.int .i64 e1, .int .i64 e2, .string e3], .pointer (some ⟨p, 0, none⟩)] V fun e w' => e = .returned (val o1 o2 o3) ∧ Below V.heap.size V w'))
    (w : World) (hE : Env w) (l0 : w.cell? ⟨g, 0, none⟩ = some (.int .i64 k2)) (l1 : w.cell? ⟨g, 1, none⟩ = some (.int .i64 n2)) (l2 : w.cell? ⟨g, 2, none⟩ = some (.string t2)) :
    Calls Tryz.prog 9 #[val k n t, .slice (some ⟨g, 0, none⟩) 1 1, .int .i64 c] w fun e w' => e = .returned (val o1 o2 o3) ∧ Below w.heap.size w w' := by
  have HM1 : Hid (∀ V, Calls Tryz.prog 15 #[.agg #[.int .i64 k, .int .i64 n, .string t]] V fun e w' => e = .returned (.bool true) ∧ Below V.heap.size V w') := fun V => by have := may_walk k n t V; rw [hm1] at this; exact this
  have HM2 : Hid (∀ V, Calls Tryz.prog 15 #[.agg #[.int .i64 k2, .int .i64 n2, .string t2]] V fun e w' => e = .returned (.bool true) ∧ Below V.heap.size V w') := fun V => by have := may_walk k2 n2 t2 V; rw [hm2] at this; exact this
  have HTr : Hid (∀ V, Calls Tryz.prog 17 #[.bool false] V fun e w' => e = .returned (val 1 0 ⟨#[]⟩) ∧ Below V.heap.size V w') := fun V => ktruth_walk false V
  have HE : Hid (∀ V, Below w.heap.size w V → Env V) := fun V h => hE.below h
  have HW : Hid (∀ V, _ → _) := pr_later w k n t
  have HL : Hid (∀ V, Below w.heap.size w V → V.cell? ⟨g, 0, none⟩ = some (.int .i64 k2) ∧ V.cell? ⟨g, 1, none⟩ = some (.int .i64 n2) ∧ V.cell? ⟨g, 2, none⟩ = some (.string t2)) := fun V h => ⟨cell_later h l0, cell_later h l1, cell_later h l2⟩
  clear hm1 hm2 hE l0 l1 l2
  go_enter Tryz.func9, Tryz.ntmps9
  go_wp2_with (first
    | (go_at_call 15; with_reducible refine Calls.mono (HM1.out _) ?_; rintro e w1 ⟨rfl, hb1⟩; have HX1 := hide hb1; obtain ⟨⟨p0, p1, p2⟩, q0, q1, q2, ⟨d0, d1, d2, f0, f1, f2⟩, HK1, HB1⟩ := HW.out _ HX1.out; clear hb1)
    | (go_at_call 16; with_reducible refine Calls.mono (HT.out _) ?_; rintro e w2 ⟨p, rfl, hA2, hb2⟩; have HX2 := hide (below_trans HX1.out hb2); have HA2 := hide hA2; obtain ⟨⟨p0, p1, p2⟩, q0, q1, q2, ⟨d0, d1, d2, f0, f1, f2⟩, HK2, HB2⟩ := HW.out _ HX2.out; clear hb2 hA2)
    | (go_at_call 16; with_reducible refine Calls.mono (ofTwo_or c _) ?_; rintro e w3 ⟨po, rfl, hA3, hb3⟩; have HX3 := hide (below_trans HX2.out hb3); have HA3 := hide (HPb.out _ _ _ HA2.out hb3); have HO3 := hide hA3; obtain ⟨⟨p0, p1, p2⟩, q0, q1, q2, ⟨d0, d1, d2, f0, f1, f2⟩, HK3, HB3⟩ := HW.out _ HX3.out; clear hb3 hA3)
    | (go_at_call 17; with_reducible refine Calls.mono (HTr.out _) ?_; rintro e w4 ⟨rfl, hb4⟩; have HX4 := hide (below_trans HX3.out hb4); have HA4 := hide (HPb.out _ _ _ HA3.out hb4); have HO4 := hide (cell_later hb4 HO3.out); obtain ⟨⟨p0, p1, p2⟩, q0, q1, q2, ⟨d0, d1, d2, f0, f1, f2⟩, HK4, HB4⟩ := HW.out _ HX4.out; clear hb4))
  obtain ⟨l0, l1, l2⟩ := HL.out (w4.alloc (vcells 1 0 ⟨#[]⟩)) (below_trans HB4.out (new_below w4 _ rfl))
  refine wp_loop_rounds 2 ?_
  rw [rounds_succ]
  go_wp2_with (first
    | (go_at_call 15; with_reducible refine Calls.mono (HM2.out _) ?_; rintro e w7 ⟨rfl, hb7⟩; have HX7 := hide (below_trans HX4.out (below_trans (new_below w4 _ rfl) (below_trans (new_below _ _ rfl) hb7))); have HY7 := hide hb7; obtain ⟨⟨p0, p1, p2⟩, q0, q1, q2, ⟨d0, d1, d2, f0, f1, f2⟩, HK7, HB7⟩ := HW.out _ HX7.out; obtain ⟨⟨i0, i1, i2⟩, ⟨v0, v1, v2⟩, -⟩ := two_later w4 (.int .i64 1) (.int .i64 0) (.string ⟨#[]⟩) (.int .i64 k2) (.int .i64 n2) (.string t2) 24 _ HY7.out; clear hb7))
  have HZ7 : Hid (∀ V, Below w7.drew.heap.size w7.drew V → Below (w4.alloc (vcells 1 0 ⟨#[]⟩)).heap.size (w4.alloc (vcells 1 0 ⟨#[]⟩)) V) := fun V h => below_trans (new_below _ _ rfl) (below_trans HY7.out (below_trans (Below.refl _ _).drew h))
  have HE7 : Hid (∀ V, Below w7.drew.heap.size w7.drew V → Env V) := fun V h => HE.out _ (below_trans HB7.out (below_trans (Below.refl _ _).drew h))
  have HA7 : Hid (∀ V, Below w7.drew.heap.size w7.drew V → P V p) := fun V h => HPb.out _ _ _ HA4.out (below_trans (new_below w4 _ rfl) (HZ7.out _ h))
  have HO7 : Hid (∀ V, Below w7.drew.heap.size w7.drew V → V.cell? ⟨po, 0, none⟩ = some (.bool true)) := fun V h => cell_later (below_trans (new_below w4 _ rfl) (HZ7.out _ h)) HO4.out
  obtain ⟨⟨p0, p1, p2⟩, -⟩ := HW.out w7.drew (below_trans HX7.out (Below.refl _ _).drew)
  obtain ⟨⟨i0, i1, i2⟩, ⟨v0, v1, v2⟩, -⟩ := two_later w4 (.int .i64 1) (.int .i64 0) (.string ⟨#[]⟩) (.int .i64 k2) (.int .i64 n2) (.string t2) 24 w7.drew (below_trans HY7.out (Below.refl _ _).drew)
  have HX7d := hide (below_trans HX7.out (Below.refl _ _).drew)
  go_region_with (first
    | (go_at_call 58; with_reducible refine Calls.mono (HC.out _ _ (HE7.out _ (Below.refl _ _)) (HA7.out _ (Below.refl _ _))) ?_; rintro e w8 ⟨rfl, hb8⟩; have HX8 := hide hb8; obtain ⟨j0, j1, j2, k0, k1, kk2⟩ := res_facts (res_block w4 (.int .i64 1) (.int .i64 0) (.string ⟨#[]⟩) 24 (HZ7.out _ HX8.out)); clear hb8)
    | (go_at_call 63; with_reducible refine Calls.mono (HO.out _ _ (HE7.out _ HX8.out) (HO7.out _ HX8.out)) ?_; rintro e w9 ⟨rfl, hb9⟩; have HX9 := hide (below_trans HX8.out hb9); obtain ⟨j0, j1, j2, k0, k1, kk2⟩ := res_facts (res_block w4 (.int .i64 1) (.int .i64 0) (.string ⟨#[]⟩) 24 (HZ7.out _ HX9.out)); clear hb9))
  all_goals
    obtain ⟨-, -, -, -, -, HK9, HB9⟩ := HW.out _ (below_trans HX7d.out HX9.out)
    have HKY := hide (apart3 HK9.out (show w4.heap.size ≠ w.heap.size + 1 by have := (Array.getElem?_eq_some_iff.1 HK4.out).1; omega) (.int .i64 o1) (.int .i64 o2) (.string o3))
    have HBY := hide (below_set3g HB9.out (show w.heap.size ≤ w4.heap.size by have := (Array.getElem?_eq_some_iff.1 HK4.out).1; omega) (.int .i64 o1) (.int .i64 o2) (.string o3))
    obtain ⟨d0, d1, d2, f0, f1, f2⟩ := res_facts HKY.out
    go_wp2_with fail
    rw [rounds_succ]
    go_wp2_with fail
    exact ret_valg Tryz.results9 rfl HKY.out ⟨rfl, below_set3g HBY.out (Nat.le_succ _) _ _ _⟩
end Go.Proofs.YtoekdeoekcmpgabGreatDoor
