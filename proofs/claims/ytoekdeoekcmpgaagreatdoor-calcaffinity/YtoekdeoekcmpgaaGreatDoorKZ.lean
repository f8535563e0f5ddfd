/- The walk of CalcAffinity. -/
import Derived.Test.YtoekdeoekcmpgaaGreatDoorKY
namespace Go.Proofs.YtoekdeoekcmpgaaGreatDoor
open Go.ChangeShapes Go.WideShapes Go.ChangeAt Go.RowKit
set_option linter.unusedVariables false

theorem two_later (w : World) (a b c x y z : Value) (T : TypeId) (V : World) (h : Below ((w.alloc (.cells #[a, b, c] T)).alloc (.cells #[x, y, z] T)).heap.size ((w.alloc (.cells #[a, b, c] T)).alloc (.cells #[x, y, z] T)) V) :
    (V.cell? ⟨w.heap.size, 0, none⟩ = some a ∧ V.cell? ⟨w.heap.size, 1, none⟩ = some b ∧ V.cell? ⟨w.heap.size, 2, none⟩ = some c) ∧
    (V.cell? ⟨w.heap.size + 1, 0, none⟩ = some x ∧ V.cell? ⟨w.heap.size + 1, 1, none⟩ = some y ∧ V.cell? ⟨w.heap.size + 1, 2, none⟩ = some z) ∧ Hid (Below w.heap.size w V) := by
  have e : ∀ i, i < 3 → (w.alloc (.cells #[a, b, c] T)).cell? ⟨w.heap.size, i, none⟩ = #[a, b, c][i]? := fun i hi => by
    unfold World.cell?
    have : (w.alloc (.cells #[a, b, c] T)).heap[w.heap.size]? = some (.cells #[a, b, c] T) := Array.getElem?_push_size
    simp only [this]
    rfl
  have e2 : ∀ i, i < 3 → ((w.alloc (.cells #[a, b, c] T)).alloc (.cells #[x, y, z] T)).cell? ⟨w.heap.size + 1, i, none⟩ = #[x, y, z][i]? := fun i hi => by
    unfold World.cell?
    have : ((w.alloc (.cells #[a, b, c] T)).alloc (.cells #[x, y, z] T)).heap[w.heap.size + 1]? = some (.cells #[x, y, z] T) := by
      show ((w.heap.push _).push _)[w.heap.size + 1]? = _
      rw [show w.heap.size + 1 = (w.heap.push (Obj.cells #[a, b, c] T)).size by simp]
      exact Array.getElem?_push_size
    simp only [this]
    rfl
  refine ⟨⟨cell_later h (cell_later (new_below _ _ rfl) (e 0 (by omega))), cell_later h (cell_later (new_below _ _ rfl) (e 1 (by omega))), cell_later h (cell_later (new_below _ _ rfl) (e 2 (by omega)))⟩, ⟨cell_later h (e2 0 (by omega)), cell_later h (e2 1 (by omega)), cell_later h (e2 2 (by omega))⟩, ?_⟩
  exact below_trans (below_trans (new_below w _ rfl) (new_below _ _ rfl)) h

set_option maxHeartbeats 1000000 in
set_option maxRecDepth 10000 in
theorem caff_walk (k n : Int) (t : ByteArray) (k2 n2 : Int) (t2 : ByteArray) (x y : Int) (h0 : -9223372036854775808 ≤ n) (h1 : n ≤ 9223372036854775807) (g0 : -9223372036854775808 ≤ n2) (g1 : n2 ≤ 9223372036854775807) (_ : -9223372036854775808 ≤ x) (_ : x ≤ 9223372036854775807) (_ : -9223372036854775808 ≤ y) (_ : y ≤ 9223372036854775807) (w : World) (hE : Env w) :
    Calls Tryz.prog 7 #[val k n t, val k2 n2 t2, .int .i64 x, .int .i64 y] w fun e w' => e = .returned (.bool true) ∧ Below w.heap.size w w' := by
  obtain ⟨a1, a2, a3, ha⟩ := appV_val (lentF y x) k n t
  obtain ⟨b1, b2, b3, hb⟩ := appV_val (lentF x y) k2 n2 t2
  obtain ⟨c1, c2, c3, hc⟩ := appV_val x k n t
  have HP : Hid (∀ V, Env V → Calls Tryz.prog 23 #[.agg #[.int .i64 k, .int .i64 n, .string t], .agg #[.int .i64 k2, .int .i64 n2, .string t2], .int .i64 x, .int .i64 y] V fun e w' => e = .returned (.tuple #[.agg #[.int .i64 a1, .int .i64 a2, .string a3], .agg #[.int .i64 b1, .int .i64 b2, .string b3]]) ∧ Below V.heap.size V w') := fun V hV => by have := pair_walk k n t k2 n2 t2 x y h0 h1 g0 g1 V hV; rw [ha, hb] at this; exact this
  have HQ : Hid (∀ V, Env V → Calls Tryz.prog 24 #[.agg #[.int .i64 k, .int .i64 n, .string t], .agg #[.int .i64 k2, .int .i64 n2, .string t2], .int .i64 x, .int .i64 y] V fun e w' => e = .returned (.tuple #[.agg #[.int .i64 a1, .int .i64 a2, .string a3], .agg #[.int .i64 b1, .int .i64 b2, .string b3]]) ∧ Below V.heap.size V w') := fun V hV => by have := rpair_walk k n t k2 n2 t2 x y h0 h1 g0 g1 V hV; rw [ha, hb] at this; exact this
  have HA : Hid (∀ V, Env V → Calls Tryz.prog 25 #[.int .i64 x, .agg #[.int .i64 k, .int .i64 n, .string t]] V fun e w' => e = .returned (.agg #[.int .i64 c1, .int .i64 c2, .string c3]) ∧ Below V.heap.size V w') := fun V hV => by have := apply_walk x k n t h0 h1 V hV; rw [hc] at this; exact this
  have HR : Hid (∀ V, Env V → Calls Tryz.prog 26 #[.int .i64 x, .agg #[.int .i64 k, .int .i64 n, .string t]] V fun e w' => e = .returned (.agg #[.int .i64 c1, .int .i64 c2, .string c3]) ∧ Below V.heap.size V w') := fun V hV => by have := rapply_walk x k n t h0 h1 V hV; rw [hc] at this; exact this
  have HW : Hid (∀ V, Below ((w.alloc (vcells k n t)).alloc (vcells k2 n2 t2)).heap.size ((w.alloc (vcells k n t)).alloc (vcells k2 n2 t2)) V → _) := two_later w (.int .i64 k) (.int .i64 n) (.string t) (.int .i64 k2) (.int .i64 n2) (.string t2) 24
  have HE : Hid (∀ V, Below w.heap.size w V → Env V) := fun V h => hE.below h
  have HE0 : Hid (Env ((w.alloc (vcells k n t)).alloc (vcells k2 n2 t2))) := hE.below (below_trans (new_below w _ rfl) (new_below _ _ rfl))
  clear ha hb hc hE
  go_enter Tryz.func7, Tryz.ntmps7
  go_wp2_with (first
    | (go_at_call 23; with_reducible refine Calls.mono (HP.out _ HE0.out) ?_; rintro e w1 ⟨rfl, hb1⟩; have HX1 := hide hb1; obtain ⟨⟨p0, p1, p2⟩, ⟨q0, q1, q2⟩, HB1⟩ := HW.out _ (below_trans HX1.out (below_trans (new_below w1 (vcells a1 a2 a3) rfl) (new_below _ (vcells b1 b2 b3) rfl))); clear hb1)
    | (go_at_call 24; with_reducible refine Calls.mono (HQ.out _ (HE.out _ HB1.out)) ?_; rintro e w2 ⟨rfl, hb2⟩; have HY2 := hide hb2; have HX2 := hide (below_trans HX1.out (below_trans (below_trans (new_below w1 (vcells a1 a2 a3) rfl) (new_below _ (vcells b1 b2 b3) rfl)) hb2)); clear hb2))
  have HY : Hid (∀ V, Below ((w2.alloc (vcells a1 a2 a3)).alloc (vcells b1 b2 b3)).heap.size ((w2.alloc (vcells a1 a2 a3)).alloc (vcells b1 b2 b3)) V → Below ((w.alloc (vcells k n t)).alloc (vcells k2 n2 t2)).heap.size ((w.alloc (vcells k n t)).alloc (vcells k2 n2 t2)) V) := fun V h => below_trans HX2.out (below_trans (below_trans (new_below w2 _ rfl) (new_below _ _ rfl)) h)
  have HS1 : Hid (∀ V, Below ((w2.alloc (vcells a1 a2 a3)).alloc (vcells b1 b2 b3)).heap.size ((w2.alloc (vcells a1 a2 a3)).alloc (vcells b1 b2 b3)) V → (V.cell? ⟨w.heap.size, 0, none⟩ = some (.int .i64 k) ∧ V.cell? ⟨w.heap.size, 1, none⟩ = some (.int .i64 n) ∧ V.cell? ⟨w.heap.size, 2, none⟩ = some (.string t)) ∧ (V.cell? ⟨w1.heap.size, 0, none⟩ = some (.int .i64 a1) ∧ V.cell? ⟨w1.heap.size, 1, none⟩ = some (.int .i64 a2) ∧ V.cell? ⟨w1.heap.size, 2, none⟩ = some (.string a3)) ∧ (V.cell? ⟨w1.heap.size + 1, 0, none⟩ = some (.int .i64 b1) ∧ V.cell? ⟨w1.heap.size + 1, 1, none⟩ = some (.int .i64 b2) ∧ V.cell? ⟨w1.heap.size + 1, 2, none⟩ = some (.string b3)) ∧ (V.cell? ⟨w2.heap.size, 0, none⟩ = some (.int .i64 a1) ∧ V.cell? ⟨w2.heap.size, 1, none⟩ = some (.int .i64 a2) ∧ V.cell? ⟨w2.heap.size, 2, none⟩ = some (.string a3)) ∧ (V.cell? ⟨w2.heap.size + 1, 0, none⟩ = some (.int .i64 b1) ∧ V.cell? ⟨w2.heap.size + 1, 1, none⟩ = some (.int .i64 b2) ∧ V.cell? ⟨w2.heap.size + 1, 2, none⟩ = some (.string b3))) := fun V h => by
    obtain ⟨p, -, -⟩ := HW.out _ (HY.out _ h)
    obtain ⟨q, r, -⟩ := two_later w1 (.int .i64 a1) (.int .i64 a2) (.string a3) (.int .i64 b1) (.int .i64 b2) (.string b3) 24 V (below_trans HY2.out (below_trans (below_trans (new_below w2 _ rfl) (new_below _ _ rfl)) h))
    obtain ⟨q2, r2, -⟩ := two_later w2 (.int .i64 a1) (.int .i64 a2) (.string a3) (.int .i64 b1) (.int .i64 b2) (.string b3) 24 V h
    exact ⟨p, q, r, q2, r2⟩
  have HD : Hid (∀ V, Below ((w2.alloc (vcells a1 a2 a3)).alloc (vcells b1 b2 b3)).drew.heap.size ((w2.alloc (vcells a1 a2 a3)).alloc (vcells b1 b2 b3)).drew V → Below ((w2.alloc (vcells a1 a2 a3)).alloc (vcells b1 b2 b3)).heap.size ((w2.alloc (vcells a1 a2 a3)).alloc (vcells b1 b2 b3)) V) := fun V h => below_trans (Below.refl _ _).drew h
  have HS0 : Hid ((((w2.alloc (vcells a1 a2 a3)).alloc (vcells b1 b2 b3)).drew.cell? ⟨w.heap.size, 0, none⟩ = some (.int .i64 k) ∧ ((w2.alloc (vcells a1 a2 a3)).alloc (vcells b1 b2 b3)).drew.cell? ⟨w.heap.size, 1, none⟩ = some (.int .i64 n) ∧ ((w2.alloc (vcells a1 a2 a3)).alloc (vcells b1 b2 b3)).drew.cell? ⟨w.heap.size, 2, none⟩ = some (.string t)) ∧ (((w2.alloc (vcells a1 a2 a3)).alloc (vcells b1 b2 b3)).drew.cell? ⟨w1.heap.size, 0, none⟩ = some (.int .i64 a1) ∧ ((w2.alloc (vcells a1 a2 a3)).alloc (vcells b1 b2 b3)).drew.cell? ⟨w1.heap.size, 1, none⟩ = some (.int .i64 a2) ∧ ((w2.alloc (vcells a1 a2 a3)).alloc (vcells b1 b2 b3)).drew.cell? ⟨w1.heap.size, 2, none⟩ = some (.string a3)) ∧ (((w2.alloc (vcells a1 a2 a3)).alloc (vcells b1 b2 b3)).drew.cell? ⟨w1.heap.size + 1, 0, none⟩ = some (.int .i64 b1) ∧ ((w2.alloc (vcells a1 a2 a3)).alloc (vcells b1 b2 b3)).drew.cell? ⟨w1.heap.size + 1, 1, none⟩ = some (.int .i64 b2) ∧ ((w2.alloc (vcells a1 a2 a3)).alloc (vcells b1 b2 b3)).drew.cell? ⟨w1.heap.size + 1, 2, none⟩ = some (.string b3)) ∧ (((w2.alloc (vcells a1 a2 a3)).alloc (vcells b1 b2 b3)).drew.cell? ⟨w2.heap.size, 0, none⟩ = some (.int .i64 a1) ∧ ((w2.alloc (vcells a1 a2 a3)).alloc (vcells b1 b2 b3)).drew.cell? ⟨w2.heap.size, 1, none⟩ = some (.int .i64 a2) ∧ ((w2.alloc (vcells a1 a2 a3)).alloc (vcells b1 b2 b3)).drew.cell? ⟨w2.heap.size, 2, none⟩ = some (.string a3)) ∧ (((w2.alloc (vcells a1 a2 a3)).alloc (vcells b1 b2 b3)).drew.cell? ⟨w2.heap.size + 1, 0, none⟩ = some (.int .i64 b1) ∧ ((w2.alloc (vcells a1 a2 a3)).alloc (vcells b1 b2 b3)).drew.cell? ⟨w2.heap.size + 1, 1, none⟩ = some (.int .i64 b2) ∧ ((w2.alloc (vcells a1 a2 a3)).alloc (vcells b1 b2 b3)).drew.cell? ⟨w2.heap.size + 1, 2, none⟩ = some (.string b3))) := HS1.out _ (HD.out _ (Below.refl _ _))
  have HEV : Hid (∀ V, Below ((w2.alloc (vcells a1 a2 a3)).alloc (vcells b1 b2 b3)).heap.size ((w2.alloc (vcells a1 a2 a3)).alloc (vcells b1 b2 b3)) V → Env V) := fun V h => HE0.out.below (HY.out _ h)
  have HED : Hid (Env ((w2.alloc (vcells a1 a2 a3)).alloc (vcells b1 b2 b3)).drew) := HEV.out _ (HD.out _ (Below.refl _ _))
  have HBV : Hid (∀ V, Below ((w2.alloc (vcells a1 a2 a3)).alloc (vcells b1 b2 b3)).heap.size ((w2.alloc (vcells a1 a2 a3)).alloc (vcells b1 b2 b3)) V → Below w.heap.size w V) := fun V h => below_trans (below_trans (new_below w _ rfl) (new_below _ _ rfl)) (HY.out _ h)
  go_region_held3 (fun V => (V.cell? ⟨w.heap.size, 0, none⟩ = some (.int .i64 k) ∧ V.cell? ⟨w.heap.size, 1, none⟩ = some (.int .i64 n) ∧ V.cell? ⟨w.heap.size, 2, none⟩ = some (.string t)) ∧ (V.cell? ⟨w1.heap.size, 0, none⟩ = some (.int .i64 a1) ∧ V.cell? ⟨w1.heap.size, 1, none⟩ = some (.int .i64 a2) ∧ V.cell? ⟨w1.heap.size, 2, none⟩ = some (.string a3)) ∧ (V.cell? ⟨w1.heap.size + 1, 0, none⟩ = some (.int .i64 b1) ∧ V.cell? ⟨w1.heap.size + 1, 1, none⟩ = some (.int .i64 b2) ∧ V.cell? ⟨w1.heap.size + 1, 2, none⟩ = some (.string b3)) ∧ (V.cell? ⟨w2.heap.size, 0, none⟩ = some (.int .i64 a1) ∧ V.cell? ⟨w2.heap.size, 1, none⟩ = some (.int .i64 a2) ∧ V.cell? ⟨w2.heap.size, 2, none⟩ = some (.string a3)) ∧ (V.cell? ⟨w2.heap.size + 1, 0, none⟩ = some (.int .i64 b1) ∧ V.cell? ⟨w2.heap.size + 1, 1, none⟩ = some (.int .i64 b2) ∧ V.cell? ⟨w2.heap.size + 1, 2, none⟩ = some (.string b3))) (first | with_reducible exact HS0.out | with_reducible exact HS1.out _ HX3.out | with_reducible exact HS1.out _ HX4.out | with_reducible exact HS1.out _ HX5.out) (first
    | (go_at_call 11; with_reducible refine Calls.mono (head3_walk _ HED.out) ?_; rintro e w3 ⟨rfl, hb3⟩; have HX3 := hide (HD.out _ hb3); clear hb3)
    | (go_at_call 25; with_reducible refine Calls.mono (HA.out _ (HEV.out _ HX3.out)) ?_; rintro e w4 ⟨rfl, hb4⟩; have HX4 := hide (below_trans HX3.out hb4); clear hb4)
    | (go_at_call 26; with_reducible refine Calls.mono (HR.out _ (HEV.out _ HX4.out)) ?_; rintro e w5 ⟨rfl, hb5⟩; have HX5 := hide (below_trans HX4.out hb5); clear hb5))
  all_goals (try go_wp2)
  all_goals go_ret
  all_goals exact ⟨by simp, HBV.out _ HX5.out⟩
end Go.Proofs.YtoekdeoekcmpgaaGreatDoor
