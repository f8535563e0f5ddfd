/- The document's Pair. -/
import Derived.Test.YtoekdeoekcmpgaaGreatDoorKX
namespace Go.Proofs.YtoekdeoekcmpgaaGreatDoor
open Go.ChangeShapes Go.WideShapes Go.ChangeAt Go.RowKit
set_option linter.unusedVariables false

theorem appV_zero (k n : Int) (t : ByteArray) : appV 0 k n t = val k n t := by
  unfold appV
  split
  · rw [if_neg (fun h => absurd h.1 (by decide)), if_neg (fun h => absurd h.1 (by decide))]
  · rfl

/-- What two parameters' cells read as along a walk that stores two results. -/
theorem six_later (w : World) (k n : Int) (t : ByteArray) (k2 n2 : Int) (t2 : ByteArray) (V : World) (h : Below (w.heap.size + 1 + 1) ((((w.alloc (vcells k n t)).alloc (vcells k2 n2 t2)).alloc nilcells).alloc nilcells) V) : (V.cell? ⟨w.heap.size, 0, none⟩ = some (.int .i64 k) ∧ V.cell? ⟨w.heap.size, 1, none⟩ = some (.int .i64 n) ∧ V.cell? ⟨w.heap.size, 2, none⟩ = some (.string t)) ∧ (V.cell? ⟨w.heap.size + 1, 0, none⟩ = some (.int .i64 k2) ∧ V.cell? ⟨w.heap.size + 1, 1, none⟩ = some (.int .i64 n2) ∧ V.cell? ⟨w.heap.size + 1, 2, none⟩ = some (.string t2)) := by
  obtain ⟨⟨p0, p1, p2⟩, ⟨q0, q1, q2⟩, _⟩ := pr4_later w k n t k2 n2 t2 _ (Below.refl _ _)
  exact ⟨⟨(h.cell (by show w.heap.size < _; omega)).trans p0, (h.cell (by show w.heap.size < _; omega)).trans p1, (h.cell (by show w.heap.size < _; omega)).trans p2⟩, (h.cell (by show w.heap.size + 1 < _; omega)).trans q0, (h.cell (by show w.heap.size + 1 < _; omega)).trans q1, (h.cell (by show w.heap.size + 1 < _; omega)).trans q2⟩

theorem four_c (w : World) (A B C D : Obj) : ((((w.alloc A).alloc B).alloc C).alloc D).drew.heap[w.heap.size + 1 + 1]? = some C := by
  refine blk_alloc (V := ((w.alloc A).alloc B).alloc C) ?_ D
  show (((w.heap.push A).push B).push C)[w.heap.size + 1 + 1]? = _
  rw [show w.heap.size + 1 + 1 = ((w.heap.push A).push B).size by simp]
  exact Array.getElem?_push_size
theorem four_d (w : World) (A B C D : Obj) : ((((w.alloc A).alloc B).alloc C).alloc D).drew.heap[w.heap.size + 1 + 1 + 1]? = some D := by
  show ((((w.heap.push A).push B).push C).push D)[w.heap.size + 1 + 1 + 1]? = _
  rw [show w.heap.size + 1 + 1 + 1 = (((w.heap.push A).push B).push C).size by simp]
  exact Array.getElem?_push_size

set_option maxHeartbeats 1000000 in
set_option maxRecDepth 10000 in
theorem rpair_bi (k n : Int) (t : ByteArray) (k2 n2 : Int) (t2 : ByteArray) (y : Int) (hy : y ≠ 1) (h0 : -9223372036854775808 ≤ n) (h1 : n ≤ 9223372036854775807) (g0 : -9223372036854775808 ≤ n2) (g1 : n2 ≤ 9223372036854775807) (w : World) (hE : Env w) :
    Calls Tryz.prog 24 #[val k n t, val k2 n2 t2, .int .i64 1, .int .i64 y] w fun e w' => e = .returned (.tuple #[val k n t, appV 1 k2 n2 t2]) ∧ Below w.heap.size w w' := by
  obtain ⟨a1, a2, a3, ha⟩ := appV_val 1 k2 n2 t2
  have HA : Hid (∀ V, Env V → Calls Tryz.prog 26 #[.int .i64 1, .agg #[.int .i64 k2, .int .i64 n2, .string t2]] V fun e w' => e = .returned (.agg #[.int .i64 a1, .int .i64 a2, .string a3]) ∧ Below V.heap.size V w') := fun V hV => by have := rapply_walk 1 k2 n2 t2 g0 g1 V hV; rw [ha] at this; exact this
  rw [ha]
  have HW : Hid (∀ V, _ → _) := pr4_later w k n t k2 n2 t2
  have HE : Hid (∀ V, Below w.heap.size w V → Env V) := fun V h => hE.below h
  have HB0 : Hid (Below w.heap.size w ((((w.alloc (vcells k n t)).alloc (vcells k2 n2 t2)).alloc nilcells).alloc nilcells).drew) := (pr4_later w k n t k2 n2 t2 _ (Below.refl _ _)).2.2.2.2.2.2.drew
  have HD : Hid (∀ V, Below ((((w.alloc (vcells k n t)).alloc (vcells k2 n2 t2)).alloc nilcells).alloc nilcells).drew.heap.size ((((w.alloc (vcells k n t)).alloc (vcells k2 n2 t2)).alloc nilcells).alloc nilcells).drew V → Below ((((w.alloc (vcells k n t)).alloc (vcells k2 n2 t2)).alloc nilcells).alloc nilcells).heap.size ((((w.alloc (vcells k n t)).alloc (vcells k2 n2 t2)).alloc nilcells).alloc nilcells) V) := fun V h => below_trans (Below.refl _ _).drew h
  have HG : Hid (∀ V, Below ((((w.alloc (vcells k n t)).alloc (vcells k2 n2 t2)).alloc nilcells).alloc nilcells).heap.size ((((w.alloc (vcells k n t)).alloc (vcells k2 n2 t2)).alloc nilcells).alloc nilcells) V → Below (w.heap.size + 1 + 1) ((((w.alloc (vcells k n t)).alloc (vcells k2 n2 t2)).alloc nilcells).alloc nilcells) V) := fun V h => h.mono (by simp)
  have HS0 : Hid ((((((w.alloc (vcells k n t)).alloc (vcells k2 n2 t2)).alloc nilcells).alloc nilcells).drew.cell? ⟨w.heap.size, 0, none⟩ = some (.int .i64 k) ∧ ((((w.alloc (vcells k n t)).alloc (vcells k2 n2 t2)).alloc nilcells).alloc nilcells).drew.cell? ⟨w.heap.size, 1, none⟩ = some (.int .i64 n) ∧ ((((w.alloc (vcells k n t)).alloc (vcells k2 n2 t2)).alloc nilcells).alloc nilcells).drew.cell? ⟨w.heap.size, 2, none⟩ = some (.string t)) ∧ (((((w.alloc (vcells k n t)).alloc (vcells k2 n2 t2)).alloc nilcells).alloc nilcells).drew.cell? ⟨w.heap.size + 1, 0, none⟩ = some (.int .i64 k2) ∧ ((((w.alloc (vcells k n t)).alloc (vcells k2 n2 t2)).alloc nilcells).alloc nilcells).drew.cell? ⟨w.heap.size + 1, 1, none⟩ = some (.int .i64 n2) ∧ ((((w.alloc (vcells k n t)).alloc (vcells k2 n2 t2)).alloc nilcells).alloc nilcells).drew.cell? ⟨w.heap.size + 1, 2, none⟩ = some (.string t2))) := six_later w k n t k2 n2 t2 _ (HG.out _ (HD.out _ (Below.refl _ _)))
  have HS1 : Hid (∀ V, Below ((((w.alloc (vcells k n t)).alloc (vcells k2 n2 t2)).alloc nilcells).alloc nilcells).heap.size ((((w.alloc (vcells k n t)).alloc (vcells k2 n2 t2)).alloc nilcells).alloc nilcells) V → (V.cell? ⟨w.heap.size, 0, none⟩ = some (.int .i64 k) ∧ V.cell? ⟨w.heap.size, 1, none⟩ = some (.int .i64 n) ∧ V.cell? ⟨w.heap.size, 2, none⟩ = some (.string t)) ∧ (V.cell? ⟨w.heap.size + 1, 0, none⟩ = some (.int .i64 k2) ∧ V.cell? ⟨w.heap.size + 1, 1, none⟩ = some (.int .i64 n2) ∧ V.cell? ⟨w.heap.size + 1, 2, none⟩ = some (.string t2))) := fun V h => six_later w k n t k2 n2 t2 _ (HG.out _ h)
  have HS3 : Hid (∀ V a b c, Below ((((w.alloc (vcells k n t)).alloc (vcells k2 n2 t2)).alloc nilcells).alloc nilcells).heap.size ((((w.alloc (vcells k n t)).alloc (vcells k2 n2 t2)).alloc nilcells).alloc nilcells) V → ((((V.setCell ⟨w.heap.size + 1 + 1, 0, none⟩ a).setCell ⟨w.heap.size + 1 + 1, 1, none⟩ b).setCell ⟨w.heap.size + 1 + 1, 2, none⟩ c).cell? ⟨w.heap.size, 0, none⟩ = some (.int .i64 k) ∧ (((V.setCell ⟨w.heap.size + 1 + 1, 0, none⟩ a).setCell ⟨w.heap.size + 1 + 1, 1, none⟩ b).setCell ⟨w.heap.size + 1 + 1, 2, none⟩ c).cell? ⟨w.heap.size, 1, none⟩ = some (.int .i64 n) ∧ (((V.setCell ⟨w.heap.size + 1 + 1, 0, none⟩ a).setCell ⟨w.heap.size + 1 + 1, 1, none⟩ b).setCell ⟨w.heap.size + 1 + 1, 2, none⟩ c).cell? ⟨w.heap.size, 2, none⟩ = some (.string t)) ∧ ((((V.setCell ⟨w.heap.size + 1 + 1, 0, none⟩ a).setCell ⟨w.heap.size + 1 + 1, 1, none⟩ b).setCell ⟨w.heap.size + 1 + 1, 2, none⟩ c).cell? ⟨w.heap.size + 1, 0, none⟩ = some (.int .i64 k2) ∧ (((V.setCell ⟨w.heap.size + 1 + 1, 0, none⟩ a).setCell ⟨w.heap.size + 1 + 1, 1, none⟩ b).setCell ⟨w.heap.size + 1 + 1, 2, none⟩ c).cell? ⟨w.heap.size + 1, 1, none⟩ = some (.int .i64 n2) ∧ (((V.setCell ⟨w.heap.size + 1 + 1, 0, none⟩ a).setCell ⟨w.heap.size + 1 + 1, 1, none⟩ b).setCell ⟨w.heap.size + 1 + 1, 2, none⟩ c).cell? ⟨w.heap.size + 1, 2, none⟩ = some (.string t2))) := fun V a b c h => six_later w k n t k2 n2 t2 _ (Below.setCell (Below.setCell (Below.setCell (HG.out _ h) (Nat.le_refl _) _) (Nat.le_refl _) _) (Nat.le_refl _) _)
  have HS6 : Hid (∀ V a b c d e f, Below ((((w.alloc (vcells k n t)).alloc (vcells k2 n2 t2)).alloc nilcells).alloc nilcells).heap.size ((((w.alloc (vcells k n t)).alloc (vcells k2 n2 t2)).alloc nilcells).alloc nilcells) V → (((((((V.setCell ⟨w.heap.size + 1 + 1, 0, none⟩ a).setCell ⟨w.heap.size + 1 + 1, 1, none⟩ b).setCell ⟨w.heap.size + 1 + 1, 2, none⟩ c).setCell ⟨w.heap.size + 1 + 1 + 1, 0, none⟩ d).setCell ⟨w.heap.size + 1 + 1 + 1, 1, none⟩ e).setCell ⟨w.heap.size + 1 + 1 + 1, 2, none⟩ f).cell? ⟨w.heap.size, 0, none⟩ = some (.int .i64 k) ∧ ((((((V.setCell ⟨w.heap.size + 1 + 1, 0, none⟩ a).setCell ⟨w.heap.size + 1 + 1, 1, none⟩ b).setCell ⟨w.heap.size + 1 + 1, 2, none⟩ c).setCell ⟨w.heap.size + 1 + 1 + 1, 0, none⟩ d).setCell ⟨w.heap.size + 1 + 1 + 1, 1, none⟩ e).setCell ⟨w.heap.size + 1 + 1 + 1, 2, none⟩ f).cell? ⟨w.heap.size, 1, none⟩ = some (.int .i64 n) ∧ ((((((V.setCell ⟨w.heap.size + 1 + 1, 0, none⟩ a).setCell ⟨w.heap.size + 1 + 1, 1, none⟩ b).setCell ⟨w.heap.size + 1 + 1, 2, none⟩ c).setCell ⟨w.heap.size + 1 + 1 + 1, 0, none⟩ d).setCell ⟨w.heap.size + 1 + 1 + 1, 1, none⟩ e).setCell ⟨w.heap.size + 1 + 1 + 1, 2, none⟩ f).cell? ⟨w.heap.size, 2, none⟩ = some (.string t)) ∧ (((((((V.setCell ⟨w.heap.size + 1 + 1, 0, none⟩ a).setCell ⟨w.heap.size + 1 + 1, 1, none⟩ b).setCell ⟨w.heap.size + 1 + 1, 2, none⟩ c).setCell ⟨w.heap.size + 1 + 1 + 1, 0, none⟩ d).setCell ⟨w.heap.size + 1 + 1 + 1, 1, none⟩ e).setCell ⟨w.heap.size + 1 + 1 + 1, 2, none⟩ f).cell? ⟨w.heap.size + 1, 0, none⟩ = some (.int .i64 k2) ∧ ((((((V.setCell ⟨w.heap.size + 1 + 1, 0, none⟩ a).setCell ⟨w.heap.size + 1 + 1, 1, none⟩ b).setCell ⟨w.heap.size + 1 + 1, 2, none⟩ c).setCell ⟨w.heap.size + 1 + 1 + 1, 0, none⟩ d).setCell ⟨w.heap.size + 1 + 1 + 1, 1, none⟩ e).setCell ⟨w.heap.size + 1 + 1 + 1, 2, none⟩ f).cell? ⟨w.heap.size + 1, 1, none⟩ = some (.int .i64 n2) ∧ ((((((V.setCell ⟨w.heap.size + 1 + 1, 0, none⟩ a).setCell ⟨w.heap.size + 1 + 1, 1, none⟩ b).setCell ⟨w.heap.size + 1 + 1, 2, none⟩ c).setCell ⟨w.heap.size + 1 + 1 + 1, 0, none⟩ d).setCell ⟨w.heap.size + 1 + 1 + 1, 1, none⟩ e).setCell ⟨w.heap.size + 1 + 1 + 1, 2, none⟩ f).cell? ⟨w.heap.size + 1, 2, none⟩ = some (.string t2))) := fun V a b c d e f h => six_later w k n t k2 n2 t2 _ (Below.setCell (Below.setCell (Below.setCell (Below.setCell (Below.setCell (Below.setCell (HG.out _ h) (Nat.le_refl _) _) (Nat.le_refl _) _) (Nat.le_refl _) _) (Nat.le_succ _) _) (Nat.le_succ _) _) (Nat.le_succ _) _)
  have c1 : (y != 1) = true := by simp [bne, hy]
  clear hy
  clear ha hE
  go_enter Tryz.func24, Tryz.ntmps24
  go_wp2_with fail
  go_region_held3 (fun V => (V.cell? ⟨w.heap.size, 0, none⟩ = some (.int .i64 k) ∧ V.cell? ⟨w.heap.size, 1, none⟩ = some (.int .i64 n) ∧ V.cell? ⟨w.heap.size, 2, none⟩ = some (.string t)) ∧ (V.cell? ⟨w.heap.size + 1, 0, none⟩ = some (.int .i64 k2) ∧ V.cell? ⟨w.heap.size + 1, 1, none⟩ = some (.int .i64 n2) ∧ V.cell? ⟨w.heap.size + 1, 2, none⟩ = some (.string t2))) (first | with_reducible exact HS0.out | with_reducible exact HS1.out _ HX2.out | with_reducible exact HS3.out _ _ _ _ HX2.out | with_reducible exact HS6.out _ _ _ _ _ _ _ HX2.out) (first
    | (go_at_call 26; with_reducible refine Calls.mono (HA.out _ (HE.out _ HB0.out)) ?_; rintro e w2 ⟨rfl, hb2⟩; have HX2 := hide (HD.out _ hb2); obtain ⟨-, -, ⟨d0, d1, d2, f0, f1, f2⟩, ⟨u0, u1, u2, v0, v1, v2⟩, HK1, HK2, HB2⟩ := HW.out _ HX2.out; obtain ⟨x0, x1, x2, y0, y1, y2⟩ := res_facts ((set3_other (w := w2) (b := w.heap.size + 1 + 1 + 1) (b' := w.heap.size + 1 + 1) (Nat.succ_ne_self _) (.int .i64 k) (.int .i64 n) (.string t)).trans HK2.out); clear hb2))
  all_goals (try go_wp2)
  all_goals exact ret_two Tryz.results24 rfl rfl ((set3_other (Nat.ne_of_lt (Nat.lt_succ_self _)) _ _ _).trans (set3_block HK1.out _ _ _)) (set3_block ((set3_other (Nat.succ_ne_self _) _ _ _).trans HK2.out) _ _ _) ⟨rfl, below_set3g (below_set3g HB2.out (Nat.le_succ_of_le (Nat.le_succ _)) _ _ _) (Nat.le_succ_of_le (Nat.le_succ_of_le (Nat.le_succ _))) _ _ _⟩

set_option maxHeartbeats 1000000 in
set_option maxRecDepth 10000 in
theorem rpair_ai (k n : Int) (t : ByteArray) (k2 n2 : Int) (t2 : ByteArray) (x : Int) (hx : x ≠ 1) (h0 : -9223372036854775808 ≤ n) (h1 : n ≤ 9223372036854775807) (g0 : -9223372036854775808 ≤ n2) (g1 : n2 ≤ 9223372036854775807) (w : World) (hE : Env w) :
    Calls Tryz.prog 24 #[val k n t, val k2 n2 t2, .int .i64 x, .int .i64 1] w fun e w' => e = .returned (.tuple #[appV 1 k n t, val k2 n2 t2]) ∧ Below w.heap.size w w' := by
  obtain ⟨a1, a2, a3, ha⟩ := appV_val 1 k n t
  have HA : Hid (∀ V, Env V → Calls Tryz.prog 26 #[.int .i64 1, .agg #[.int .i64 k, .int .i64 n, .string t]] V fun e w' => e = .returned (.agg #[.int .i64 a1, .int .i64 a2, .string a3]) ∧ Below V.heap.size V w') := fun V hV => by have := rapply_walk 1 k n t h0 h1 V hV; rw [ha] at this; exact this
  rw [ha]
  have HW : Hid (∀ V, _ → _) := pr4_later w k n t k2 n2 t2
  have HE : Hid (∀ V, Below w.heap.size w V → Env V) := fun V h => hE.below h
  have HB0 : Hid (Below w.heap.size w ((((w.alloc (vcells k n t)).alloc (vcells k2 n2 t2)).alloc nilcells).alloc nilcells).drew) := (pr4_later w k n t k2 n2 t2 _ (Below.refl _ _)).2.2.2.2.2.2.drew
  have HD : Hid (∀ V, Below ((((w.alloc (vcells k n t)).alloc (vcells k2 n2 t2)).alloc nilcells).alloc nilcells).drew.heap.size ((((w.alloc (vcells k n t)).alloc (vcells k2 n2 t2)).alloc nilcells).alloc nilcells).drew V → Below ((((w.alloc (vcells k n t)).alloc (vcells k2 n2 t2)).alloc nilcells).alloc nilcells).heap.size ((((w.alloc (vcells k n t)).alloc (vcells k2 n2 t2)).alloc nilcells).alloc nilcells) V) := fun V h => below_trans (Below.refl _ _).drew h
  have HG : Hid (∀ V, Below ((((w.alloc (vcells k n t)).alloc (vcells k2 n2 t2)).alloc nilcells).alloc nilcells).heap.size ((((w.alloc (vcells k n t)).alloc (vcells k2 n2 t2)).alloc nilcells).alloc nilcells) V → Below (w.heap.size + 1 + 1) ((((w.alloc (vcells k n t)).alloc (vcells k2 n2 t2)).alloc nilcells).alloc nilcells) V) := fun V h => h.mono (by simp)
  have HS0 : Hid ((((((w.alloc (vcells k n t)).alloc (vcells k2 n2 t2)).alloc nilcells).alloc nilcells).drew.cell? ⟨w.heap.size, 0, none⟩ = some (.int .i64 k) ∧ ((((w.alloc (vcells k n t)).alloc (vcells k2 n2 t2)).alloc nilcells).alloc nilcells).drew.cell? ⟨w.heap.size, 1, none⟩ = some (.int .i64 n) ∧ ((((w.alloc (vcells k n t)).alloc (vcells k2 n2 t2)).alloc nilcells).alloc nilcells).drew.cell? ⟨w.heap.size, 2, none⟩ = some (.string t)) ∧ (((((w.alloc (vcells k n t)).alloc (vcells k2 n2 t2)).alloc nilcells).alloc nilcells).drew.cell? ⟨w.heap.size + 1, 0, none⟩ = some (.int .i64 k2) ∧ ((((w.alloc (vcells k n t)).alloc (vcells k2 n2 t2)).alloc nilcells).alloc nilcells).drew.cell? ⟨w.heap.size + 1, 1, none⟩ = some (.int .i64 n2) ∧ ((((w.alloc (vcells k n t)).alloc (vcells k2 n2 t2)).alloc nilcells).alloc nilcells).drew.cell? ⟨w.heap.size + 1, 2, none⟩ = some (.string t2))) := six_later w k n t k2 n2 t2 _ (HG.out _ (HD.out _ (Below.refl _ _)))
  have HS1 : Hid (∀ V, Below ((((w.alloc (vcells k n t)).alloc (vcells k2 n2 t2)).alloc nilcells).alloc nilcells).heap.size ((((w.alloc (vcells k n t)).alloc (vcells k2 n2 t2)).alloc nilcells).alloc nilcells) V → (V.cell? ⟨w.heap.size, 0, none⟩ = some (.int .i64 k) ∧ V.cell? ⟨w.heap.size, 1, none⟩ = some (.int .i64 n) ∧ V.cell? ⟨w.heap.size, 2, none⟩ = some (.string t)) ∧ (V.cell? ⟨w.heap.size + 1, 0, none⟩ = some (.int .i64 k2) ∧ V.cell? ⟨w.heap.size + 1, 1, none⟩ = some (.int .i64 n2) ∧ V.cell? ⟨w.heap.size + 1, 2, none⟩ = some (.string t2))) := fun V h => six_later w k n t k2 n2 t2 _ (HG.out _ h)
  have HS3 : Hid (∀ V a b c, Below ((((w.alloc (vcells k n t)).alloc (vcells k2 n2 t2)).alloc nilcells).alloc nilcells).heap.size ((((w.alloc (vcells k n t)).alloc (vcells k2 n2 t2)).alloc nilcells).alloc nilcells) V → ((((V.setCell ⟨w.heap.size + 1 + 1, 0, none⟩ a).setCell ⟨w.heap.size + 1 + 1, 1, none⟩ b).setCell ⟨w.heap.size + 1 + 1, 2, none⟩ c).cell? ⟨w.heap.size, 0, none⟩ = some (.int .i64 k) ∧ (((V.setCell ⟨w.heap.size + 1 + 1, 0, none⟩ a).setCell ⟨w.heap.size + 1 + 1, 1, none⟩ b).setCell ⟨w.heap.size + 1 + 1, 2, none⟩ c).cell? ⟨w.heap.size, 1, none⟩ = some (.int .i64 n) ∧ (((V.setCell ⟨w.heap.size + 1 + 1, 0, none⟩ a).setCell ⟨w.heap.size + 1 + 1, 1, none⟩ b).setCell ⟨w.heap.size + 1 + 1, 2, none⟩ c).cell? ⟨w.heap.size, 2, none⟩ = some (.string t)) ∧ ((((V.setCell ⟨w.heap.size + 1 + 1, 0, none⟩ a).setCell ⟨w.heap.size + 1 + 1, 1, none⟩ b).setCell ⟨w.heap.size + 1 + 1, 2, none⟩ c).cell? ⟨w.heap.size + 1, 0, none⟩ = some (.int .i64 k2) ∧ (((V.setCell ⟨w.heap.size + 1 + 1, 0, none⟩ a).setCell ⟨w.heap.size + 1 + 1, 1, none⟩ b).setCell ⟨w.heap.size + 1 + 1, 2, none⟩ c).cell? ⟨w.heap.size + 1, 1, none⟩ = some (.int .i64 n2) ∧ (((V.setCell ⟨w.heap.size + 1 + 1, 0, none⟩ a).setCell ⟨w.heap.size + 1 + 1, 1, none⟩ b).setCell ⟨w.heap.size + 1 + 1, 2, none⟩ c).cell? ⟨w.heap.size + 1, 2, none⟩ = some (.string t2))) := fun V a b c h => six_later w k n t k2 n2 t2 _ (Below.setCell (Below.setCell (Below.setCell (HG.out _ h) (Nat.le_refl _) _) (Nat.le_refl _) _) (Nat.le_refl _) _)
  have HS6 : Hid (∀ V a b c d e f, Below ((((w.alloc (vcells k n t)).alloc (vcells k2 n2 t2)).alloc nilcells).alloc nilcells).heap.size ((((w.alloc (vcells k n t)).alloc (vcells k2 n2 t2)).alloc nilcells).alloc nilcells) V → (((((((V.setCell ⟨w.heap.size + 1 + 1, 0, none⟩ a).setCell ⟨w.heap.size + 1 + 1, 1, none⟩ b).setCell ⟨w.heap.size + 1 + 1, 2, none⟩ c).setCell ⟨w.heap.size + 1 + 1 + 1, 0, none⟩ d).setCell ⟨w.heap.size + 1 + 1 + 1, 1, none⟩ e).setCell ⟨w.heap.size + 1 + 1 + 1, 2, none⟩ f).cell? ⟨w.heap.size, 0, none⟩ = some (.int .i64 k) ∧ ((((((V.setCell ⟨w.heap.size + 1 + 1, 0, none⟩ a).setCell ⟨w.heap.size + 1 + 1, 1, none⟩ b).setCell ⟨w.heap.size + 1 + 1, 2, none⟩ c).setCell ⟨w.heap.size + 1 + 1 + 1, 0, none⟩ d).setCell ⟨w.heap.size + 1 + 1 + 1, 1, none⟩ e).setCell ⟨w.heap.size + 1 + 1 + 1, 2, none⟩ f).cell? ⟨w.heap.size, 1, none⟩ = some (.int .i64 n) ∧ ((((((V.setCell ⟨w.heap.size + 1 + 1, 0, none⟩ a).setCell ⟨w.heap.size + 1 + 1, 1, none⟩ b).setCell ⟨w.heap.size + 1 + 1, 2, none⟩ c).setCell ⟨w.heap.size + 1 + 1 + 1, 0, none⟩ d).setCell ⟨w.heap.size + 1 + 1 + 1, 1, none⟩ e).setCell ⟨w.heap.size + 1 + 1 + 1, 2, none⟩ f).cell? ⟨w.heap.size, 2, none⟩ = some (.string t)) ∧ (((((((V.setCell ⟨w.heap.size + 1 + 1, 0, none⟩ a).setCell ⟨w.heap.size + 1 + 1, 1, none⟩ b).setCell ⟨w.heap.size + 1 + 1, 2, none⟩ c).setCell ⟨w.heap.size + 1 + 1 + 1, 0, none⟩ d).setCell ⟨w.heap.size + 1 + 1 + 1, 1, none⟩ e).setCell ⟨w.heap.size + 1 + 1 + 1, 2, none⟩ f).cell? ⟨w.heap.size + 1, 0, none⟩ = some (.int .i64 k2) ∧ ((((((V.setCell ⟨w.heap.size + 1 + 1, 0, none⟩ a).setCell ⟨w.heap.size + 1 + 1, 1, none⟩ b).setCell ⟨w.heap.size + 1 + 1, 2, none⟩ c).setCell ⟨w.heap.size + 1 + 1 + 1, 0, none⟩ d).setCell ⟨w.heap.size + 1 + 1 + 1, 1, none⟩ e).setCell ⟨w.heap.size + 1 + 1 + 1, 2, none⟩ f).cell? ⟨w.heap.size + 1, 1, none⟩ = some (.int .i64 n2) ∧ ((((((V.setCell ⟨w.heap.size + 1 + 1, 0, none⟩ a).setCell ⟨w.heap.size + 1 + 1, 1, none⟩ b).setCell ⟨w.heap.size + 1 + 1, 2, none⟩ c).setCell ⟨w.heap.size + 1 + 1 + 1, 0, none⟩ d).setCell ⟨w.heap.size + 1 + 1 + 1, 1, none⟩ e).setCell ⟨w.heap.size + 1 + 1 + 1, 2, none⟩ f).cell? ⟨w.heap.size + 1, 2, none⟩ = some (.string t2))) := fun V a b c d e f h => six_later w k n t k2 n2 t2 _ (Below.setCell (Below.setCell (Below.setCell (Below.setCell (Below.setCell (Below.setCell (HG.out _ h) (Nat.le_refl _) _) (Nat.le_refl _) _) (Nat.le_refl _) _) (Nat.le_succ _) _) (Nat.le_succ _) _) (Nat.le_succ _) _)
  have c1 : (x != 1) = true := by simp [bne, hx]
  have c2 : (x == 1) = false := by simpa using hx
  clear hx
  clear ha hE
  go_enter Tryz.func24, Tryz.ntmps24
  go_wp2_with fail
  go_region_held3 (fun V => (V.cell? ⟨w.heap.size, 0, none⟩ = some (.int .i64 k) ∧ V.cell? ⟨w.heap.size, 1, none⟩ = some (.int .i64 n) ∧ V.cell? ⟨w.heap.size, 2, none⟩ = some (.string t)) ∧ (V.cell? ⟨w.heap.size + 1, 0, none⟩ = some (.int .i64 k2) ∧ V.cell? ⟨w.heap.size + 1, 1, none⟩ = some (.int .i64 n2) ∧ V.cell? ⟨w.heap.size + 1, 2, none⟩ = some (.string t2))) (first | with_reducible exact HS0.out | with_reducible exact HS1.out _ HX2.out | with_reducible exact HS3.out _ _ _ _ HX2.out | with_reducible exact HS6.out _ _ _ _ _ _ _ HX2.out) (first
    | (go_at_call 26; with_reducible refine Calls.mono (HA.out _ (HE.out _ HB0.out)) ?_; rintro e w2 ⟨rfl, hb2⟩; have HX2 := hide (HD.out _ hb2); obtain ⟨-, -, ⟨d0, d1, d2, f0, f1, f2⟩, ⟨u0, u1, u2, v0, v1, v2⟩, HK1, HK2, HB2⟩ := HW.out _ HX2.out; obtain ⟨x0, x1, x2, y0, y1, y2⟩ := res_facts ((set3_other (w := w2) (b := w.heap.size + 1 + 1 + 1) (b' := w.heap.size + 1 + 1) (Nat.succ_ne_self _) (.int .i64 a1) (.int .i64 a2) (.string a3)).trans HK2.out); clear hb2))
  all_goals (try go_wp2)
  all_goals exact ret_two Tryz.results24 rfl rfl ((set3_other (Nat.ne_of_lt (Nat.lt_succ_self _)) _ _ _).trans (set3_block HK1.out _ _ _)) (set3_block ((set3_other (Nat.succ_ne_self _) _ _ _).trans HK2.out) _ _ _) ⟨rfl, below_set3g (below_set3g HB2.out (Nat.le_succ_of_le (Nat.le_succ _)) _ _ _) (Nat.le_succ_of_le (Nat.le_succ_of_le (Nat.le_succ _))) _ _ _⟩

set_option maxHeartbeats 1000000 in
set_option maxRecDepth 10000 in
theorem rpair_bt (k n : Int) (t : ByteArray) (k2 n2 : Int) (t2 : ByteArray)  (h0 : -9223372036854775808 ≤ n) (h1 : n ≤ 9223372036854775807) (g0 : -9223372036854775808 ≤ n2) (g1 : n2 ≤ 9223372036854775807) (w : World) (hE : Env w) :
    Calls Tryz.prog 24 #[val k n t, val k2 n2 t2, .int .i64 2, .int .i64 0] w fun e w' => e = .returned (.tuple #[val k n t, appV 2 k2 n2 t2]) ∧ Below w.heap.size w w' := by
  obtain ⟨a1, a2, a3, ha⟩ := appV_val 2 k2 n2 t2
  have HA : Hid (∀ V, Env V → Calls Tryz.prog 26 #[.int .i64 2, .agg #[.int .i64 k2, .int .i64 n2, .string t2]] V fun e w' => e = .returned (.agg #[.int .i64 a1, .int .i64 a2, .string a3]) ∧ Below V.heap.size V w') := fun V hV => by have := rapply_walk 2 k2 n2 t2 g0 g1 V hV; rw [ha] at this; exact this
  rw [ha]
  have HW : Hid (∀ V, _ → _) := pr4_later w k n t k2 n2 t2
  have HE : Hid (∀ V, Below w.heap.size w V → Env V) := fun V h => hE.below h
  have HB0 : Hid (Below w.heap.size w ((((w.alloc (vcells k n t)).alloc (vcells k2 n2 t2)).alloc nilcells).alloc nilcells).drew) := (pr4_later w k n t k2 n2 t2 _ (Below.refl _ _)).2.2.2.2.2.2.drew
  have HD : Hid (∀ V, Below ((((w.alloc (vcells k n t)).alloc (vcells k2 n2 t2)).alloc nilcells).alloc nilcells).drew.heap.size ((((w.alloc (vcells k n t)).alloc (vcells k2 n2 t2)).alloc nilcells).alloc nilcells).drew V → Below ((((w.alloc (vcells k n t)).alloc (vcells k2 n2 t2)).alloc nilcells).alloc nilcells).heap.size ((((w.alloc (vcells k n t)).alloc (vcells k2 n2 t2)).alloc nilcells).alloc nilcells) V) := fun V h => below_trans (Below.refl _ _).drew h
  have HG : Hid (∀ V, Below ((((w.alloc (vcells k n t)).alloc (vcells k2 n2 t2)).alloc nilcells).alloc nilcells).heap.size ((((w.alloc (vcells k n t)).alloc (vcells k2 n2 t2)).alloc nilcells).alloc nilcells) V → Below (w.heap.size + 1 + 1) ((((w.alloc (vcells k n t)).alloc (vcells k2 n2 t2)).alloc nilcells).alloc nilcells) V) := fun V h => h.mono (by simp)
  have HS0 : Hid ((((((w.alloc (vcells k n t)).alloc (vcells k2 n2 t2)).alloc nilcells).alloc nilcells).drew.cell? ⟨w.heap.size, 0, none⟩ = some (.int .i64 k) ∧ ((((w.alloc (vcells k n t)).alloc (vcells k2 n2 t2)).alloc nilcells).alloc nilcells).drew.cell? ⟨w.heap.size, 1, none⟩ = some (.int .i64 n) ∧ ((((w.alloc (vcells k n t)).alloc (vcells k2 n2 t2)).alloc nilcells).alloc nilcells).drew.cell? ⟨w.heap.size, 2, none⟩ = some (.string t)) ∧ (((((w.alloc (vcells k n t)).alloc (vcells k2 n2 t2)).alloc nilcells).alloc nilcells).drew.cell? ⟨w.heap.size + 1, 0, none⟩ = some (.int .i64 k2) ∧ ((((w.alloc (vcells k n t)).alloc (vcells k2 n2 t2)).alloc nilcells).alloc nilcells).drew.cell? ⟨w.heap.size + 1, 1, none⟩ = some (.int .i64 n2) ∧ ((((w.alloc (vcells k n t)).alloc (vcells k2 n2 t2)).alloc nilcells).alloc nilcells).drew.cell? ⟨w.heap.size + 1, 2, none⟩ = some (.string t2))) := six_later w k n t k2 n2 t2 _ (HG.out _ (HD.out _ (Below.refl _ _)))
  have HS1 : Hid (∀ V, Below ((((w.alloc (vcells k n t)).alloc (vcells k2 n2 t2)).alloc nilcells).alloc nilcells).heap.size ((((w.alloc (vcells k n t)).alloc (vcells k2 n2 t2)).alloc nilcells).alloc nilcells) V → (V.cell? ⟨w.heap.size, 0, none⟩ = some (.int .i64 k) ∧ V.cell? ⟨w.heap.size, 1, none⟩ = some (.int .i64 n) ∧ V.cell? ⟨w.heap.size, 2, none⟩ = some (.string t)) ∧ (V.cell? ⟨w.heap.size + 1, 0, none⟩ = some (.int .i64 k2) ∧ V.cell? ⟨w.heap.size + 1, 1, none⟩ = some (.int .i64 n2) ∧ V.cell? ⟨w.heap.size + 1, 2, none⟩ = some (.string t2))) := fun V h => six_later w k n t k2 n2 t2 _ (HG.out _ h)
  have HS3 : Hid (∀ V a b c, Below ((((w.alloc (vcells k n t)).alloc (vcells k2 n2 t2)).alloc nilcells).alloc nilcells).heap.size ((((w.alloc (vcells k n t)).alloc (vcells k2 n2 t2)).alloc nilcells).alloc nilcells) V → ((((V.setCell ⟨w.heap.size + 1 + 1, 0, none⟩ a).setCell ⟨w.heap.size + 1 + 1, 1, none⟩ b).setCell ⟨w.heap.size + 1 + 1, 2, none⟩ c).cell? ⟨w.heap.size, 0, none⟩ = some (.int .i64 k) ∧ (((V.setCell ⟨w.heap.size + 1 + 1, 0, none⟩ a).setCell ⟨w.heap.size + 1 + 1, 1, none⟩ b).setCell ⟨w.heap.size + 1 + 1, 2, none⟩ c).cell? ⟨w.heap.size, 1, none⟩ = some (.int .i64 n) ∧ (((V.setCell ⟨w.heap.size + 1 + 1, 0, none⟩ a).setCell ⟨w.heap.size + 1 + 1, 1, none⟩ b).setCell ⟨w.heap.size + 1 + 1, 2, none⟩ c).cell? ⟨w.heap.size, 2, none⟩ = some (.string t)) ∧ ((((V.setCell ⟨w.heap.size + 1 + 1, 0, none⟩ a).setCell ⟨w.heap.size + 1 + 1, 1, none⟩ b).setCell ⟨w.heap.size + 1 + 1, 2, none⟩ c).cell? ⟨w.heap.size + 1, 0, none⟩ = some (.int .i64 k2) ∧ (((V.setCell ⟨w.heap.size + 1 + 1, 0, none⟩ a).setCell ⟨w.heap.size + 1 + 1, 1, none⟩ b).setCell ⟨w.heap.size + 1 + 1, 2, none⟩ c).cell? ⟨w.heap.size + 1, 1, none⟩ = some (.int .i64 n2) ∧ (((V.setCell ⟨w.heap.size + 1 + 1, 0, none⟩ a).setCell ⟨w.heap.size + 1 + 1, 1, none⟩ b).setCell ⟨w.heap.size + 1 + 1, 2, none⟩ c).cell? ⟨w.heap.size + 1, 2, none⟩ = some (.string t2))) := fun V a b c h => six_later w k n t k2 n2 t2 _ (Below.setCell (Below.setCell (Below.setCell (HG.out _ h) (Nat.le_refl _) _) (Nat.le_refl _) _) (Nat.le_refl _) _)
  have HS6 : Hid (∀ V a b c d e f, Below ((((w.alloc (vcells k n t)).alloc (vcells k2 n2 t2)).alloc nilcells).alloc nilcells).heap.size ((((w.alloc (vcells k n t)).alloc (vcells k2 n2 t2)).alloc nilcells).alloc nilcells) V → (((((((V.setCell ⟨w.heap.size + 1 + 1, 0, none⟩ a).setCell ⟨w.heap.size + 1 + 1, 1, none⟩ b).setCell ⟨w.heap.size + 1 + 1, 2, none⟩ c).setCell ⟨w.heap.size + 1 + 1 + 1, 0, none⟩ d).setCell ⟨w.heap.size + 1 + 1 + 1, 1, none⟩ e).setCell ⟨w.heap.size + 1 + 1 + 1, 2, none⟩ f).cell? ⟨w.heap.size, 0, none⟩ = some (.int .i64 k) ∧ ((((((V.setCell ⟨w.heap.size + 1 + 1, 0, none⟩ a).setCell ⟨w.heap.size + 1 + 1, 1, none⟩ b).setCell ⟨w.heap.size + 1 + 1, 2, none⟩ c).setCell ⟨w.heap.size + 1 + 1 + 1, 0, none⟩ d).setCell ⟨w.heap.size + 1 + 1 + 1, 1, none⟩ e).setCell ⟨w.heap.size + 1 + 1 + 1, 2, none⟩ f).cell? ⟨w.heap.size, 1, none⟩ = some (.int .i64 n) ∧ ((((((V.setCell ⟨w.heap.size + 1 + 1, 0, none⟩ a).setCell ⟨w.heap.size + 1 + 1, 1, none⟩ b).setCell ⟨w.heap.size + 1 + 1, 2, none⟩ c).setCell ⟨w.heap.size + 1 + 1 + 1, 0, none⟩ d).setCell ⟨w.heap.size + 1 + 1 + 1, 1, none⟩ e).setCell ⟨w.heap.size + 1 + 1 + 1, 2, none⟩ f).cell? ⟨w.heap.size, 2, none⟩ = some (.string t)) ∧ (((((((V.setCell ⟨w.heap.size + 1 + 1, 0, none⟩ a).setCell ⟨w.heap.size + 1 + 1, 1, none⟩ b).setCell ⟨w.heap.size + 1 + 1, 2, none⟩ c).setCell ⟨w.heap.size + 1 + 1 + 1, 0, none⟩ d).setCell ⟨w.heap.size + 1 + 1 + 1, 1, none⟩ e).setCell ⟨w.heap.size + 1 + 1 + 1, 2, none⟩ f).cell? ⟨w.heap.size + 1, 0, none⟩ = some (.int .i64 k2) ∧ ((((((V.setCell ⟨w.heap.size + 1 + 1, 0, none⟩ a).setCell ⟨w.heap.size + 1 + 1, 1, none⟩ b).setCell ⟨w.heap.size + 1 + 1, 2, none⟩ c).setCell ⟨w.heap.size + 1 + 1 + 1, 0, none⟩ d).setCell ⟨w.heap.size + 1 + 1 + 1, 1, none⟩ e).setCell ⟨w.heap.size + 1 + 1 + 1, 2, none⟩ f).cell? ⟨w.heap.size + 1, 1, none⟩ = some (.int .i64 n2) ∧ ((((((V.setCell ⟨w.heap.size + 1 + 1, 0, none⟩ a).setCell ⟨w.heap.size + 1 + 1, 1, none⟩ b).setCell ⟨w.heap.size + 1 + 1, 2, none⟩ c).setCell ⟨w.heap.size + 1 + 1 + 1, 0, none⟩ d).setCell ⟨w.heap.size + 1 + 1 + 1, 1, none⟩ e).setCell ⟨w.heap.size + 1 + 1 + 1, 2, none⟩ f).cell? ⟨w.heap.size + 1, 2, none⟩ = some (.string t2))) := fun V a b c d e f h => six_later w k n t k2 n2 t2 _ (Below.setCell (Below.setCell (Below.setCell (Below.setCell (Below.setCell (Below.setCell (HG.out _ h) (Nat.le_refl _) _) (Nat.le_refl _) _) (Nat.le_refl _) _) (Nat.le_succ _) _) (Nat.le_succ _) _) (Nat.le_succ _) _)
  clear ha hE
  go_enter Tryz.func24, Tryz.ntmps24
  go_wp2_with fail
  go_region_held3 (fun V => (V.cell? ⟨w.heap.size, 0, none⟩ = some (.int .i64 k) ∧ V.cell? ⟨w.heap.size, 1, none⟩ = some (.int .i64 n) ∧ V.cell? ⟨w.heap.size, 2, none⟩ = some (.string t)) ∧ (V.cell? ⟨w.heap.size + 1, 0, none⟩ = some (.int .i64 k2) ∧ V.cell? ⟨w.heap.size + 1, 1, none⟩ = some (.int .i64 n2) ∧ V.cell? ⟨w.heap.size + 1, 2, none⟩ = some (.string t2))) (first | with_reducible exact HS0.out | with_reducible exact HS1.out _ HX2.out | with_reducible exact HS3.out _ _ _ _ HX2.out | with_reducible exact HS6.out _ _ _ _ _ _ _ HX2.out) (first
    | (go_at_call 26; with_reducible refine Calls.mono (HA.out _ (HE.out _ HB0.out)) ?_; rintro e w2 ⟨rfl, hb2⟩; have HX2 := hide (HD.out _ hb2); obtain ⟨-, -, ⟨d0, d1, d2, f0, f1, f2⟩, ⟨u0, u1, u2, v0, v1, v2⟩, HK1, HK2, HB2⟩ := HW.out _ HX2.out; obtain ⟨x0, x1, x2, y0, y1, y2⟩ := res_facts ((set3_other (w := w2) (b := w.heap.size + 1 + 1 + 1) (b' := w.heap.size + 1 + 1) (Nat.succ_ne_self _) (.int .i64 k) (.int .i64 n) (.string t)).trans HK2.out); clear hb2))
  all_goals (try go_wp2)
  all_goals exact ret_two Tryz.results24 rfl rfl ((set3_other (Nat.ne_of_lt (Nat.lt_succ_self _)) _ _ _).trans (set3_block HK1.out _ _ _)) (set3_block ((set3_other (Nat.succ_ne_self _) _ _ _).trans HK2.out) _ _ _) ⟨rfl, below_set3g (below_set3g HB2.out (Nat.le_succ_of_le (Nat.le_succ _)) _ _ _) (Nat.le_succ_of_le (Nat.le_succ_of_le (Nat.le_succ _))) _ _ _⟩

set_option maxHeartbeats 1000000 in
set_option maxRecDepth 10000 in
theorem rpair_at (k n : Int) (t : ByteArray) (k2 n2 : Int) (t2 : ByteArray)  (h0 : -9223372036854775808 ≤ n) (h1 : n ≤ 9223372036854775807) (g0 : -9223372036854775808 ≤ n2) (g1 : n2 ≤ 9223372036854775807) (w : World) (hE : Env w) :
    Calls Tryz.prog 24 #[val k n t, val k2 n2 t2, .int .i64 0, .int .i64 2] w fun e w' => e = .returned (.tuple #[appV 2 k n t, val k2 n2 t2]) ∧ Below w.heap.size w w' := by
  obtain ⟨a1, a2, a3, ha⟩ := appV_val 2 k n t
  have HA : Hid (∀ V, Env V → Calls Tryz.prog 26 #[.int .i64 2, .agg #[.int .i64 k, .int .i64 n, .string t]] V fun e w' => e = .returned (.agg #[.int .i64 a1, .int .i64 a2, .string a3]) ∧ Below V.heap.size V w') := fun V hV => by have := rapply_walk 2 k n t h0 h1 V hV; rw [ha] at this; exact this
  rw [ha]
  have HW : Hid (∀ V, _ → _) := pr4_later w k n t k2 n2 t2
  have HE : Hid (∀ V, Below w.heap.size w V → Env V) := fun V h => hE.below h
  have HB0 : Hid (Below w.heap.size w ((((w.alloc (vcells k n t)).alloc (vcells k2 n2 t2)).alloc nilcells).alloc nilcells).drew) := (pr4_later w k n t k2 n2 t2 _ (Below.refl _ _)).2.2.2.2.2.2.drew
  have HD : Hid (∀ V, Below ((((w.alloc (vcells k n t)).alloc (vcells k2 n2 t2)).alloc nilcells).alloc nilcells).drew.heap.size ((((w.alloc (vcells k n t)).alloc (vcells k2 n2 t2)).alloc nilcells).alloc nilcells).drew V → Below ((((w.alloc (vcells k n t)).alloc (vcells k2 n2 t2)).alloc nilcells).alloc nilcells).heap.size ((((w.alloc (vcells k n t)).alloc (vcells k2 n2 t2)).alloc nilcells).alloc nilcells) V) := fun V h => below_trans (Below.refl _ _).drew h
  have HG : Hid (∀ V, Below ((((w.alloc (vcells k n t)).alloc (vcells k2 n2 t2)).alloc nilcells).alloc nilcells).heap.size ((((w.alloc (vcells k n t)).alloc (vcells k2 n2 t2)).alloc nilcells).alloc nilcells) V → Below (w.heap.size + 1 + 1) ((((w.alloc (vcells k n t)).alloc (vcells k2 n2 t2)).alloc nilcells).alloc nilcells) V) := fun V h => h.mono (by simp)
  have HS0 : Hid ((((((w.alloc (vcells k n t)).alloc (vcells k2 n2 t2)).alloc nilcells).alloc nilcells).drew.cell? ⟨w.heap.size, 0, none⟩ = some (.int .i64 k) ∧ ((((w.alloc (vcells k n t)).alloc (vcells k2 n2 t2)).alloc nilcells).alloc nilcells).drew.cell? ⟨w.heap.size, 1, none⟩ = some (.int .i64 n) ∧ ((((w.alloc (vcells k n t)).alloc (vcells k2 n2 t2)).alloc nilcells).alloc nilcells).drew.cell? ⟨w.heap.size, 2, none⟩ = some (.string t)) ∧ (((((w.alloc (vcells k n t)).alloc (vcells k2 n2 t2)).alloc nilcells).alloc nilcells).drew.cell? ⟨w.heap.size + 1, 0, none⟩ = some (.int .i64 k2) ∧ ((((w.alloc (vcells k n t)).alloc (vcells k2 n2 t2)).alloc nilcells).alloc nilcells).drew.cell? ⟨w.heap.size + 1, 1, none⟩ = some (.int .i64 n2) ∧ ((((w.alloc (vcells k n t)).alloc (vcells k2 n2 t2)).alloc nilcells).alloc nilcells).drew.cell? ⟨w.heap.size + 1, 2, none⟩ = some (.string t2))) := six_later w k n t k2 n2 t2 _ (HG.out _ (HD.out _ (Below.refl _ _)))
  have HS1 : Hid (∀ V, Below ((((w.alloc (vcells k n t)).alloc (vcells k2 n2 t2)).alloc nilcells).alloc nilcells).heap.size ((((w.alloc (vcells k n t)).alloc (vcells k2 n2 t2)).alloc nilcells).alloc nilcells) V → (V.cell? ⟨w.heap.size, 0, none⟩ = some (.int .i64 k) ∧ V.cell? ⟨w.heap.size, 1, none⟩ = some (.int .i64 n) ∧ V.cell? ⟨w.heap.size, 2, none⟩ = some (.string t)) ∧ (V.cell? ⟨w.heap.size + 1, 0, none⟩ = some (.int .i64 k2) ∧ V.cell? ⟨w.heap.size + 1, 1, none⟩ = some (.int .i64 n2) ∧ V.cell? ⟨w.heap.size + 1, 2, none⟩ = some (.string t2))) := fun V h => six_later w k n t k2 n2 t2 _ (HG.out _ h)
  have HS3 : Hid (∀ V a b c, Below ((((w.alloc (vcells k n t)).alloc (vcells k2 n2 t2)).alloc nilcells).alloc nilcells).heap.size ((((w.alloc (vcells k n t)).alloc (vcells k2 n2 t2)).alloc nilcells).alloc nilcells) V → ((((V.setCell ⟨w.heap.size + 1 + 1, 0, none⟩ a).setCell ⟨w.heap.size + 1 + 1, 1, none⟩ b).setCell ⟨w.heap.size + 1 + 1, 2, none⟩ c).cell? ⟨w.heap.size, 0, none⟩ = some (.int .i64 k) ∧ (((V.setCell ⟨w.heap.size + 1 + 1, 0, none⟩ a).setCell ⟨w.heap.size + 1 + 1, 1, none⟩ b).setCell ⟨w.heap.size + 1 + 1, 2, none⟩ c).cell? ⟨w.heap.size, 1, none⟩ = some (.int .i64 n) ∧ (((V.setCell ⟨w.heap.size + 1 + 1, 0, none⟩ a).setCell ⟨w.heap.size + 1 + 1, 1, none⟩ b).setCell ⟨w.heap.size + 1 + 1, 2, none⟩ c).cell? ⟨w.heap.size, 2, none⟩ = some (.string t)) ∧ ((((V.setCell ⟨w.heap.size + 1 + 1, 0, none⟩ a).setCell ⟨w.heap.size + 1 + 1, 1, none⟩ b).setCell ⟨w.heap.size + 1 + 1, 2, none⟩ c).cell? ⟨w.heap.size + 1, 0, none⟩ = some (.int .i64 k2) ∧ (((V.setCell ⟨w.heap.size + 1 + 1, 0, none⟩ a).setCell ⟨w.heap.size + 1 + 1, 1, none⟩ b).setCell ⟨w.heap.size + 1 + 1, 2, none⟩ c).cell? ⟨w.heap.size + 1, 1, none⟩ = some (.int .i64 n2) ∧ (((V.setCell ⟨w.heap.size + 1 + 1, 0, none⟩ a).setCell ⟨w.heap.size + 1 + 1, 1, none⟩ b).setCell ⟨w.heap.size + 1 + 1, 2, none⟩ c).cell? ⟨w.heap.size + 1, 2, none⟩ = some (.string t2))) := fun V a b c h => six_later w k n t k2 n2 t2 _ (Below.setCell (Below.setCell (Below.setCell (HG.out _ h) (Nat.le_refl _) _) (Nat.le_refl _) _) (Nat.le_refl _) _)
  have HS6 : Hid (∀ V a b c d e f, Below ((((w.alloc (vcells k n t)).alloc (vcells k2 n2 t2)).alloc nilcells).alloc nilcells).heap.size ((((w.alloc (vcells k n t)).alloc (vcells k2 n2 t2)).alloc nilcells).alloc nilcells) V → (((((((V.setCell ⟨w.heap.size + 1 + 1, 0, none⟩ a).setCell ⟨w.heap.size + 1 + 1, 1, none⟩ b).setCell ⟨w.heap.size + 1 + 1, 2, none⟩ c).setCell ⟨w.heap.size + 1 + 1 + 1, 0, none⟩ d).setCell ⟨w.heap.size + 1 + 1 + 1, 1, none⟩ e).setCell ⟨w.heap.size + 1 + 1 + 1, 2, none⟩ f).cell? ⟨w.heap.size, 0, none⟩ = some (.int .i64 k) ∧ ((((((V.setCell ⟨w.heap.size + 1 + 1, 0, none⟩ a).setCell ⟨w.heap.size + 1 + 1, 1, none⟩ b).setCell ⟨w.heap.size + 1 + 1, 2, none⟩ c).setCell ⟨w.heap.size + 1 + 1 + 1, 0, none⟩ d).setCell ⟨w.heap.size + 1 + 1 + 1, 1, none⟩ e).setCell ⟨w.heap.size + 1 + 1 + 1, 2, none⟩ f).cell? ⟨w.heap.size, 1, none⟩ = some (.int .i64 n) ∧ ((((((V.setCell ⟨w.heap.size + 1 + 1, 0, none⟩ a).setCell ⟨w.heap.size + 1 + 1, 1, none⟩ b).setCell ⟨w.heap.size + 1 + 1, 2, none⟩ c).setCell ⟨w.heap.size + 1 + 1 + 1, 0, none⟩ d).setCell ⟨w.heap.size + 1 + 1 + 1, 1, none⟩ e).setCell ⟨w.heap.size + 1 + 1 + 1, 2, none⟩ f).cell? ⟨w.heap.size, 2, none⟩ = some (.string t)) ∧ (((((((V.setCell ⟨w.heap.size + 1 + 1, 0, none⟩ a).setCell ⟨w.heap.size + 1 + 1, 1, none⟩ b).setCell ⟨w.heap.size + 1 + 1, 2, none⟩ c).setCell ⟨w.heap.size + 1 + 1 + 1, 0, none⟩ d).setCell ⟨w.heap.size + 1 + 1 + 1, 1, none⟩ e).setCell ⟨w.heap.size + 1 + 1 + 1, 2, none⟩ f).cell? ⟨w.heap.size + 1, 0, none⟩ = some (.int .i64 k2) ∧ ((((((V.setCell ⟨w.heap.size + 1 + 1, 0, none⟩ a).setCell ⟨w.heap.size + 1 + 1, 1, none⟩ b).setCell ⟨w.heap.size + 1 + 1, 2, none⟩ c).setCell ⟨w.heap.size + 1 + 1 + 1, 0, none⟩ d).setCell ⟨w.heap.size + 1 + 1 + 1, 1, none⟩ e).setCell ⟨w.heap.size + 1 + 1 + 1, 2, none⟩ f).cell? ⟨w.heap.size + 1, 1, none⟩ = some (.int .i64 n2) ∧ ((((((V.setCell ⟨w.heap.size + 1 + 1, 0, none⟩ a).setCell ⟨w.heap.size + 1 + 1, 1, none⟩ b).setCell ⟨w.heap.size + 1 + 1, 2, none⟩ c).setCell ⟨w.heap.size + 1 + 1 + 1, 0, none⟩ d).setCell ⟨w.heap.size + 1 + 1 + 1, 1, none⟩ e).setCell ⟨w.heap.size + 1 + 1 + 1, 2, none⟩ f).cell? ⟨w.heap.size + 1, 2, none⟩ = some (.string t2))) := fun V a b c d e f h => six_later w k n t k2 n2 t2 _ (Below.setCell (Below.setCell (Below.setCell (Below.setCell (Below.setCell (Below.setCell (HG.out _ h) (Nat.le_refl _) _) (Nat.le_refl _) _) (Nat.le_refl _) _) (Nat.le_succ _) _) (Nat.le_succ _) _) (Nat.le_succ _) _)
  clear ha hE
  go_enter Tryz.func24, Tryz.ntmps24
  go_wp2_with fail
  go_region_held3 (fun V => (V.cell? ⟨w.heap.size, 0, none⟩ = some (.int .i64 k) ∧ V.cell? ⟨w.heap.size, 1, none⟩ = some (.int .i64 n) ∧ V.cell? ⟨w.heap.size, 2, none⟩ = some (.string t)) ∧ (V.cell? ⟨w.heap.size + 1, 0, none⟩ = some (.int .i64 k2) ∧ V.cell? ⟨w.heap.size + 1, 1, none⟩ = some (.int .i64 n2) ∧ V.cell? ⟨w.heap.size + 1, 2, none⟩ = some (.string t2))) (first | with_reducible exact HS0.out | with_reducible exact HS1.out _ HX2.out | with_reducible exact HS3.out _ _ _ _ HX2.out | with_reducible exact HS6.out _ _ _ _ _ _ _ HX2.out) (first
    | (go_at_call 26; with_reducible refine Calls.mono (HA.out _ (HE.out _ HB0.out)) ?_; rintro e w2 ⟨rfl, hb2⟩; have HX2 := hide (HD.out _ hb2); obtain ⟨-, -, ⟨d0, d1, d2, f0, f1, f2⟩, ⟨u0, u1, u2, v0, v1, v2⟩, HK1, HK2, HB2⟩ := HW.out _ HX2.out; obtain ⟨x0, x1, x2, y0, y1, y2⟩ := res_facts ((set3_other (w := w2) (b := w.heap.size + 1 + 1 + 1) (b' := w.heap.size + 1 + 1) (Nat.succ_ne_self _) (.int .i64 a1) (.int .i64 a2) (.string a3)).trans HK2.out); clear hb2))
  all_goals (try go_wp2)
  all_goals exact ret_two Tryz.results24 rfl rfl ((set3_other (Nat.ne_of_lt (Nat.lt_succ_self _)) _ _ _).trans (set3_block HK1.out _ _ _)) (set3_block ((set3_other (Nat.succ_ne_self _) _ _ _).trans HK2.out) _ _ _) ⟨rfl, below_set3g (below_set3g HB2.out (Nat.le_succ_of_le (Nat.le_succ _)) _ _ _) (Nat.le_succ_of_le (Nat.le_succ_of_le (Nat.le_succ _))) _ _ _⟩

set_option maxHeartbeats 1000000 in
set_option maxRecDepth 10000 in
theorem rpair_n1 (k n : Int) (t : ByteArray) (k2 n2 : Int) (t2 : ByteArray)  (w : World) :
    Calls Tryz.prog 24 #[val k n t, val k2 n2 t2, .int .i64 1, .int .i64 1] w fun e w' => e = .returned (.tuple #[val k n t, val k2 n2 t2]) ∧ Below w.heap.size w w' := by
  go_enter Tryz.func24, Tryz.ntmps24
  go_wp2_with fail
  go_region
  all_goals (try go_wp2)
  all_goals exact ret_two Tryz.results24 rfl rfl (four_c w _ _ _ _) (four_d w _ _ _ _) ⟨rfl, (below_trans (below_trans (below_trans (below_trans (new_below w _ rfl) (new_below _ _ rfl)) (new_below _ _ rfl)) (new_below _ _ rfl)) (Below.refl _ _)).drew⟩

set_option maxHeartbeats 1000000 in
set_option maxRecDepth 10000 in
theorem rpair_n2 (k n : Int) (t : ByteArray) (k2 n2 : Int) (t2 : ByteArray) (y : Int) (h1 : y ≠ 1) (h0 : y ≠ 0) (w : World) :
    Calls Tryz.prog 24 #[val k n t, val k2 n2 t2, .int .i64 2, .int .i64 y] w fun e w' => e = .returned (.tuple #[val k n t, val k2 n2 t2]) ∧ Below w.heap.size w w' := by
  have c1 : (y == 1) = false := by simpa using h1
  have c2 : (y == 0) = false := by simpa using h0
  have c3 : (y != 1) = true := by simp [bne, h1]
  clear h1 h0
  by_cases h2 : y = 2
  · subst h2
    go_enter Tryz.func24, Tryz.ntmps24
    go_wp2_with fail
    go_region
    all_goals (try go_wp2)
    all_goals exact ret_two Tryz.results24 rfl rfl (four_c w _ _ _ _) (four_d w _ _ _ _) ⟨rfl, (below_trans (below_trans (below_trans (below_trans (new_below w _ rfl) (new_below _ _ rfl)) (new_below _ _ rfl)) (new_below _ _ rfl)) (Below.refl _ _)).drew⟩
  have c4 : (y == 2) = false := by simpa using h2
  go_enter Tryz.func24, Tryz.ntmps24
  go_wp2_with fail
  go_region
  all_goals (try go_wp2)
  all_goals exact ret_two Tryz.results24 rfl rfl (four_c w _ _ _ _) (four_d w _ _ _ _) ⟨rfl, (below_trans (below_trans (below_trans (below_trans (new_below w _ rfl) (new_below _ _ rfl)) (new_below _ _ rfl)) (new_below _ _ rfl)) (Below.refl _ _)).drew⟩

set_option maxHeartbeats 1000000 in
set_option maxRecDepth 10000 in
theorem rpair_n3 (k n : Int) (t : ByteArray) (k2 n2 : Int) (t2 : ByteArray) (x : Int) (h1 : x ≠ 1) (h2 : x ≠ 2) (h0 : x ≠ 0) (w : World) :
    Calls Tryz.prog 24 #[val k n t, val k2 n2 t2, .int .i64 x, .int .i64 2] w fun e w' => e = .returned (.tuple #[val k n t, val k2 n2 t2]) ∧ Below w.heap.size w w' := by
  have c1 : (x == 1) = false := by simpa using h1
  have c2 : (x == 2) = false := by simpa using h2
  have c3 : (x == 0) = false := by simpa using h0
  have c4 : (x != 1) = true := by simp [bne, h1]
  clear h1 h2 h0
  go_enter Tryz.func24, Tryz.ntmps24
  go_wp2_with fail
  go_region
  all_goals (try go_wp2)
  all_goals exact ret_two Tryz.results24 rfl rfl (four_c w _ _ _ _) (four_d w _ _ _ _) ⟨rfl, (below_trans (below_trans (below_trans (below_trans (new_below w _ rfl) (new_below _ _ rfl)) (new_below _ _ rfl)) (new_below _ _ rfl)) (Below.refl _ _)).drew⟩

set_option maxHeartbeats 1000000 in
set_option maxRecDepth 10000 in
theorem rpair_n4 (k n : Int) (t : ByteArray) (k2 n2 : Int) (t2 : ByteArray) (x y : Int) (h1 : x ≠ 1) (h2 : x ≠ 2) (g1 : y ≠ 1) (g2 : y ≠ 2) (w : World) :
    Calls Tryz.prog 24 #[val k n t, val k2 n2 t2, .int .i64 x, .int .i64 y] w fun e w' => e = .returned (.tuple #[val k n t, val k2 n2 t2]) ∧ Below w.heap.size w w' := by
  have c1 : (x == 1) = false := by simpa using h1
  have c2 : (x == 2) = false := by simpa using h2
  have c3 : (y == 1) = false := by simpa using g1
  have c4 : (y == 2) = false := by simpa using g2
  clear h1 h2 g1 g2
  go_enter Tryz.func24, Tryz.ntmps24
  go_wp2_with fail
  go_region
  all_goals (try go_wp2)
  all_goals exact ret_two Tryz.results24 rfl rfl (four_c w _ _ _ _) (four_d w _ _ _ _) ⟨rfl, (below_trans (below_trans (below_trans (below_trans (new_below w _ rfl) (new_below _ _ rfl)) (new_below _ _ rfl)) (new_below _ _ rfl)) (Below.refl _ _)).drew⟩


theorem rpair_walk (k n : Int) (t : ByteArray) (k2 n2 : Int) (t2 : ByteArray) (x y : Int) (h0 : -9223372036854775808 ≤ n) (h1 : n ≤ 9223372036854775807) (g0 : -9223372036854775808 ≤ n2) (g1 : n2 ≤ 9223372036854775807) (w : World) (hE : Env w) :
    Calls Tryz.prog 24 #[val k n t, val k2 n2 t2, .int .i64 x, .int .i64 y] w fun e w' => e = .returned (.tuple #[appV (lentF y x) k n t, appV (lentF x y) k2 n2 t2]) ∧ Below w.heap.size w w' := by
  by_cases x1 : x = 1
  · subst x1
    by_cases y1 : y = 1
    · subst y1
      rw [show lentF 1 1 = 0 from rfl, appV_zero, appV_zero]
      exact rpair_n1 k n t k2 n2 t2 w
    · have e1 : lentF y 1 = 0 := by unfold lentF; rw [if_neg (by omega)]
      have e2 : lentF 1 y = 1 := by unfold lentF; rw [if_pos (.inl ⟨rfl, y1⟩)]
      rw [e1, e2, appV_zero]
      exact rpair_bi k n t k2 n2 t2 y y1 h0 h1 g0 g1 w hE
  by_cases y1 : y = 1
  · subst y1
    have e1 : lentF 1 x = 1 := by unfold lentF; rw [if_pos (.inl ⟨rfl, x1⟩)]
    have e2 : lentF x 1 = 0 := by unfold lentF; rw [if_neg (by omega)]
    rw [e1, e2, appV_zero]
    exact rpair_ai k n t k2 n2 t2 x x1 h0 h1 g0 g1 w hE
  by_cases x2 : x = 2
  · subst x2
    by_cases y0 : y = 0
    · subst y0
      rw [show lentF 0 2 = 0 from rfl, show lentF 2 0 = 2 from rfl, appV_zero]
      exact rpair_bt k n t k2 n2 t2 h0 h1 g0 g1 w hE
    · have e1 : lentF y 2 = 0 := by unfold lentF; rw [if_neg (by omega)]
      have e2 : lentF 2 y = 0 := by unfold lentF; rw [if_neg (by omega)]
      rw [e1, e2, appV_zero, appV_zero]
      exact rpair_n2 k n t k2 n2 t2 y y1 y0 w
  by_cases y2 : y = 2
  · subst y2
    by_cases x0 : x = 0
    · subst x0
      rw [show lentF 2 0 = 2 from rfl, show lentF 0 2 = 0 from rfl, appV_zero]
      exact rpair_at k n t k2 n2 t2 h0 h1 g0 g1 w hE
    · have e1 : lentF 2 x = 0 := by unfold lentF; rw [if_neg (by omega)]
      have e2 : lentF x 2 = 0 := by unfold lentF; rw [if_neg (by omega)]
      rw [e1, e2, appV_zero, appV_zero]
      exact rpair_n3 k n t k2 n2 t2 x x1 x2 x0 w
  have e1 : lentF y x = 0 := by unfold lentF; rw [if_neg (by omega)]
  have e2 : lentF x y = 0 := by unfold lentF; rw [if_neg (by omega)]
  rw [e1, e2, appV_zero, appV_zero]
  exact rpair_n4 k n t k2 n2 t2 x y x1 x2 y1 y2 w
end Go.Proofs.YtoekdeoekcmpgaaGreatDoor
