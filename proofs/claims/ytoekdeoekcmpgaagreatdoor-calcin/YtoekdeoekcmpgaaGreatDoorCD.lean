/- The document's Arith of quotients and remainders. -/
/- The document's Arith: quotients and remainders. -/
/- The document's Product. -/
/- The document's Binary at arithmetic. -/
import Derived.Test.YtoekdeoekcmpgaaGreatDoorBV
namespace Go.Proofs.YtoekdeoekcmpgaaGreatDoor
open Go.ChangeShapes Go.WideShapes Go.ChangeAt Go.RowKit
set_option linter.unusedVariables false

set_option maxHeartbeats 1000000 in
set_option maxRecDepth 10000 in
theorem rarith_add (x y : Int) (hx : inR x) (hy : inR y) (w : World) : Calls Tryz.prog 47 #[.int .i64 7, .int .i64 x, .int .i64 y] w fun e w' => e = .returned (optV (sumO x y)) ∧ Below w.heap.size w w' := by
  have HW : Hid (∀ V, _ → _) := res_later w
  obtain ⟨c1, c2, c3, hc⟩ := optV_val (sumO x y)
  have HS : Hid (∀ V, Calls Tryz.prog 85 #[.int .i64 x, .int .i64 y] V fun e w' => e = .returned (val c1 c2 c3) ∧ Below V.heap.size V w') := fun V => by rw [← hc]; exact rsum_walk x y hx hy V
  rw [hc]
  clear hx hy hc
  go_enter Tryz.func47, Tryz.ntmps47
  go_wp2_with (first
    | (go_at_call 85; with_reducible refine Calls.mono (HS.out _) ?_; rintro e w1 ⟨rfl, hb1⟩; obtain ⟨d0, d1, d2, f0, f1, f2, a0, a1, a2, b0, b1, b2, HK1, HB1, HL1⟩ := HW.out _ hb1; clear hb1))
  exact ret_valg Tryz.results47 rfl HK1.out ⟨rfl, below_set3g HB1.out (Nat.le_refl _) _ _ _⟩

set_option maxHeartbeats 1000000 in
set_option maxRecDepth 10000 in
theorem rarith_sub (x y : Int) (hx : inR x) (hy : inR y) (w : World) : Calls Tryz.prog 47 #[.int .i64 8, .int .i64 x, .int .i64 y] w fun e w' => e = .returned (optV (difO x y)) ∧ Below w.heap.size w w' := by
  have HW : Hid (∀ V, _ → _) := res_later w
  obtain ⟨c1, c2, c3, hc⟩ := optV_val (difO x y)
  have HS : Hid (∀ V, Calls Tryz.prog 86 #[.int .i64 x, .int .i64 y] V fun e w' => e = .returned (val c1 c2 c3) ∧ Below V.heap.size V w') := fun V => by rw [← hc]; exact rdif_walk x y hx hy V
  rw [hc]
  clear hx hy hc
  go_enter Tryz.func47, Tryz.ntmps47
  go_wp2_with (first
    | (go_at_call 86; with_reducible refine Calls.mono (HS.out _) ?_; rintro e w1 ⟨rfl, hb1⟩; obtain ⟨d0, d1, d2, f0, f1, f2, a0, a1, a2, b0, b1, b2, HK1, HB1, HL1⟩ := HW.out _ hb1; clear hb1))
  exact ret_valg Tryz.results47 rfl HK1.out ⟨rfl, below_set3g HB1.out (Nat.le_refl _) _ _ _⟩

set_option maxHeartbeats 1000000 in
theorem rbinary_no (op c : Int) (h : op < 7 ∨ 22 < op) (k n : Int) (t : ByteArray) (k2 n2 : Int) (t2 : ByteArray) (w : World) : Calls Tryz.prog 19 #[.int .i64 op, val k n t, val k2 n2 t2, .int .i64 c] w fun e w' => e = .returned (.tuple #[val 0 0 ⟨#[]⟩, .int .i64 130]) ∧ Below w.heap.size w w' := by
  have HW : Hid (∀ V, _ → _) := pr2_later w k n t k2 n2 t2
  rcases h with h | h
  · go_enter Tryz.func19, Tryz.ntmps19
    go_wp2_with (first
      | (go_at_call 37; with_reducible refine Calls.mono (rnull_walk _) ?_; rintro e w9 ⟨rfl, hb9⟩; obtain ⟨⟨p0, p1, p2⟩, ⟨q0, q1, q2⟩, ⟨d0, d1, d2, f0, f1, f2⟩, HK9, HB9⟩ := HW.out _ hb9; clear hb9))
    exact ret_val2g Tryz.results19 rfl rfl HK9.out ⟨rfl, below_set3g HB9.out (Nat.le_succ_of_le (Nat.le_succ _)) _ _ _⟩
  · have h' : ¬ op < 7 := by omega
    go_enter Tryz.func19, Tryz.ntmps19
    go_wp2_with (first
      | (go_at_call 37; with_reducible refine Calls.mono (rnull_walk _) ?_; rintro e w9 ⟨rfl, hb9⟩; obtain ⟨⟨p0, p1, p2⟩, ⟨q0, q1, q2⟩, ⟨d0, d1, d2, f0, f1, f2⟩, HK9, HB9⟩ := HW.out _ hb9; clear hb9))
    exact ret_val2g Tryz.results19 rfl rfl HK9.out ⟨rfl, below_set3g HB9.out (Nat.le_succ_of_le (Nat.le_succ _)) _ _ _⟩
end Go.Proofs.YtoekdeoekcmpgaaGreatDoor

namespace Go.Proofs.YtoekdeoekcmpgaaGreatDoor
open Go.ChangeShapes Go.WideShapes Go.ChangeAt Go.RowKit
set_option linter.unusedVariables false

theorem quo_minus (x : Int) (hx : inR x) : quoO x (-1) = difO 0 x := by
  unfold quoO difO
  unfold inR at hx
  have e : x.tdiv (-1) = -x := by rw [Int.tdiv_neg, Int.tdiv_one]
  by_cases h : x = -9223372036854775808
  · rw [if_pos (.inr ⟨h, rfl⟩), if_neg (by unfold inR; omega)]
  · rw [if_neg (by omega), if_pos (by unfold inR; omega), e]
    exact congrArg some (by omega)

set_option maxHeartbeats 1000000 in
set_option maxRecDepth 10000 in
theorem rarith_rem (x y : Int) (hx : inR x) (hy : inR y) (w : World) : Calls Tryz.prog 47 #[.int .i64 11, .int .i64 x, .int .i64 y] w fun e w' => e = .returned (optV (remO x y)) ∧ Below w.heap.size w w' := by
  have HW : Hid (∀ V, _ → _) := res_later w
  unfold remO
  unfold inR at hx hy
  by_cases h0 : y = 0
  · subst h0
    rw [if_pos rfl]
    go_enter Tryz.func47, Tryz.ntmps47
    go_wp2_with (first
      | (go_at_call 37; with_reducible refine Calls.mono (rnull_walk _) ?_; rintro e w1 ⟨rfl, hb1⟩; obtain ⟨d0, d1, d2, f0, f1, f2, a0, a1, a2, b0, b1, b2, HK1, HB1, HL1⟩ := HW.out _ hb1; clear hb1))
    exact ret_valg Tryz.results47 rfl HK1.out ⟨rfl, below_set3g HB1.out (Nat.le_refl _) _ _ _⟩
  have e0 : (y == 0) = false := by simpa using h0
  rw [if_neg h0]
  by_cases h1 : y = -1
  · subst h1
    rw [show x.tmod (-1) = 0 by rw [Int.tmod_neg, Int.tmod_one]]
    go_enter Tryz.func47, Tryz.ntmps47
    go_wp2_with (first
      | (go_at_call 31; with_reducible refine Calls.mono (rint_walk _ _) ?_; rintro e w1 ⟨rfl, hb1⟩; obtain ⟨d0, d1, d2, f0, f1, f2, a0, a1, a2, b0, b1, b2, HK1, HB1, HL1⟩ := HW.out _ hb1; clear hb1))
    exact ret_valg Tryz.results47 rfl HK1.out ⟨rfl, below_set3g HB1.out (Nat.le_refl _) _ _ _⟩
  · have e1 : (y == -1) = false := by simpa using h1
    have hw : IntKind.i64.wrap (x.tmod y) = x.tmod y := by
      have hn : (x.tmod y).natAbs = x.natAbs % y.natAbs := Int.natAbs_tmod x y
      have := Nat.mod_lt x.natAbs (show 0 < y.natAbs by omega)
      rw [IntKind.wrap_i64]; omega
    go_enter Tryz.func47, Tryz.ntmps47
    go_wp2_with (first
      | (go_at_call 31; with_reducible refine Calls.mono (rint_walk _ _) ?_; rintro e w1 ⟨rfl, hb1⟩; obtain ⟨d0, d1, d2, f0, f1, f2, a0, a1, a2, b0, b1, b2, HK1, HB1, HL1⟩ := HW.out _ hb1; clear hb1))
    exact ret_valg Tryz.results47 rfl HK1.out ⟨rfl, below_set3g HB1.out (Nat.le_refl _) _ _ _⟩

set_option maxHeartbeats 1000000 in
set_option maxRecDepth 10000 in
theorem rarith_div (x y : Int) (hx : inR x) (hy : inR y) (w : World) : Calls Tryz.prog 47 #[.int .i64 10, .int .i64 x, .int .i64 y] w fun e w' => e = .returned (optV (quoO x y)) ∧ Below w.heap.size w w' := by
  have HW : Hid (∀ V, _ → _) := res_later w
  by_cases h0 : y = 0
  · subst h0
    unfold quoO
    rw [if_pos (.inl rfl)]
    go_enter Tryz.func47, Tryz.ntmps47
    go_wp2_with (first
      | (go_at_call 37; with_reducible refine Calls.mono (rnull_walk _) ?_; rintro e w1 ⟨rfl, hb1⟩; obtain ⟨d0, d1, d2, f0, f1, f2, a0, a1, a2, b0, b1, b2, HK1, HB1, HL1⟩ := HW.out _ hb1; clear hb1))
    exact ret_valg Tryz.results47 rfl HK1.out ⟨rfl, below_set3g HB1.out (Nat.le_refl _) _ _ _⟩
  have e0 : (y == 0) = false := by simpa using h0
  by_cases h1 : y = -1
  · subst h1
    rw [quo_minus x hx]
    obtain ⟨c1, c2, c3, hc⟩ := optV_val (difO 0 x)
    have HS : Hid (∀ V, Calls Tryz.prog 86 #[.int .i64 0, .int .i64 x] V fun e w' => e = .returned (val c1 c2 c3) ∧ Below V.heap.size V w') := fun V => by rw [← hc]; exact rdif_walk 0 x (by unfold inR; omega) hx V
    rw [hc]
    clear hx hy hc
    go_enter Tryz.func47, Tryz.ntmps47
    go_wp2_with (first
      | (go_at_call 86; with_reducible refine Calls.mono (HS.out _) ?_; rintro e w1 ⟨rfl, hb1⟩; obtain ⟨d0, d1, d2, f0, f1, f2, a0, a1, a2, b0, b1, b2, HK1, HB1, HL1⟩ := HW.out _ hb1; clear hb1))
    exact ret_valg Tryz.results47 rfl HK1.out ⟨rfl, below_set3g HB1.out (Nat.le_refl _) _ _ _⟩
  · have e1 : (y == -1) = false := by simpa using h1
    unfold quoO
    unfold inR at hx hy
    rw [if_neg (by omega)]
    have hq : -9223372036854775808 ≤ x.tdiv y ∧ x.tdiv y ≤ 9223372036854775807 := by
      have hn : (x.tdiv y).natAbs = x.natAbs / y.natAbs := Int.natAbs_tdiv x y
      by_cases hy1 : y = 1
      · subst hy1; rw [Int.tdiv_one]; exact hx
      · have h2 : 2 ≤ y.natAbs := by omega
        have h3 : x.natAbs / y.natAbs ≤ x.natAbs / 2 := Nat.div_le_div_left h2 (by omega)
        omega
    have hw : IntKind.i64.wrap (x.tdiv y) = x.tdiv y := by rw [IntKind.wrap_i64]; omega
    clear hq
    go_enter Tryz.func47, Tryz.ntmps47
    go_wp2_with (first
      | (go_at_call 31; with_reducible refine Calls.mono (rint_walk _ _) ?_; rintro e w1 ⟨rfl, hb1⟩; obtain ⟨d0, d1, d2, f0, f1, f2, a0, a1, a2, b0, b1, b2, HK1, HB1, HL1⟩ := HW.out _ hb1; clear hb1))
    exact ret_valg Tryz.results47 rfl HK1.out ⟨rfl, below_set3g HB1.out (Nat.le_refl _) _ _ _⟩
end Go.Proofs.YtoekdeoekcmpgaaGreatDoor

namespace Go.Proofs.YtoekdeoekcmpgaaGreatDoor
open Go.ChangeShapes Go.WideShapes Go.ChangeAt Go.RowKit
set_option linter.unusedVariables false

/-- A product that wraps is no multiple of its factor. -/
theorem prod_wrap (x y W : Int) (hx : inR x) (hy : inR y) (hy0 : y ≠ 0) (hW : IntKind.i64.wrap (x * y) = W) (hr : ¬ inR (x * y)) : W.tdiv y ≠ x := by
  intro h
  have hm := Int.mul_tdiv_add_tmod W y
  rw [h] at hm
  have hn : (W.tmod y).natAbs = W.natAbs % y.natAbs := Int.natAbs_tmod W y
  have hl := Nat.mod_lt W.natAbs (show 0 < y.natAbs by omega)
  have hc : y * x = x * y := Int.mul_comm y x
  rw [hc] at hm
  rw [IntKind.wrap_i64] at hW
  generalize x * y = P at hm hW hr
  generalize W.tmod y = R at hm hn
  unfold inR at hx hy hr
  omega

set_option maxHeartbeats 1000000 in
set_option maxRecDepth 10000 in
theorem rprod_zx (y : Int) (w : World) : Calls Tryz.prog 87 #[.int .i64 0, .int .i64 y] w fun e w' => e = .returned (val 1 0 ⟨#[]⟩) ∧ Below w.heap.size w w' := by
  have HW : Hid (∀ V, _ → _) := res_later w
  go_enter Tryz.func87, Tryz.ntmps87
  go_wp2_with (first
    | (go_at_call 31; with_reducible refine Calls.mono (rint_walk _ _) ?_; rintro e w1 ⟨rfl, hb1⟩; obtain ⟨d0, d1, d2, f0, f1, f2, a0, a1, a2, b0, b1, b2, HK1, HB1, HL1⟩ := HW.out _ hb1; clear hb1)
    | (go_at_call 37; with_reducible refine Calls.mono (rnull_walk _) ?_; rintro e w1 ⟨rfl, hb1⟩; obtain ⟨d0, d1, d2, f0, f1, f2, a0, a1, a2, b0, b1, b2, HK1, HB1, HL1⟩ := HW.out _ hb1; clear hb1))
  exact ret_valg Tryz.results87 rfl HK1.out ⟨rfl, below_set3g HB1.out (Nat.le_refl _) _ _ _⟩

set_option maxHeartbeats 1000000 in
set_option maxRecDepth 10000 in
theorem rprod_zy (x : Int) (h : (x == 0) = false) (w : World) : Calls Tryz.prog 87 #[.int .i64 x, .int .i64 0] w fun e w' => e = .returned (val 1 0 ⟨#[]⟩) ∧ Below w.heap.size w w' := by
  have HW : Hid (∀ V, _ → _) := res_later w
  go_enter Tryz.func87, Tryz.ntmps87
  go_wp2_with (first
    | (go_at_call 31; with_reducible refine Calls.mono (rint_walk _ _) ?_; rintro e w1 ⟨rfl, hb1⟩; obtain ⟨d0, d1, d2, f0, f1, f2, a0, a1, a2, b0, b1, b2, HK1, HB1, HL1⟩ := HW.out _ hb1; clear hb1)
    | (go_at_call 37; with_reducible refine Calls.mono (rnull_walk _) ?_; rintro e w1 ⟨rfl, hb1⟩; obtain ⟨d0, d1, d2, f0, f1, f2, a0, a1, a2, b0, b1, b2, HK1, HB1, HL1⟩ := HW.out _ hb1; clear hb1))
  exact ret_valg Tryz.results87 rfl HK1.out ⟨rfl, below_set3g HB1.out (Nat.le_refl _) _ _ _⟩

set_option maxHeartbeats 1000000 in
set_option maxRecDepth 10000 in
theorem rprod_mx1  (w : World) : Calls Tryz.prog 87 #[.int .i64 (-9223372036854775808), .int .i64 1] w fun e w' => e = .returned (val 1 (-9223372036854775808) ⟨#[]⟩) ∧ Below w.heap.size w w' := by
  have HW : Hid (∀ V, _ → _) := res_later w
  go_enter Tryz.func87, Tryz.ntmps87
  go_wp2_with (first
    | (go_at_call 31; with_reducible refine Calls.mono (rint_walk _ _) ?_; rintro e w1 ⟨rfl, hb1⟩; obtain ⟨d0, d1, d2, f0, f1, f2, a0, a1, a2, b0, b1, b2, HK1, HB1, HL1⟩ := HW.out _ hb1; clear hb1)
    | (go_at_call 37; with_reducible refine Calls.mono (rnull_walk _) ?_; rintro e w1 ⟨rfl, hb1⟩; obtain ⟨d0, d1, d2, f0, f1, f2, a0, a1, a2, b0, b1, b2, HK1, HB1, HL1⟩ := HW.out _ hb1; clear hb1))
  exact ret_valg Tryz.results87 rfl HK1.out ⟨rfl, below_set3g HB1.out (Nat.le_refl _) _ _ _⟩

set_option maxHeartbeats 1000000 in
set_option maxRecDepth 10000 in
theorem rprod_mx (y : Int) (h0 : (y == 0) = false) (h1 : (y == 1) = false) (w : World) : Calls Tryz.prog 87 #[.int .i64 (-9223372036854775808), .int .i64 y] w fun e w' => e = .returned (val 0 0 ⟨#[]⟩) ∧ Below w.heap.size w w' := by
  have HW : Hid (∀ V, _ → _) := res_later w
  go_enter Tryz.func87, Tryz.ntmps87
  go_wp2_with (first
    | (go_at_call 31; with_reducible refine Calls.mono (rint_walk _ _) ?_; rintro e w1 ⟨rfl, hb1⟩; obtain ⟨d0, d1, d2, f0, f1, f2, a0, a1, a2, b0, b1, b2, HK1, HB1, HL1⟩ := HW.out _ hb1; clear hb1)
    | (go_at_call 37; with_reducible refine Calls.mono (rnull_walk _) ?_; rintro e w1 ⟨rfl, hb1⟩; obtain ⟨d0, d1, d2, f0, f1, f2, a0, a1, a2, b0, b1, b2, HK1, HB1, HL1⟩ := HW.out _ hb1; clear hb1))
  exact ret_valg Tryz.results87 rfl HK1.out ⟨rfl, below_set3g HB1.out (Nat.le_refl _) _ _ _⟩

set_option maxHeartbeats 1000000 in
set_option maxRecDepth 10000 in
theorem rprod_my1  (w : World) : Calls Tryz.prog 87 #[.int .i64 1, .int .i64 (-9223372036854775808)] w fun e w' => e = .returned (val 1 (-9223372036854775808) ⟨#[]⟩) ∧ Below w.heap.size w w' := by
  have HW : Hid (∀ V, _ → _) := res_later w
  go_enter Tryz.func87, Tryz.ntmps87
  go_wp2_with (first
    | (go_at_call 31; with_reducible refine Calls.mono (rint_walk _ _) ?_; rintro e w1 ⟨rfl, hb1⟩; obtain ⟨d0, d1, d2, f0, f1, f2, a0, a1, a2, b0, b1, b2, HK1, HB1, HL1⟩ := HW.out _ hb1; clear hb1)
    | (go_at_call 37; with_reducible refine Calls.mono (rnull_walk _) ?_; rintro e w1 ⟨rfl, hb1⟩; obtain ⟨d0, d1, d2, f0, f1, f2, a0, a1, a2, b0, b1, b2, HK1, HB1, HL1⟩ := HW.out _ hb1; clear hb1))
  exact ret_valg Tryz.results87 rfl HK1.out ⟨rfl, below_set3g HB1.out (Nat.le_refl _) _ _ _⟩

set_option maxHeartbeats 1000000 in
set_option maxRecDepth 10000 in
theorem rprod_my (x : Int) (h0 : (x == 0) = false) (h1 : (x == 1) = false) (h2 : (x == -9223372036854775808) = false) (w : World) : Calls Tryz.prog 87 #[.int .i64 x, .int .i64 (-9223372036854775808)] w fun e w' => e = .returned (val 0 0 ⟨#[]⟩) ∧ Below w.heap.size w w' := by
  have HW : Hid (∀ V, _ → _) := res_later w
  go_enter Tryz.func87, Tryz.ntmps87
  go_wp2_with (first
    | (go_at_call 31; with_reducible refine Calls.mono (rint_walk _ _) ?_; rintro e w1 ⟨rfl, hb1⟩; obtain ⟨d0, d1, d2, f0, f1, f2, a0, a1, a2, b0, b1, b2, HK1, HB1, HL1⟩ := HW.out _ hb1; clear hb1)
    | (go_at_call 37; with_reducible refine Calls.mono (rnull_walk _) ?_; rintro e w1 ⟨rfl, hb1⟩; obtain ⟨d0, d1, d2, f0, f1, f2, a0, a1, a2, b0, b1, b2, HK1, HB1, HL1⟩ := HW.out _ hb1; clear hb1))
  exact ret_valg Tryz.results87 rfl HK1.out ⟨rfl, below_set3g HB1.out (Nat.le_refl _) _ _ _⟩

set_option maxHeartbeats 1000000 in
set_option maxRecDepth 10000 in
theorem rprod_no (x y W D : Int) (hx0 : (x == 0) = false) (hy0 : (y == 0) = false) (hy1 : ¬ y = 0) (hxm : (x == -9223372036854775808) = false) (hym : (y == -9223372036854775808) = false) (hW : IntKind.i64.wrap (x * y) = W) (hD : IntKind.i64.wrap (W.tdiv y) = D) (hne : D ≠ x) (w : World) : Calls Tryz.prog 87 #[.int .i64 x, .int .i64 y] w fun e w' => e = .returned (val 0 0 ⟨#[]⟩) ∧ Below w.heap.size w w' := by
  have HW : Hid (∀ V, _ → _) := res_later w
  go_enter Tryz.func87, Tryz.ntmps87
  go_wp2_with (first
    | (go_at_call 31; with_reducible refine Calls.mono (rint_walk _ _) ?_; rintro e w1 ⟨rfl, hb1⟩; obtain ⟨d0, d1, d2, f0, f1, f2, a0, a1, a2, b0, b1, b2, HK1, HB1, HL1⟩ := HW.out _ hb1; clear hb1)
    | (go_at_call 37; with_reducible refine Calls.mono (rnull_walk _) ?_; rintro e w1 ⟨rfl, hb1⟩; obtain ⟨d0, d1, d2, f0, f1, f2, a0, a1, a2, b0, b1, b2, HK1, HB1, HL1⟩ := HW.out _ hb1; clear hb1))
  all_goals first | (exact ret_valg Tryz.results87 rfl HK1.out ⟨rfl, below_set3g HB1.out (Nat.le_refl _) _ _ _⟩) | (exfalso; omega)

set_option maxHeartbeats 1000000 in
set_option maxRecDepth 10000 in
theorem rprod_yes (x y W : Int) (hx0 : (x == 0) = false) (hy0 : (y == 0) = false) (hy1 : ¬ y = 0) (hxm : (x == -9223372036854775808) = false) (hym : (y == -9223372036854775808) = false) (hW : IntKind.i64.wrap (x * y) = W) (hD : IntKind.i64.wrap (W.tdiv y) = x) (hs : W = -9223372036854775808 → ((x < 0 ∧ ¬ y < 0) ∨ (¬ x < 0 ∧ y < 0))) (w : World) : Calls Tryz.prog 87 #[.int .i64 x, .int .i64 y] w fun e w' => e = .returned (val 1 W ⟨#[]⟩) ∧ Below w.heap.size w w' := by
  have HW : Hid (∀ V, _ → _) := res_later w
  go_enter Tryz.func87, Tryz.ntmps87
  go_wp2_with (first
    | (go_at_call 31; with_reducible refine Calls.mono (rint_walk _ _) ?_; rintro e w1 ⟨rfl, hb1⟩; obtain ⟨d0, d1, d2, f0, f1, f2, a0, a1, a2, b0, b1, b2, HK1, HB1, HL1⟩ := HW.out _ hb1; clear hb1)
    | (go_at_call 37; with_reducible refine Calls.mono (rnull_walk _) ?_; rintro e w1 ⟨rfl, hb1⟩; obtain ⟨d0, d1, d2, f0, f1, f2, a0, a1, a2, b0, b1, b2, HK1, HB1, HL1⟩ := HW.out _ hb1; clear hb1))
  all_goals first
    | (exact ret_valg Tryz.results87 rfl HK1.out ⟨rfl, below_set3g HB1.out (Nat.le_refl _) _ _ _⟩)
    | (have hM : W = -9223372036854775808 := by assumption
       subst hM
       exact ret_valg Tryz.results87 rfl HK1.out ⟨rfl, below_set3g HB1.out (Nat.le_refl _) _ _ _⟩)
    | (exfalso
       have h : (decide (x < 0) == decide (y < 0)) = true := by assumption
       simp only [beq_iff_eq, decide_eq_decide] at h
       have := hs (by assumption)
       omega)

theorem rprod_walk (x y : Int) (hx : inR x) (hy : inR y) (w : World) : Calls Tryz.prog 87 #[.int .i64 x, .int .i64 y] w fun e w' => e = .returned (optV (mulO x y)) ∧ Below w.heap.size w w' := by
  by_cases x0 : x = 0
  · subst x0
    have : mulO 0 y = some 0 := by unfold mulO; rw [Int.zero_mul, if_pos (by unfold inR; omega)]
    rw [this]; exact rprod_zx y w
  have e1 : (x == 0) = false := by simpa using x0
  by_cases y0 : y = 0
  · subst y0
    have : mulO x 0 = some 0 := by unfold mulO; rw [Int.mul_zero, if_pos (by unfold inR; omega)]
    rw [this]; exact rprod_zy x e1 w
  have e2 : (y == 0) = false := by simpa using y0
  by_cases xm : x = -9223372036854775808
  · subst xm
    by_cases y1 : y = 1
    · subst y1; exact rprod_mx1 w
    · have : mulO (-9223372036854775808) y = none := by unfold mulO; rw [if_neg (by unfold inR at hy ⊢; omega)]
      rw [this]; exact rprod_mx y e2 (by simpa using y1) w
  have e3 : (x == -9223372036854775808) = false := by simpa using xm
  by_cases ym : y = -9223372036854775808
  · subst ym
    by_cases x1 : x = 1
    · subst x1; exact rprod_my1 w
    · have : mulO x (-9223372036854775808) = none := by unfold mulO; rw [if_neg (by unfold inR at hx ⊢; omega)]
      rw [this]; exact rprod_my x e1 (by simpa using x1) e3 w
  have e4 : (y == -9223372036854775808) = false := by simpa using ym
  by_cases hr : inR (x * y)
  · have : mulO x y = some (x * y) := by unfold mulO; rw [if_pos hr]
    rw [this]
    have hw : IntKind.i64.wrap (x * y) = x * y := by unfold inR at hr; rw [IntKind.wrap_i64]; omega
    have hd : (x * y).tdiv y = x := Int.mul_tdiv_cancel x y0
    refine rprod_yes x y (x * y) e1 e2 y0 e3 e4 hw (by rw [hd, IntKind.wrap_i64]; unfold inR at hx; omega) (fun hM => ?_) w
    rcases Int.lt_or_le x 0 with h | h
    · rcases Int.lt_or_le y 0 with g | g
      · have := Int.mul_pos_of_neg_of_neg h g; omega
      · exact .inl ⟨h, by omega⟩
    · rcases Int.lt_or_le y 0 with g | g
      · exact .inr ⟨by omega, g⟩
      · have := Int.mul_nonneg h g; omega
  · have : mulO x y = none := by unfold mulO; rw [if_neg hr]
    rw [this]
    have hp := prod_wrap x y _ hx hy y0 rfl hr
    refine rprod_no x y _ _ e1 e2 y0 e3 e4 rfl rfl ?_ w
    have hWr : inR (IntKind.i64.wrap (x * y)) := by rw [IntKind.wrap_i64]; unfold inR; omega
    generalize IntKind.i64.wrap (x * y) = W at hp hWr
    have hn : (W.tdiv y).natAbs = W.natAbs / y.natAbs := Int.natAbs_tdiv W y
    have h3 : W.natAbs / y.natAbs ≤ W.natAbs / 1 := Nat.div_le_div_left (by omega) (by omega)
    rw [IntKind.wrap_i64]
    unfold inR at hWr hx
    omega

set_option maxHeartbeats 1000000 in
set_option maxRecDepth 10000 in
theorem rarith_mul (x y : Int) (hx : inR x) (hy : inR y) (w : World) : Calls Tryz.prog 47 #[.int .i64 9, .int .i64 x, .int .i64 y] w fun e w' => e = .returned (optV (mulO x y)) ∧ Below w.heap.size w w' := by
  have HW : Hid (∀ V, _ → _) := res_later w
  obtain ⟨c1, c2, c3, hc⟩ := optV_val (mulO x y)
  have HS : Hid (∀ V, Calls Tryz.prog 87 #[.int .i64 x, .int .i64 y] V fun e w' => e = .returned (val c1 c2 c3) ∧ Below V.heap.size V w') := fun V => by rw [← hc]; exact rprod_walk x y hx hy V
  rw [hc]
  clear hx hy hc
  go_enter Tryz.func47, Tryz.ntmps47
  go_wp2_with (first
    | (go_at_call 87; with_reducible refine Calls.mono (HS.out _) ?_; rintro e w1 ⟨rfl, hb1⟩; obtain ⟨d0, d1, d2, f0, f1, f2, a0, a1, a2, b0, b1, b2, HK1, HB1, HL1⟩ := HW.out _ hb1; clear hb1))
  exact ret_valg Tryz.results47 rfl HK1.out ⟨rfl, below_set3g HB1.out (Nat.le_refl _) _ _ _⟩
end Go.Proofs.YtoekdeoekcmpgaaGreatDoor

namespace Go.Proofs.YtoekdeoekcmpgaaGreatDoor
open Go.ChangeShapes Go.WideShapes Go.ChangeAt Go.RowKit
set_option linter.unusedVariables false

set_option maxHeartbeats 1000000 in
set_option maxRecDepth 10000 in
theorem rbin_ar_none1 (op c k n : Int) (t : ByteArray) (k2 n2 : Int) (t2 : ByteArray) (g0 : ¬ op < 7) (g1 : ¬ 22 < op) (g2 : op ≤ 11) (hm1 : mayB k n t = true) (hm2 : mayB k2 n2 t2 = true) (hO : numO k n t.data.toList = none) (w : World) :
    Calls Tryz.prog 19 #[.int .i64 op, val k n t, val k2 n2 t2, .int .i64 c] w fun e w' => e = .returned (.tuple #[val 0 0 ⟨#[]⟩, .int .i64 0]) ∧ Below w.heap.size w w' := by
  have HM1 : Hid (∀ V, Calls Tryz.prog 36 #[.agg #[.int .i64 k, .int .i64 n, .string t]] V fun e w' => e = .returned (.bool true) ∧ Below V.heap.size V w') := fun V => by have := rmay_walk k n t V; rw [hm1] at this; exact this
  have HM2 : Hid (∀ V, Calls Tryz.prog 36 #[.agg #[.int .i64 k2, .int .i64 n2, .string t2]] V fun e w' => e = .returned (.bool true) ∧ Below V.heap.size V w') := fun V => by have := rmay_walk k2 n2 t2 V; rw [hm2] at this; exact this
  have HW : Hid (∀ V, _ → _) := pr2_later w k n t k2 n2 t2
  obtain ⟨e1, e2, e3, he⟩ := optV_val (numO k2 n2 t2.data.toList)
  have HN1 : Hid (∀ V, Calls Tryz.prog 13 #[.agg #[.int .i64 k, .int .i64 n, .string t]] V fun e w' => e = .returned (.agg #[.int .i64 0, .int .i64 0, .string ⟨#[]⟩]) ∧ Below V.heap.size V w') := fun V => by have := rnum_walk k n t V; rw [hO] at this; exact this
  have HN2 : Hid (∀ V, Calls Tryz.prog 13 #[.agg #[.int .i64 k2, .int .i64 n2, .string t2]] V fun e w' => e = .returned (.agg #[.int .i64 e1, .int .i64 e2, .string e3]) ∧ Below V.heap.size V w') := fun V => by have := rnum_walk k2 n2 t2 V; rw [he] at this; exact this
  clear hm1 hm2 hO he
  go_enter Tryz.func19, Tryz.ntmps19
  go_wp2_with (first
    | (go_at_call 36; with_reducible refine Calls.mono (HM1.out _) ?_; rintro e w1 ⟨rfl, hb1⟩; have HX1 := hide hb1; obtain ⟨⟨p0, p1, p2⟩, ⟨q0, q1, q2⟩, ⟨d0, d1, d2, f0, f1, f2⟩, HK1, HB1⟩ := HW.out _ HX1.out; clear hb1)
    | (go_at_call 36; with_reducible refine Calls.mono (HM2.out _) ?_; rintro e w2 ⟨rfl, hb2⟩; have HX2 := hide (below_trans HX1.out hb2); obtain ⟨⟨p0, p1, p2⟩, ⟨q0, q1, q2⟩, ⟨d0, d1, d2, f0, f1, f2⟩, HK2, HB2⟩ := HW.out _ HX2.out; clear hb2)
    | (go_at_call 13; with_reducible refine Calls.mono (HN1.out _) ?_; rintro e w3 ⟨rfl, hb3⟩; have HX3 := hide (below_trans HX2.out (below_trans hb3 (new_below w3 (.cells #[.int .i64 0, .int .i64 0, .string ⟨#[]⟩] 24) rfl))); obtain ⟨⟨p0, p1, p2⟩, ⟨q0, q1, q2⟩, ⟨d0, d1, d2, f0, f1, f2⟩, HK3, HB3⟩ := HW.out _ HX3.out; clear hb3)
    | (go_at_call 13; with_reducible refine Calls.mono (HN2.out _) ?_; rintro e w4 ⟨rfl, hb4⟩; have HX4 := hide (below_trans HX3.out (below_trans hb4 (new_below w4 (.cells #[.int .i64 e1, .int .i64 e2, .string e3] 24) rfl))); obtain ⟨a0, aa, ab, b0, b1, b2⟩ := later_block w3 (.int .i64 0) (.int .i64 0) (.string ⟨#[]⟩) 24 _ (below_trans hb4 (new_below w4 (.cells #[.int .i64 e1, .int .i64 e2, .string e3] 24) rfl)); clear hb4)
    | (go_at_call 37; with_reducible refine Calls.mono (rnull_walk _) ?_; rintro e w9 ⟨rfl, hb9⟩; have HX9 := hide (below_trans HX4.out hb9); obtain ⟨⟨p0, p1, p2⟩, ⟨q0, q1, q2⟩, ⟨d0, d1, d2, f0, f1, f2⟩, HK9, HB9⟩ := HW.out _ HX9.out; clear hb9))
  exact ret_val2g Tryz.results19 rfl rfl HK9.out ⟨rfl, below_set3g HB9.out (Nat.le_succ_of_le (Nat.le_succ _)) _ _ _⟩

set_option maxHeartbeats 1000000 in
set_option maxRecDepth 10000 in
theorem rbin_ar_none2 (op c k n : Int) (t : ByteArray) (k2 n2 : Int) (t2 : ByteArray) (g0 : ¬ op < 7) (g1 : ¬ 22 < op) (g2 : op ≤ 11) (hm1 : mayB k n t = true) (hm2 : mayB k2 n2 t2 = true) (x : Int) (hO : numO k n t.data.toList = some x) (hP : numO k2 n2 t2.data.toList = none) (w : World) :
    Calls Tryz.prog 19 #[.int .i64 op, val k n t, val k2 n2 t2, .int .i64 c] w fun e w' => e = .returned (.tuple #[val 0 0 ⟨#[]⟩, .int .i64 0]) ∧ Below w.heap.size w w' := by
  have HM1 : Hid (∀ V, Calls Tryz.prog 36 #[.agg #[.int .i64 k, .int .i64 n, .string t]] V fun e w' => e = .returned (.bool true) ∧ Below V.heap.size V w') := fun V => by have := rmay_walk k n t V; rw [hm1] at this; exact this
  have HM2 : Hid (∀ V, Calls Tryz.prog 36 #[.agg #[.int .i64 k2, .int .i64 n2, .string t2]] V fun e w' => e = .returned (.bool true) ∧ Below V.heap.size V w') := fun V => by have := rmay_walk k2 n2 t2 V; rw [hm2] at this; exact this
  have HW : Hid (∀ V, _ → _) := pr2_later w k n t k2 n2 t2
  have HN1 : Hid (∀ V, Calls Tryz.prog 13 #[.agg #[.int .i64 k, .int .i64 n, .string t]] V fun e w' => e = .returned (.agg #[.int .i64 1, .int .i64 x, .string ⟨#[]⟩]) ∧ Below V.heap.size V w') := fun V => by have := rnum_walk k n t V; rw [hO] at this; exact this
  have HN2 : Hid (∀ V, Calls Tryz.prog 13 #[.agg #[.int .i64 k2, .int .i64 n2, .string t2]] V fun e w' => e = .returned (.agg #[.int .i64 0, .int .i64 0, .string ⟨#[]⟩]) ∧ Below V.heap.size V w') := fun V => by have := rnum_walk k2 n2 t2 V; rw [hP] at this; exact this
  clear hm1 hm2 hO hP
  go_enter Tryz.func19, Tryz.ntmps19
  go_wp2_with (first
    | (go_at_call 36; with_reducible refine Calls.mono (HM1.out _) ?_; rintro e w1 ⟨rfl, hb1⟩; have HX1 := hide hb1; obtain ⟨⟨p0, p1, p2⟩, ⟨q0, q1, q2⟩, ⟨d0, d1, d2, f0, f1, f2⟩, HK1, HB1⟩ := HW.out _ HX1.out; clear hb1)
    | (go_at_call 36; with_reducible refine Calls.mono (HM2.out _) ?_; rintro e w2 ⟨rfl, hb2⟩; have HX2 := hide (below_trans HX1.out hb2); obtain ⟨⟨p0, p1, p2⟩, ⟨q0, q1, q2⟩, ⟨d0, d1, d2, f0, f1, f2⟩, HK2, HB2⟩ := HW.out _ HX2.out; clear hb2)
    | (go_at_call 13; with_reducible refine Calls.mono (HN1.out _) ?_; rintro e w3 ⟨rfl, hb3⟩; have HX3 := hide (below_trans HX2.out (below_trans hb3 (new_below w3 (.cells #[.int .i64 1, .int .i64 x, .string ⟨#[]⟩] 24) rfl))); obtain ⟨⟨p0, p1, p2⟩, ⟨q0, q1, q2⟩, ⟨d0, d1, d2, f0, f1, f2⟩, HK3, HB3⟩ := HW.out _ HX3.out; clear hb3)
    | (go_at_call 13; with_reducible refine Calls.mono (HN2.out _) ?_; rintro e w4 ⟨rfl, hb4⟩; have HX4 := hide (below_trans HX3.out (below_trans hb4 (new_below w4 (.cells #[.int .i64 0, .int .i64 0, .string ⟨#[]⟩] 24) rfl))); obtain ⟨a0, aa, ab, b0, b1, b2⟩ := later_block w3 (.int .i64 1) (.int .i64 x) (.string ⟨#[]⟩) 24 _ (below_trans hb4 (new_below w4 (.cells #[.int .i64 0, .int .i64 0, .string ⟨#[]⟩] 24) rfl)); clear hb4)
    | (go_at_call 37; with_reducible refine Calls.mono (rnull_walk _) ?_; rintro e w9 ⟨rfl, hb9⟩; have HX9 := hide (below_trans HX4.out hb9); obtain ⟨⟨p0, p1, p2⟩, ⟨q0, q1, q2⟩, ⟨d0, d1, d2, f0, f1, f2⟩, HK9, HB9⟩ := HW.out _ HX9.out; clear hb9))
  exact ret_val2g Tryz.results19 rfl rfl HK9.out ⟨rfl, below_set3g HB9.out (Nat.le_succ_of_le (Nat.le_succ _)) _ _ _⟩

set_option maxHeartbeats 1000000 in
set_option maxRecDepth 10000 in
theorem rbin_ar_ok (op c k n : Int) (t : ByteArray) (k2 n2 : Int) (t2 : ByteArray) (g0 : ¬ op < 7) (g1 : ¬ 22 < op) (g2 : op ≤ 11) (hm1 : mayB k n t = true) (hm2 : mayB k2 n2 t2 = true) (x y : Int) (hO : numO k n t.data.toList = some x) (hP : numO k2 n2 t2.data.toList = some y) (c1 c2 : Int) (c3 : ByteArray) (hA : ∀ V, Calls Tryz.prog 47 #[.int .i64 op, .int .i64 x, .int .i64 y] V fun e w' => e = .returned (val c1 c2 c3) ∧ Below V.heap.size V w') (w : World) :
    Calls Tryz.prog 19 #[.int .i64 op, val k n t, val k2 n2 t2, .int .i64 c] w fun e w' => e = .returned (.tuple #[val c1 c2 c3, .int .i64 0]) ∧ Below w.heap.size w w' := by
  have HM1 : Hid (∀ V, Calls Tryz.prog 36 #[.agg #[.int .i64 k, .int .i64 n, .string t]] V fun e w' => e = .returned (.bool true) ∧ Below V.heap.size V w') := fun V => by have := rmay_walk k n t V; rw [hm1] at this; exact this
  have HM2 : Hid (∀ V, Calls Tryz.prog 36 #[.agg #[.int .i64 k2, .int .i64 n2, .string t2]] V fun e w' => e = .returned (.bool true) ∧ Below V.heap.size V w') := fun V => by have := rmay_walk k2 n2 t2 V; rw [hm2] at this; exact this
  have HW : Hid (∀ V, _ → _) := pr2_later w k n t k2 n2 t2
  have HA : Hid (∀ V, Calls Tryz.prog 47 #[.int .i64 op, .int .i64 x, .int .i64 y] V fun e w' => e = .returned (val c1 c2 c3) ∧ Below V.heap.size V w') := hA
  have HN1 : Hid (∀ V, Calls Tryz.prog 13 #[.agg #[.int .i64 k, .int .i64 n, .string t]] V fun e w' => e = .returned (.agg #[.int .i64 1, .int .i64 x, .string ⟨#[]⟩]) ∧ Below V.heap.size V w') := fun V => by have := rnum_walk k n t V; rw [hO] at this; exact this
  have HN2 : Hid (∀ V, Calls Tryz.prog 13 #[.agg #[.int .i64 k2, .int .i64 n2, .string t2]] V fun e w' => e = .returned (.agg #[.int .i64 1, .int .i64 y, .string ⟨#[]⟩]) ∧ Below V.heap.size V w') := fun V => by have := rnum_walk k2 n2 t2 V; rw [hP] at this; exact this
  clear hm1 hm2 hO hP hA
  go_enter Tryz.func19, Tryz.ntmps19
  go_wp2_with (first
    | (go_at_call 36; with_reducible refine Calls.mono (HM1.out _) ?_; rintro e w1 ⟨rfl, hb1⟩; have HX1 := hide hb1; obtain ⟨⟨p0, p1, p2⟩, ⟨q0, q1, q2⟩, ⟨d0, d1, d2, f0, f1, f2⟩, HK1, HB1⟩ := HW.out _ HX1.out; clear hb1)
    | (go_at_call 36; with_reducible refine Calls.mono (HM2.out _) ?_; rintro e w2 ⟨rfl, hb2⟩; have HX2 := hide (below_trans HX1.out hb2); obtain ⟨⟨p0, p1, p2⟩, ⟨q0, q1, q2⟩, ⟨d0, d1, d2, f0, f1, f2⟩, HK2, HB2⟩ := HW.out _ HX2.out; clear hb2)
    | (go_at_call 13; with_reducible refine Calls.mono (HN1.out _) ?_; rintro e w3 ⟨rfl, hb3⟩; have HX3 := hide (below_trans HX2.out (below_trans hb3 (new_below w3 (.cells #[.int .i64 1, .int .i64 x, .string ⟨#[]⟩] 24) rfl))); obtain ⟨⟨p0, p1, p2⟩, ⟨q0, q1, q2⟩, ⟨d0, d1, d2, f0, f1, f2⟩, HK3, HB3⟩ := HW.out _ HX3.out; clear hb3)
    | (go_at_call 13; with_reducible refine Calls.mono (HN2.out _) ?_; rintro e w4 ⟨rfl, hb4⟩; have HX4 := hide (below_trans HX3.out (below_trans hb4 (new_below w4 (.cells #[.int .i64 1, .int .i64 y, .string ⟨#[]⟩] 24) rfl))); obtain ⟨a0, aa, ab, b0, b1, b2⟩ := later_block w3 (.int .i64 1) (.int .i64 x) (.string ⟨#[]⟩) 24 _ (below_trans hb4 (new_below w4 (.cells #[.int .i64 1, .int .i64 y, .string ⟨#[]⟩] 24) rfl)); clear hb4)
    | (go_at_call 47; with_reducible refine Calls.mono (HA.out _) ?_; rintro e w9 ⟨rfl, hb9⟩; have HX9 := hide (below_trans HX4.out hb9); obtain ⟨⟨p0, p1, p2⟩, ⟨q0, q1, q2⟩, ⟨d0, d1, d2, f0, f1, f2⟩, HK9, HB9⟩ := HW.out _ HX9.out; clear hb9))
  exact ret_val2g Tryz.results19 rfl rfl HK9.out ⟨rfl, below_set3g HB9.out (Nat.le_succ_of_le (Nat.le_succ _)) _ _ _⟩

theorem rbin_ar (op c k n : Int) (t : ByteArray) (k2 n2 : Int) (t2 : ByteArray) (g0 : ¬ op < 7) (g1 : ¬ 22 < op) (g2 : op ≤ 11) (hm1 : mayB k n t = true) (hm2 : mayB k2 n2 t2 = true) (h0 : -9223372036854775808 ≤ n) (h1 : n ≤ 9223372036854775807) (i0 : -9223372036854775808 ≤ n2) (i1 : n2 ≤ 9223372036854775807) (O : Int → Int → Option Int) (hA : ∀ x y, inR x → inR y → ∀ V, Calls Tryz.prog 47 #[.int .i64 op, .int .i64 x, .int .i64 y] V fun e w' => e = .returned (optV (O x y)) ∧ Below V.heap.size V w') (w : World) :
    Calls Tryz.prog 19 #[.int .i64 op, val k n t, val k2 n2 t2, .int .i64 c] w fun e w' => e = .returned (.tuple #[optV (arO O (numO k n t.data.toList) (numO k2 n2 t2.data.toList)), .int .i64 0]) ∧ Below w.heap.size w w' := by
  cases hO : numO k n t.data.toList with
  | none => exact rbin_ar_none1 op c k n t k2 n2 t2 g0 g1 g2 hm1 hm2 hO w
  | some x =>
    cases hP : numO k2 n2 t2.data.toList with
    | none => exact rbin_ar_none2 op c k n t k2 n2 t2 g0 g1 g2 hm1 hm2 x hO hP w
    | some y =>
      obtain ⟨c1, c2, c3, hc⟩ := optV_val (O x y)
      show Calls _ _ _ _ fun e w' => e = .returned (.tuple #[optV (O x y), .int .i64 0]) ∧ Below w.heap.size w w'
      rw [hc]
      exact rbin_ar_ok op c k n t k2 n2 t2 g0 g1 g2 hm1 hm2 x y hO hP c1 c2 c3 (fun V => by rw [← hc]; exact hA x y (numO_range h0 h1 hO) (numO_range i0 i1 hP) V) w
end Go.Proofs.YtoekdeoekcmpgaaGreatDoor
