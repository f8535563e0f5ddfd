/- Package calc: products, quotients, remainders. -/
import Derived.Test.YtoekdeoekcmpgaaGreatDoorKO
namespace Go.Proofs.YtoekdeoekcmpgaaGreatDoor
open Go.ChangeShapes Go.WideShapes Go.ChangeAt Go.RowKit
set_option linter.unusedVariables false

def mulO (x y : Int) : Option Int := if inR (x * y) then some (x * y) else none
def quoO (x y : Int) : Option Int := if y = 0 ∨ (x = -9223372036854775808 ∧ y = -1) then none else some (x.tdiv y)
def remO (x y : Int) : Option Int := if y = 0 then none else some (x.tmod y)

set_option maxHeartbeats 1000000 in
theorem size_walk (x : Int) (hx : inR x) (w : World) : Calls Tryz.prog 111 #[.int .i64 x] w fun e w' => e = .returned (.int .u64 (x.natAbs : Int)) ∧ w = w' := by
  unfold inR at hx
  have hu : ∀ z : Int, IntKind.u64.wrap z = z % 18446744073709551616 := fun z => by simp [IntKind.wrap, IntKind.signed, IntKind.bits]
  by_cases h : x < 0
  · have h1 : IntKind.u64.wrap x = x + 18446744073709551616 := by rw [hu]; omega
    have h2 : IntKind.u64.wrap (-(x + 18446744073709551616)) = (x.natAbs : Int) := by rw [hu]; omega
    clear hu
    go_enter Tryz.func111, Tryz.ntmps111
    go_wp2
    go_ret
    exact ⟨rfl, rfl⟩
  · have h1 : IntKind.u64.wrap x = (x.natAbs : Int) := by rw [hu]; omega
    clear hu
    go_enter Tryz.func111, Tryz.ntmps111
    go_wp2
    go_ret
    exact ⟨rfl, rfl⟩

set_option maxHeartbeats 1000000 in
theorem quo_walk (x y : Int) (hx : inR x) (hy : inR y) (w : World) : Calls Tryz.prog 79 #[.int .i64 x, .int .i64 y] w fun e w' => arE (quoO x y) e ∧ w = w' := by
  unfold quoO
  unfold inR at hx hy
  by_cases h0 : y = 0
  · subst h0
    rw [if_pos (.inl rfl)]
    go_enter Tryz.func79, Tryz.ntmps79
    go_wp2
    go_ret2
    exact ⟨⟨_, rfl⟩, rfl⟩
  · have e0 : (y == 0) = false := by simpa using h0
    by_cases h1 : x = -9223372036854775808 ∧ y = -1
    · rw [if_pos (.inr h1)]
      obtain ⟨rfl, rfl⟩ := h1
      go_enter Tryz.func79, Tryz.ntmps79
      go_wp2
      go_ret2
      exact ⟨⟨_, rfl⟩, rfl⟩
    · rw [if_neg (fun h => h.elim h0 h1)]
      have hq : -9223372036854775808 ≤ x.tdiv y ∧ x.tdiv y ≤ 9223372036854775807 := by
        have hn : (x.tdiv y).natAbs = x.natAbs / y.natAbs := Int.natAbs_tdiv x y
        by_cases hy1 : y = 1
        · subst hy1; rw [Int.tdiv_one]; exact hx
        · by_cases hym : y = -1
          · subst hym
            have e : x.tdiv (-1) = -x := by rw [Int.tdiv_neg, Int.tdiv_one]
            have : x ≠ -9223372036854775808 := fun e => h1 ⟨e, rfl⟩
            rw [e]; omega
          · have h2 : 2 ≤ y.natAbs := by omega
            have h3 : x.natAbs / y.natAbs ≤ x.natAbs / 2 := Nat.div_le_div_left h2 (by omega)
            omega
      have hw : IntKind.i64.wrap (x.tdiv y) = x.tdiv y := by rw [IntKind.wrap_i64]; omega
      by_cases hx1 : x = -9223372036854775808
      · have hy1 : (y == -1) = false := by have : y ≠ -1 := fun e => h1 ⟨hx1, e⟩; simpa using this
        clear hq h1
        subst hx1
        have HV : Hid (wrap64 (-Int.tdiv 9223372036854775808 y) = Int.tdiv (-9223372036854775808) y) := by
          rw [← hw, show wrap64 (-Int.tdiv 9223372036854775808 y) = IntKind.i64.wrap (-Int.tdiv 9223372036854775808 y) by unfold wrap64; rw [IntKind.wrap_i64], ← Int.neg_tdiv]
          exact rfl
        go_enter Tryz.func79, Tryz.ntmps79
        go_wp2
        go_ret2
        exact ⟨congrArg (fun z => Ending.returned (.tuple #[.int .i64 z, .bool true])) HV.out, rfl⟩
      · have ex : (x == -9223372036854775808) = false := by simpa using hx1
        clear hq h1 hx1
        go_enter Tryz.func79, Tryz.ntmps79
        go_wp2
        go_ret2
        exact ⟨rfl, rfl⟩

set_option maxHeartbeats 1000000 in
theorem rem_walk (x y : Int) (hx : inR x) (hy : inR y) (w : World) : Calls Tryz.prog 80 #[.int .i64 x, .int .i64 y] w fun e w' => arE (remO x y) e ∧ w = w' := by
  unfold remO
  unfold inR at hx hy
  by_cases h0 : y = 0
  · subst h0
    rw [if_pos rfl]
    go_enter Tryz.func80, Tryz.ntmps80
    go_wp2
    go_ret2
    exact ⟨⟨_, rfl⟩, rfl⟩
  · have e0 : (y == 0) = false := by simpa using h0
    rw [if_neg h0]
    have hw : IntKind.i64.wrap (x.tmod y) = x.tmod y := by
      have hn : (x.tmod y).natAbs = x.natAbs % y.natAbs := Int.natAbs_tmod x y
      have := Nat.mod_lt x.natAbs (show 0 < y.natAbs by omega)
      rw [IntKind.wrap_i64]; omega
    go_enter Tryz.func80, Tryz.ntmps80
    go_wp2
    go_ret2
    exact ⟨rfl, rfl⟩

set_option maxHeartbeats 1000000 in
theorem prod_pp (x y : Int) (hsx : 0 ≤ x) (hsy : 0 ≤ y) (hx : inR x) (hy : inR y) (w : World) : Calls Tryz.prog 78 #[.int .i64 x, .int .i64 y] w fun e w' => arE (mulO x y) e ∧ w = w' := by
  have HSx : Hid (∀ V, Calls Tryz.prog 111 #[.int .i64 x] V fun e w' => e = .returned (.int .u64 (x.natAbs : Int)) ∧ V = w') := fun V => size_walk x hx V
  have HSy : Hid (∀ V, Calls Tryz.prog 111 #[.int .i64 y] V fun e w' => e = .returned (.int .u64 (y.natAbs : Int)) ∧ V = w') := fun V => size_walk y hy V
  obtain ⟨P, hP⟩ : ∃ P, x.natAbs * y.natAbs = P := ⟨_, rfl⟩
  obtain ⟨H, hH⟩ : ∃ H, P / 18446744073709551616 = H := ⟨_, rfl⟩
  obtain ⟨L, hL⟩ : ∃ L, P % 18446744073709551616 = L := ⟨_, rfl⟩
  have HM : Hid (∀ V, Calls Tryz.prog 110 #[.int .u64 (x.natAbs : Int), .int .u64 (y.natAbs : Int)] V fun e w' => e = .returned (.tuple #[.int .u64 (H : Int), .int .u64 (L : Int)]) ∧ V = w') := fun V => by
    unfold inR at hx hy
    refine (Tryz.bits_Mul64 x.natAbs y.natAbs (by omega) (by omega) V).mono ?_
    rintro e w1 ⟨rfl, rfl⟩
    rw [hP, hH, hL]
    exact ⟨rfl, rfl⟩
  have hxy : x * y = (P : Int) := by
    have h1 : (x * y).natAbs = P := by rw [Int.natAbs_mul, hP]
    have h2 : 0 ≤ x * y := Int.mul_nonneg hsx hsy
    omega
  obtain ⟨n, hw⟩ : ∃ n, IntKind.i64.wrap (x * y) = n := ⟨_, rfl⟩
  have hn : inR (x * y) → n = x * y := fun h => by unfold inR at h; rw [← hw, IntKind.wrap_i64]; omega
  have hmw : IntKind.u64.wrap 9223372036854775808 = 9223372036854775808 := by decide
  have s1 : ¬ x < 0 := by omega
  have s2 : ¬ y < 0 := by omega
  unfold mulO
  by_cases hr : inR (x * y)
  · rw [if_pos hr]
    have hn' := hn hr
    unfold inR at hr
    rw [hxy] at hr
    have a1 : ((H : Int) == 0) = true := by have : H = 0 := by omega
                                            rw [this]; rfl
    have a2 : (L : Int) ≤ 9223372036854775807 := by omega
    have HNN : Hid (n = x * y) := hn'
    clear hn hn' hr hxy hP hH hL hx hy
    go_enter Tryz.func78, Tryz.ntmps78
    go_wp2_with (first
      | (go_at_call 111; with_reducible refine Calls.mono (HSx.out _) ?_; rintro e w1 ⟨rfl, rfl⟩)
      | (go_at_call 111; with_reducible refine Calls.mono (HSy.out _) ?_; rintro e w1 ⟨rfl, rfl⟩)
      | (go_at_call 110; with_reducible refine Calls.mono (HM.out _) ?_; rintro e w1 ⟨rfl, rfl⟩))
    all_goals (try go_region)
    all_goals (try go_wp2)
    all_goals go_ret2
    all_goals exact ⟨by rw [← HNN.out]; rfl, rfl⟩
  · rw [if_neg hr]
    have hbig : ¬ (H = 0 ∧ L ≤ 9223372036854775807) := fun h => hr (by unfold inR; rw [hxy]; omega)
    by_cases hH0 : H = 0
    · have a1 : ((H : Int) == 0) = true := by rw [hH0]; rfl
      have a2 : decide ((L : Int) ≤ 9223372036854775807) = false := decide_eq_false (by omega)
      have HA2 : Hid (decide ((L : Int) ≤ 9223372036854775807) = false) := a2
      clear a2 hn hr hxy hP hH hL hx hy hbig hH0
      go_enter Tryz.func78, Tryz.ntmps78
      go_wp2_with (first
        | (go_at_call 111; with_reducible refine Calls.mono (HSx.out _) ?_; rintro e w1 ⟨rfl, rfl⟩)
        | (go_at_call 111; with_reducible refine Calls.mono (HSy.out _) ?_; rintro e w1 ⟨rfl, rfl⟩)
        | (go_at_call 110; with_reducible refine Calls.mono (HM.out _) ?_; rintro e w1 ⟨rfl, rfl⟩))
      all_goals (try go_region)
      all_goals (try go_wp2)
      all_goals go_ret2
      all_goals exact ⟨⟨n, congrArg (fun b => Ending.returned (.tuple #[.int .i64 n, .bool b])) HA2.out⟩, rfl⟩
    · have a1 : ((H : Int) == 0) = false := beq_eq_false_iff_ne.2 (by omega)
      clear hn hr hxy hP hH hL hx hy hbig hH0
      go_enter Tryz.func78, Tryz.ntmps78
      go_wp2_with (first
        | (go_at_call 111; with_reducible refine Calls.mono (HSx.out _) ?_; rintro e w1 ⟨rfl, rfl⟩)
        | (go_at_call 111; with_reducible refine Calls.mono (HSy.out _) ?_; rintro e w1 ⟨rfl, rfl⟩)
        | (go_at_call 110; with_reducible refine Calls.mono (HM.out _) ?_; rintro e w1 ⟨rfl, rfl⟩))
      all_goals (try go_region)
      all_goals (try go_wp2)
      all_goals go_ret2
      all_goals exact ⟨⟨_, rfl⟩, rfl⟩

set_option maxHeartbeats 1000000 in
theorem prod_nn (x y : Int) (hsx : x < 0) (hsy : y < 0) (hx : inR x) (hy : inR y) (w : World) : Calls Tryz.prog 78 #[.int .i64 x, .int .i64 y] w fun e w' => arE (mulO x y) e ∧ w = w' := by
  have HSx : Hid (∀ V, Calls Tryz.prog 111 #[.int .i64 x] V fun e w' => e = .returned (.int .u64 (x.natAbs : Int)) ∧ V = w') := fun V => size_walk x hx V
  have HSy : Hid (∀ V, Calls Tryz.prog 111 #[.int .i64 y] V fun e w' => e = .returned (.int .u64 (y.natAbs : Int)) ∧ V = w') := fun V => size_walk y hy V
  obtain ⟨P, hP⟩ : ∃ P, x.natAbs * y.natAbs = P := ⟨_, rfl⟩
  obtain ⟨H, hH⟩ : ∃ H, P / 18446744073709551616 = H := ⟨_, rfl⟩
  obtain ⟨L, hL⟩ : ∃ L, P % 18446744073709551616 = L := ⟨_, rfl⟩
  have HM : Hid (∀ V, Calls Tryz.prog 110 #[.int .u64 (x.natAbs : Int), .int .u64 (y.natAbs : Int)] V fun e w' => e = .returned (.tuple #[.int .u64 (H : Int), .int .u64 (L : Int)]) ∧ V = w') := fun V => by
    unfold inR at hx hy
    refine (Tryz.bits_Mul64 x.natAbs y.natAbs (by omega) (by omega) V).mono ?_
    rintro e w1 ⟨rfl, rfl⟩
    rw [hP, hH, hL]
    exact ⟨rfl, rfl⟩
  have hxy : x * y = (P : Int) := by
    have h1 : (x * y).natAbs = P := by rw [Int.natAbs_mul, hP]
    have h2 : 0 ≤ x * y := Int.mul_nonneg_of_nonpos_of_nonpos (Int.le_of_lt hsx) (Int.le_of_lt hsy)
    omega
  obtain ⟨n, hw⟩ : ∃ n, IntKind.i64.wrap (x * y) = n := ⟨_, rfl⟩
  have hn : inR (x * y) → n = x * y := fun h => by unfold inR at h; rw [← hw, IntKind.wrap_i64]; omega
  have hmw : IntKind.u64.wrap 9223372036854775808 = 9223372036854775808 := by decide
  unfold mulO
  by_cases hr : inR (x * y)
  · rw [if_pos hr]
    have hn' := hn hr
    unfold inR at hr
    rw [hxy] at hr
    have a1 : ((H : Int) == 0) = true := by have : H = 0 := by omega
                                            rw [this]; rfl
    have a2 : (L : Int) ≤ 9223372036854775807 := by omega
    have HNN : Hid (n = x * y) := hn'
    clear hn hn' hr hxy hP hH hL hx hy
    go_enter Tryz.func78, Tryz.ntmps78
    go_wp2_with (first
      | (go_at_call 111; with_reducible refine Calls.mono (HSx.out _) ?_; rintro e w1 ⟨rfl, rfl⟩)
      | (go_at_call 111; with_reducible refine Calls.mono (HSy.out _) ?_; rintro e w1 ⟨rfl, rfl⟩)
      | (go_at_call 110; with_reducible refine Calls.mono (HM.out _) ?_; rintro e w1 ⟨rfl, rfl⟩))
    all_goals (try go_region)
    all_goals (try go_wp2)
    all_goals go_ret2
    all_goals exact ⟨by rw [← HNN.out]; rfl, rfl⟩
  · rw [if_neg hr]
    have hbig : ¬ (H = 0 ∧ L ≤ 9223372036854775807) := fun h => hr (by unfold inR; rw [hxy]; omega)
    by_cases hH0 : H = 0
    · have a1 : ((H : Int) == 0) = true := by rw [hH0]; rfl
      have a2 : decide ((L : Int) ≤ 9223372036854775807) = false := decide_eq_false (by omega)
      have HA2 : Hid (decide ((L : Int) ≤ 9223372036854775807) = false) := a2
      clear a2 hn hr hxy hP hH hL hx hy hbig hH0
      go_enter Tryz.func78, Tryz.ntmps78
      go_wp2_with (first
        | (go_at_call 111; with_reducible refine Calls.mono (HSx.out _) ?_; rintro e w1 ⟨rfl, rfl⟩)
        | (go_at_call 111; with_reducible refine Calls.mono (HSy.out _) ?_; rintro e w1 ⟨rfl, rfl⟩)
        | (go_at_call 110; with_reducible refine Calls.mono (HM.out _) ?_; rintro e w1 ⟨rfl, rfl⟩))
      all_goals (try go_region)
      all_goals (try go_wp2)
      all_goals go_ret2
      all_goals exact ⟨⟨n, congrArg (fun b => Ending.returned (.tuple #[.int .i64 n, .bool b])) HA2.out⟩, rfl⟩
    · have a1 : ((H : Int) == 0) = false := beq_eq_false_iff_ne.2 (by omega)
      clear hn hr hxy hP hH hL hx hy hbig hH0
      go_enter Tryz.func78, Tryz.ntmps78
      go_wp2_with (first
        | (go_at_call 111; with_reducible refine Calls.mono (HSx.out _) ?_; rintro e w1 ⟨rfl, rfl⟩)
        | (go_at_call 111; with_reducible refine Calls.mono (HSy.out _) ?_; rintro e w1 ⟨rfl, rfl⟩)
        | (go_at_call 110; with_reducible refine Calls.mono (HM.out _) ?_; rintro e w1 ⟨rfl, rfl⟩))
      all_goals (try go_region)
      all_goals (try go_wp2)
      all_goals go_ret2
      all_goals exact ⟨⟨_, rfl⟩, rfl⟩

set_option maxHeartbeats 1000000 in
theorem prod_np (x y : Int) (hsx : x < 0) (hsy : 0 ≤ y) (hx : inR x) (hy : inR y) (w : World) : Calls Tryz.prog 78 #[.int .i64 x, .int .i64 y] w fun e w' => arE (mulO x y) e ∧ w = w' := by
  have HSx : Hid (∀ V, Calls Tryz.prog 111 #[.int .i64 x] V fun e w' => e = .returned (.int .u64 (x.natAbs : Int)) ∧ V = w') := fun V => size_walk x hx V
  have HSy : Hid (∀ V, Calls Tryz.prog 111 #[.int .i64 y] V fun e w' => e = .returned (.int .u64 (y.natAbs : Int)) ∧ V = w') := fun V => size_walk y hy V
  obtain ⟨P, hP⟩ : ∃ P, x.natAbs * y.natAbs = P := ⟨_, rfl⟩
  obtain ⟨H, hH⟩ : ∃ H, P / 18446744073709551616 = H := ⟨_, rfl⟩
  obtain ⟨L, hL⟩ : ∃ L, P % 18446744073709551616 = L := ⟨_, rfl⟩
  have HM : Hid (∀ V, Calls Tryz.prog 110 #[.int .u64 (x.natAbs : Int), .int .u64 (y.natAbs : Int)] V fun e w' => e = .returned (.tuple #[.int .u64 (H : Int), .int .u64 (L : Int)]) ∧ V = w') := fun V => by
    unfold inR at hx hy
    refine (Tryz.bits_Mul64 x.natAbs y.natAbs (by omega) (by omega) V).mono ?_
    rintro e w1 ⟨rfl, rfl⟩
    rw [hP, hH, hL]
    exact ⟨rfl, rfl⟩
  have hxy : x * y = -(P : Int) := by
    have h1 : (x * y).natAbs = P := by rw [Int.natAbs_mul, hP]
    have h2 : x * y ≤ 0 := Int.mul_nonpos_of_nonpos_of_nonneg (Int.le_of_lt hsx) hsy
    omega
  obtain ⟨n, hw⟩ : ∃ n, IntKind.i64.wrap (x * y) = n := ⟨_, rfl⟩
  have hn : inR (x * y) → n = x * y := fun h => by unfold inR at h; rw [← hw, IntKind.wrap_i64]; omega
  have hmw : IntKind.u64.wrap 9223372036854775808 = 9223372036854775808 := by decide
  have s2 : ¬ y < 0 := by omega
  unfold mulO
  by_cases hr : inR (x * y)
  · rw [if_pos hr]
    have hn' := hn hr
    unfold inR at hr
    rw [hxy] at hr
    have a1 : ((H : Int) == 0) = true := by have : H = 0 := by omega
                                            rw [this]; rfl
    have a2 : (L : Int) ≤ 9223372036854775808 := by omega
    have HNN : Hid (n = x * y) := hn'
    clear hn hn' hr hxy hP hH hL hx hy
    go_enter Tryz.func78, Tryz.ntmps78
    go_wp2_with (first
      | (go_at_call 111; with_reducible refine Calls.mono (HSx.out _) ?_; rintro e w1 ⟨rfl, rfl⟩)
      | (go_at_call 111; with_reducible refine Calls.mono (HSy.out _) ?_; rintro e w1 ⟨rfl, rfl⟩)
      | (go_at_call 110; with_reducible refine Calls.mono (HM.out _) ?_; rintro e w1 ⟨rfl, rfl⟩))
    all_goals (try go_region)
    all_goals (try go_wp2)
    all_goals go_ret2
    all_goals exact ⟨by rw [← HNN.out]; rfl, rfl⟩
  · rw [if_neg hr]
    have hbig : ¬ (H = 0 ∧ L ≤ 9223372036854775808) := fun h => hr (by unfold inR; rw [hxy]; omega)
    by_cases hH0 : H = 0
    · have a1 : ((H : Int) == 0) = true := by rw [hH0]; rfl
      have a2 : decide ((L : Int) ≤ 9223372036854775808) = false := decide_eq_false (by omega)
      have HA2 : Hid (decide ((L : Int) ≤ 9223372036854775808) = false) := a2
      clear a2 hn hr hxy hP hH hL hx hy hbig hH0
      go_enter Tryz.func78, Tryz.ntmps78
      go_wp2_with (first
        | (go_at_call 111; with_reducible refine Calls.mono (HSx.out _) ?_; rintro e w1 ⟨rfl, rfl⟩)
        | (go_at_call 111; with_reducible refine Calls.mono (HSy.out _) ?_; rintro e w1 ⟨rfl, rfl⟩)
        | (go_at_call 110; with_reducible refine Calls.mono (HM.out _) ?_; rintro e w1 ⟨rfl, rfl⟩))
      all_goals (try go_region)
      all_goals (try go_wp2)
      all_goals go_ret2
      all_goals exact ⟨⟨n, congrArg (fun b => Ending.returned (.tuple #[.int .i64 n, .bool b])) HA2.out⟩, rfl⟩
    · have a1 : ((H : Int) == 0) = false := beq_eq_false_iff_ne.2 (by omega)
      clear hn hr hxy hP hH hL hx hy hbig hH0
      go_enter Tryz.func78, Tryz.ntmps78
      go_wp2_with (first
        | (go_at_call 111; with_reducible refine Calls.mono (HSx.out _) ?_; rintro e w1 ⟨rfl, rfl⟩)
        | (go_at_call 111; with_reducible refine Calls.mono (HSy.out _) ?_; rintro e w1 ⟨rfl, rfl⟩)
        | (go_at_call 110; with_reducible refine Calls.mono (HM.out _) ?_; rintro e w1 ⟨rfl, rfl⟩))
      all_goals (try go_region)
      all_goals (try go_wp2)
      all_goals go_ret2
      all_goals exact ⟨⟨_, rfl⟩, rfl⟩

set_option maxHeartbeats 1000000 in
theorem prod_pn (x y : Int) (hsx : 0 ≤ x) (hsy : y < 0) (hx : inR x) (hy : inR y) (w : World) : Calls Tryz.prog 78 #[.int .i64 x, .int .i64 y] w fun e w' => arE (mulO x y) e ∧ w = w' := by
  have HSx : Hid (∀ V, Calls Tryz.prog 111 #[.int .i64 x] V fun e w' => e = .returned (.int .u64 (x.natAbs : Int)) ∧ V = w') := fun V => size_walk x hx V
  have HSy : Hid (∀ V, Calls Tryz.prog 111 #[.int .i64 y] V fun e w' => e = .returned (.int .u64 (y.natAbs : Int)) ∧ V = w') := fun V => size_walk y hy V
  obtain ⟨P, hP⟩ : ∃ P, x.natAbs * y.natAbs = P := ⟨_, rfl⟩
  obtain ⟨H, hH⟩ : ∃ H, P / 18446744073709551616 = H := ⟨_, rfl⟩
  obtain ⟨L, hL⟩ : ∃ L, P % 18446744073709551616 = L := ⟨_, rfl⟩
  have HM : Hid (∀ V, Calls Tryz.prog 110 #[.int .u64 (x.natAbs : Int), .int .u64 (y.natAbs : Int)] V fun e w' => e = .returned (.tuple #[.int .u64 (H : Int), .int .u64 (L : Int)]) ∧ V = w') := fun V => by
    unfold inR at hx hy
    refine (Tryz.bits_Mul64 x.natAbs y.natAbs (by omega) (by omega) V).mono ?_
    rintro e w1 ⟨rfl, rfl⟩
    rw [hP, hH, hL]
    exact ⟨rfl, rfl⟩
  have hxy : x * y = -(P : Int) := by
    have h1 : (x * y).natAbs = P := by rw [Int.natAbs_mul, hP]
    have h2 : x * y ≤ 0 := Int.mul_nonpos_of_nonneg_of_nonpos hsx (Int.le_of_lt hsy)
    omega
  obtain ⟨n, hw⟩ : ∃ n, IntKind.i64.wrap (x * y) = n := ⟨_, rfl⟩
  have hn : inR (x * y) → n = x * y := fun h => by unfold inR at h; rw [← hw, IntKind.wrap_i64]; omega
  have hmw : IntKind.u64.wrap 9223372036854775808 = 9223372036854775808 := by decide
  have s1 : ¬ x < 0 := by omega
  unfold mulO
  by_cases hr : inR (x * y)
  · rw [if_pos hr]
    have hn' := hn hr
    unfold inR at hr
    rw [hxy] at hr
    have a1 : ((H : Int) == 0) = true := by have : H = 0 := by omega
                                            rw [this]; rfl
    have a2 : (L : Int) ≤ 9223372036854775808 := by omega
    have HNN : Hid (n = x * y) := hn'
    clear hn hn' hr hxy hP hH hL hx hy
    go_enter Tryz.func78, Tryz.ntmps78
    go_wp2_with (first
      | (go_at_call 111; with_reducible refine Calls.mono (HSx.out _) ?_; rintro e w1 ⟨rfl, rfl⟩)
      | (go_at_call 111; with_reducible refine Calls.mono (HSy.out _) ?_; rintro e w1 ⟨rfl, rfl⟩)
      | (go_at_call 110; with_reducible refine Calls.mono (HM.out _) ?_; rintro e w1 ⟨rfl, rfl⟩))
    all_goals (try go_region)
    all_goals (try go_wp2)
    all_goals go_ret2
    all_goals exact ⟨by rw [← HNN.out]; rfl, rfl⟩
  · rw [if_neg hr]
    have hbig : ¬ (H = 0 ∧ L ≤ 9223372036854775808) := fun h => hr (by unfold inR; rw [hxy]; omega)
    by_cases hH0 : H = 0
    · have a1 : ((H : Int) == 0) = true := by rw [hH0]; rfl
      have a2 : decide ((L : Int) ≤ 9223372036854775808) = false := decide_eq_false (by omega)
      have HA2 : Hid (decide ((L : Int) ≤ 9223372036854775808) = false) := a2
      clear a2 hn hr hxy hP hH hL hx hy hbig hH0
      go_enter Tryz.func78, Tryz.ntmps78
      go_wp2_with (first
        | (go_at_call 111; with_reducible refine Calls.mono (HSx.out _) ?_; rintro e w1 ⟨rfl, rfl⟩)
        | (go_at_call 111; with_reducible refine Calls.mono (HSy.out _) ?_; rintro e w1 ⟨rfl, rfl⟩)
        | (go_at_call 110; with_reducible refine Calls.mono (HM.out _) ?_; rintro e w1 ⟨rfl, rfl⟩))
      all_goals (try go_region)
      all_goals (try go_wp2)
      all_goals go_ret2
      all_goals exact ⟨⟨n, congrArg (fun b => Ending.returned (.tuple #[.int .i64 n, .bool b])) HA2.out⟩, rfl⟩
    · have a1 : ((H : Int) == 0) = false := beq_eq_false_iff_ne.2 (by omega)
      clear hn hr hxy hP hH hL hx hy hbig hH0
      go_enter Tryz.func78, Tryz.ntmps78
      go_wp2_with (first
        | (go_at_call 111; with_reducible refine Calls.mono (HSx.out _) ?_; rintro e w1 ⟨rfl, rfl⟩)
        | (go_at_call 111; with_reducible refine Calls.mono (HSy.out _) ?_; rintro e w1 ⟨rfl, rfl⟩)
        | (go_at_call 110; with_reducible refine Calls.mono (HM.out _) ?_; rintro e w1 ⟨rfl, rfl⟩))
      all_goals (try go_region)
      all_goals (try go_wp2)
      all_goals go_ret2
      all_goals exact ⟨⟨_, rfl⟩, rfl⟩

theorem mul_walk (x y : Int) (hx : inR x) (hy : inR y) (w : World) : Calls Tryz.prog 78 #[.int .i64 x, .int .i64 y] w fun e w' => arE (mulO x y) e ∧ w = w' := by
  by_cases h1 : x < 0
  · by_cases h2 : y < 0
    · exact prod_nn x y h1 h2 hx hy w
    · exact prod_np x y h1 (by omega) hx hy w
  · by_cases h2 : y < 0
    · exact prod_pn x y (by omega) h2 hx hy w
    · exact prod_pp x y (by omega) (by omega) hx hy w
end Go.Proofs.YtoekdeoekcmpgaaGreatDoor
