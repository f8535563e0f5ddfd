/- Package calc: Binary of arithmetic; Unary's refusal; the law's head. -/
import Derived.Test.YtoekdeoekcmpgaaGreatDoorKO
namespace Go.Proofs.YtoekdeoekcmpgaaGreatDoor
open Go.ChangeShapes Go.WideShapes Go.ChangeAt Go.RowKit
set_option linter.unusedVariables false

/-- A value and a number come back, whatever their places. -/
theorem ret_val2g {w1 : World} {g j i : Nat} {x y z : Value} {fn : Func} (hres : fn.results = #[.cell j 24, .tmp i]) {tmps : Array Value} (ht : tmps.getD j undef = .pointer (some ⟨g, 0, none⟩)) {u : Value} (hu : tmps.getD i undef = u)
    (hb : w1.heap[g]? = some (.cells #[x, y, z] 24 (0, 0))) {a b c : Value} {R : Ending → World → Prop}
    (h : R (.returned (.tuple #[.agg #[a, b, c], u])) (((w1.setCell ⟨g, 0, none⟩ a).setCell ⟨g, 1, none⟩ b).setCell ⟨g, 2, none⟩ c)) :
    bodyPost Tryz.prog fn R Exit.ret { tmps := tmps, defers := [] } (((w1.setCell ⟨g, 0, none⟩ a).setCell ⟨g, 1, none⟩ b).setCell ⟨g, 2, none⟩ c) := by
  have hs := set_block (set_block (set_block hb 0 a) 1 b) 2 c
  have hl := run_loadVar_row (P := Tryz.prog) (((w1.setCell ⟨g, 0, none⟩ a).setCell ⟨g, 1, none⟩ b).setCell ⟨g, 2, none⟩ c) g 24 24 #[a, b, c] (0, 0) _ (by simpa using hs) Tryz.underlying24 rfl infoV
  refine bodyPost_ret (v := .tuple #[.agg #[a, b, c], u]) ?_ rfl h
  have ht' : tmps[j]?.getD undef = .pointer (some ⟨g, 0, none⟩) := by simpa using ht
  have hu' : tmps[i]?.getD undef = u := by simpa using hu
  simp [results, hres, ht', hu', asAddr, hl]

theorem fn2_nil (fn : Fn) (a b : Array Value) (w : World) : (binOp .eql 66 (.func fn a b) .nilFunc).run Tryz.prog w = .ok (.bool false) w := by
  kernel_rfl
theorem nil2_nil (w : World) : (binOp .eql 66 .nilFunc .nilFunc).run Tryz.prog w = .ok (.bool true) w := by
  kernel_rfl
theorem fn1_nil (fn : Fn) (a b : Array Value) (w : World) : (binOp .eql 29 (.func fn a b) .nilFunc).run Tryz.prog w = .ok (.bool false) w := by
  kernel_rfl
theorem nil1_nil (w : World) : (binOp .eql 29 .nilFunc .nilFunc).run Tryz.prog w = .ok (.bool true) w := by
  kernel_rfl

set_option maxHeartbeats 1000000 in
set_option maxRecDepth 10000 in
theorem binary_ar (op c : Int) (g : Int → Int → Option Int) (f : Nat) (k n : Int) (t : ByteArray) (k2 n2 : Int) (t2 : ByteArray) (hm1 : mayB k n t = true) (hm2 : mayB k2 n2 t2 = true)
    (HT : Hid (∀ V, Calls Tryz.prog 46 #[.int .i64 op, .int .i64 c] V (ArVal f V)))
    (HF : Hid (∀ x y, numO k n t.data.toList = some x → numO k2 n2 t2.data.toList = some y → ∀ p V, V.cell? ⟨p, 0, none⟩ = some (.func (.func f) #[] #[]) → Calls Tryz.prog 108 #[val 1 x ⟨#[]⟩, val 1 y ⟨#[]⟩, .pointer (some ⟨p, 0, none⟩)] V fun e w' => e = .returned (optV (g x y)) ∧ Below V.heap.size V w')) (w : World) (hE : Env w) :
    Calls Tryz.prog 18 #[.int .i64 op, val k n t, val k2 n2 t2, .int .i64 c] w fun e w' => e = .returned (.tuple #[optV (arO g (numO k n t.data.toList) (numO k2 n2 t2.data.toList)), .int .i64 0]) ∧ Below w.heap.size w w' := by
  have HM1 : Hid (∀ V, Calls Tryz.prog 32 #[.agg #[.int .i64 k, .int .i64 n, .string t]] V fun e w' => e = .returned (.bool true) ∧ Below V.heap.size V w') := fun V => by have := may_walk k n t V; rw [hm1] at this; exact this
  have HM2 : Hid (∀ V, Calls Tryz.prog 32 #[.agg #[.int .i64 k2, .int .i64 n2, .string t2]] V fun e w' => e = .returned (.bool true) ∧ Below V.heap.size V w') := fun V => by have := may_walk k2 n2 t2 V; rw [hm2] at this; exact this
  have HW : Hid (∀ V, _ → _) := pr2_later w k n t k2 n2 t2
  have HT2 : Hid (∀ V, Calls Tryz.prog 46 #[.int .i64 op, .int .i64 c] V fun e w' => ∃ p2 : Nat, e = .returned (.func (.func 109) #[] #[.pointer (some ⟨p2, 0, none⟩)]) ∧ ArFn w' p2 f ∧ Below V.heap.size V w') := HT
  have HE : Hid (∀ V, Below w.heap.size w V → Env V) := fun V h => hE.below h
  obtain ⟨c1, c2, c3, hc⟩ := optV_val (arO g (numO k n t.data.toList) (numO k2 n2 t2.data.toList))
  have HC : Hid (∀ V p2, Env V → ArFn V p2 f → Calls Tryz.prog 109 #[.agg #[.int .i64 k, .int .i64 n, .string t], .agg #[.int .i64 k2, .int .i64 n2, .string t2], .pointer (some ⟨p2, 0, none⟩)] V fun e w' => e = .returned (val c1 c2 c3) ∧ Below V.heap.size V w') := fun V p2 hV hA => by
    rw [← hc]; exact clo2_walk g f k n t k2 n2 t2 HF p2 V hV hA
  rw [hc]
  have hnf := fn2_nil
  clear hm1 hm2 hE hc HF
  go_enter Tryz.func18, Tryz.ntmps18
  go_wp2_with (first
    | (go_at_call 46; with_reducible refine Calls.mono (HT2.out _) ?_; rintro e w1 ⟨pf, rfl, hA1, hb1⟩; obtain ⟨⟨p0, p1, p2⟩, ⟨q0, q1, q2⟩, ⟨d0, d1, d2, f0, f1, f2⟩, HK1, HB1⟩ := HW.out _ hb1; have HX1 := hide hb1; have HA1 := hide hA1; clear hb1 hA1)
    | (go_at_call 32; with_reducible refine Calls.mono (HM1.out _) ?_; rintro e w2 ⟨rfl, hb2⟩; have HX2 := hide (below_trans HX1.out hb2); have HA2 := hide (HA1.out.below hb2); obtain ⟨⟨p0, p1, p2⟩, ⟨q0, q1, q2⟩, ⟨d0, d1, d2, f0, f1, f2⟩, HK2, HB2⟩ := HW.out _ HX2.out; clear hb2)
    | (go_at_call 32; with_reducible refine Calls.mono (HM2.out _) ?_; rintro e w3 ⟨rfl, hb3⟩; have HX3 := hide (below_trans HX2.out hb3); have HA3 := hide (HA2.out.below hb3); obtain ⟨⟨p0, p1, p2⟩, ⟨q0, q1, q2⟩, ⟨d0, d1, d2, f0, f1, f2⟩, HK3, HB3⟩ := HW.out _ HX3.out; clear hb3)
    | (go_at_call 109; with_reducible refine Calls.mono (HC.out _ _ (HE.out _ HB3.out) HA3.out) ?_; rintro e w4 ⟨rfl, hb4⟩; have HX4 := hide (below_trans HX3.out hb4); obtain ⟨⟨p0, p1, p2⟩, ⟨q0, q1, q2⟩, ⟨d0, d1, d2, f0, f1, f2⟩, HK4, HB4⟩ := HW.out _ HX4.out; clear hb4))
  exact ret_val2g Tryz.results18 rfl rfl HK4.out ⟨rfl, below_set3g HB4.out (Nat.le_succ_of_le (Nat.le_succ _)) _ _ _⟩

theorem three_cells (w : World) (a b c : Value) (V : World) (h : Below (w.alloc (.cells #[a, b, c] 24)).heap.size (w.alloc (.cells #[a, b, c] 24)) V) :
    V.cell? ⟨w.heap.size, 0, none⟩ = some a ∧ V.cell? ⟨w.heap.size, 1, none⟩ = some b ∧ V.cell? ⟨w.heap.size, 2, none⟩ = some c :=
  ⟨(later_block w a b c 24 V h).1, (later_block w a b c 24 V h).2.1, (later_block w a b c 24 V h).2.2.1⟩

theorem num_of_int (n : Int) : numO 1 n (⟨#[]⟩ : ByteArray).data.toList = some n := by
  unfold numO
  rw [if_pos (.inr (.inl ⟨rfl, rfl⟩)), if_pos rfl]

/-- Arithmetic on integers, at every operator. -/
theorem binary_add (x y c : Int) (hx : inR x) (hy : inR y) (w : World) (hE : Env w) :
    Calls Tryz.prog 18 #[.int .i64 7, val 1 x ⟨#[]⟩, val 1 y ⟨#[]⟩, .int .i64 c] w fun e w' => e = .returned (.tuple #[optV (sumO x y), .int .i64 0]) ∧ Below w.heap.size w w' := by
  have := binary_ar 7 c sumO 77 1 x ⟨#[]⟩ 1 y ⟨#[]⟩ rfl rfl (fun V => ofTwo_add c V) (fun x' y' hx' hy' p V hc => by
    rw [num_of_int] at hx' hy'
    obtain rfl := Option.some.inj hx'
    obtain rfl := Option.some.inj hy'
    exact clo1_sum _ _ _ (fun V => sum_walk _ _ hx hy V) p V hc) w hE
  rw [num_of_int, num_of_int] at this
  exact this

set_option maxHeartbeats 1000000 in
theorem ofOne_no (w : World) : Calls Tryz.prog 44 #[.int .i64 7] w fun e w' => e = .returned .nilFunc ∧ w = w' := by
  go_enter Tryz.func44, Tryz.ntmps44
  go_wp2
  go_ret
  exact ⟨rfl, rfl⟩

theorem ret_same2g {V : World} {g j i : Nat} {fn : Func} (hres : fn.results = #[.cell j 24, .tmp i]) {tmps : Array Value} (ht : tmps.getD j undef = .pointer (some ⟨g, 0, none⟩)) {u : Value} (hu : tmps.getD i undef = u)
    {a b c : Value} (hb : V.heap[g]? = some (.cells #[a, b, c] 24 (0, 0))) {R : Ending → World → Prop} (h : R (.returned (.tuple #[.agg #[a, b, c], u])) V) :
    bodyPost Tryz.prog fn R Exit.ret { tmps := tmps, defers := [] } V := by
  have hl := run_loadVar_row (P := Tryz.prog) V g 24 24 #[a, b, c] (0, 0) _ hb Tryz.underlying24 rfl infoV
  refine bodyPost_ret (v := .tuple #[.agg #[a, b, c], u]) ?_ rfl h
  have ht' : tmps[j]?.getD undef = .pointer (some ⟨g, 0, none⟩) := by simpa using ht
  have hu' : tmps[i]?.getD undef = u := by simpa using hu
  simp [results, hres, ht', hu', asAddr, hl]

set_option maxHeartbeats 1000000 in
theorem unary_no (k n : Int) (t : ByteArray) (w : World) : Calls Tryz.prog 16 #[.int .i64 7, val k n t] w fun e w' => e = .returned (.tuple #[val 0 0 ⟨#[]⟩, .int .i64 130]) ∧ Below w.heap.size w w' := by
  have hnf := nil1_nil
  obtain ⟨⟨p0, p1, p2⟩, q0, q1, q2, ⟨d0, d1, d2, f0, f1, f2⟩, HK1, HB1⟩ := pr_later w k n t _ (Below.refl _ _)
  go_enter Tryz.func16, Tryz.ntmps16
  go_wp2_with (first
    | (go_at_call 44; with_reducible refine Calls.mono (ofOne_no _) ?_; rintro e w1 ⟨rfl, rfl⟩))
  exact ret_same2g Tryz.results16 rfl rfl HK1.out ⟨rfl, HB1.out⟩

set_option maxHeartbeats 1000000 in
set_option maxRecDepth 10000 in
theorem head3_walk (w : World) (hE : Env w) : Calls Tryz.prog 11 #[] w fun e w' => e = .returned (.bool true) ∧ Below w.heap.size w w' := by
  have HB : Hid (∀ V, Env V → Calls Tryz.prog 18 #[.int .i64 7, .agg #[.int .i64 1, .int .i64 2, .string ⟨#[]⟩], .agg #[.int .i64 1, .int .i64 3, .string ⟨#[]⟩], .int .i64 0] V fun e w' => e = .returned (.tuple #[.agg #[.int .i64 1, .int .i64 5, .string ⟨#[]⟩], .int .i64 0]) ∧ Below V.heap.size V w') := fun V hV =>
    binary_add 2 3 0 (by unfold inR; omega) (by unfold inR; omega) V hV
  have HE : Hid (∀ V, Below w.heap.size w V → Env V) := fun V h => hE.below h
  clear hE
  go_enter Tryz.func11, Tryz.ntmps11
  go_wp2_with (first
    | (go_at_call 31; with_reducible refine Calls.mono (rint_walk 2 _) ?_; rintro e w1 ⟨rfl, hb1⟩; have HB1 := hide hb1; clear hb1)
    | (go_at_call 31; with_reducible refine Calls.mono (rint_walk 3 _) ?_; rintro e w2 ⟨rfl, hb2⟩; have HB2 := hide (below_trans HB1.out hb2); clear hb2)
    | (go_at_call 18; with_reducible refine Calls.mono (HB.out _ (HE.out _ HB2.out)) ?_; rintro e w3 ⟨rfl, hb3⟩; have HB3 := hide (below_trans HB2.out hb3); clear hb3)
    | (go_at_call 16; with_reducible refine Calls.mono (unary_no _ _ _ _) ?_; rintro e w4 ⟨rfl, hb4⟩; obtain ⟨a0, a1, a2, b0, b1, b2⟩ := later_block w3 (.int .i64 1) (.int .i64 5) (.string ⟨#[]⟩) 24 _ hb4; have HX4 := hide hb4; have HB4 := hide (below_trans HB3.out (below_trans (new_below w3 _ rfl) hb4)); clear hb4))
  go_region_held3 (fun V => V.cell? ⟨w3.heap.size, 0, none⟩ = some (.int .i64 1) ∧ V.cell? ⟨w3.heap.size, 1, none⟩ = some (.int .i64 5) ∧ V.cell? ⟨w3.heap.size, 2, none⟩ = some (.string ⟨#[]⟩)) (first | exact three_cells _ _ _ _ _ (below_trans HX4.out (below_trans (new_below w4 _ rfl) (Below.refl _ _).drew)) | exact three_cells _ _ _ _ _ (below_trans HX4.out (below_trans (new_below w4 _ rfl) (below_trans (Below.refl _ _).drew hb5)))) (first
    | (go_at_call 31; with_reducible refine Calls.mono (rint_walk 5 _) ?_; rintro e w5 ⟨rfl, hb5⟩))
  all_goals (try go_wp2)
  all_goals go_ret
  all_goals exact ⟨rfl, below_trans HB4.out (below_trans (new_below w4 _ rfl) (below_trans (Below.refl _ _).drew hb5))⟩
end Go.Proofs.YtoekdeoekcmpgaaGreatDoor
