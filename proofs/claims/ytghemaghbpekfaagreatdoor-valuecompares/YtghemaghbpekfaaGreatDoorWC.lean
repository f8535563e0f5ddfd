/- Equal; the walk of ValueCompares. -/
import Derived.Test.YtghemaghbpekfaaGreatDoorRD
import Derived.Test.YtghemaghbpekfaaGreatDoorVD
namespace Go.Proofs.YtghemaghbpekfaaGreatDoor
open Go.ChangeShapes Go.WideShapes Go.ChangeAt Go.RowKit
set_option linter.unusedVariables false

set_option maxHeartbeats 1000000 in
set_option maxRecDepth 10000 in
theorem equal_walk (s t : ByteArray) (h1 : s.size ≤ 140737488355328) (h2 : t.size ≤ 140737488355328) (c : Int) (w : World) : Calls Tryz.prog 8 #[.string s, .string t, .int .i64 c] w fun e w' =>
    e = .returned (.bool (decide (foldL c s.data.toList = foldL c t.data.toList))) ∧ Below w.heap.size w w' := by
  obtain ⟨x1, hx1⟩ : ∃ x, cntS c s = x := ⟨_, rfl⟩
  obtain ⟨x2, hx2⟩ : ∃ x, cntS c t = x := ⟨_, rfl⟩
  obtain ⟨fn, hfn⟩ : ∃ fn, collF c = .func (.func fn) #[] #[] := by unfold collF; split <;> exact ⟨_, rfl⟩
  have HC1 : Hid (∀ V, Calls Tryz.prog 24 #[.string s, .int .i64 c] V fun e w' => e = .returned (.string x1) ∧ V = w') := fun V => by have := counted_walk s h1 c V; rw [hx1] at this; exact this
  have HC2 : Hid (∀ V, Calls Tryz.prog 24 #[.string t, .int .i64 c] V fun e w' => e = .returned (.string x2) ∧ V = w') := fun V => by have := counted_walk t h2 c V; rw [hx2] at this; exact this
  have HF : Hid (∀ V, Calls Tryz.prog 25 #[.int .i64 c] V fun e w' => e = .returned (.func (.func fn) #[] #[]) ∧ V = w') := fun V => by have := byColl_walk c V; rw [hfn] at this; exact this
  have HB : Hid (∀ V, Calls Tryz.prog 23 #[.string x1, .string x2, .func (.func fn) #[] #[]] V fun e w' => e = .returned (.int .i64 (cmpL (foldL c s.data.toList) (foldL c t.data.toList))) ∧ Below V.heap.size V w') := fun V => by have := cmpColl s t h1 h2 c V; rw [hx1, hx2, hfn] at this; exact this
  have he : decide (foldL c s.data.toList = foldL c t.data.toList) = (cmpL (foldL c s.data.toList) (foldL c t.data.toList) == 0) := by
    rw [Bool.eq_iff_iff]
    simp only [decide_eq_true_eq, beq_iff_eq]
    exact ⟨fun h => by rw [h]; exact cmpL_self _, cmpL_zero _ _⟩
  rw [he]
  generalize cmpL (foldL c s.data.toList) (foldL c t.data.toList) = m at HB ⊢
  clear hx1 hx2 hfn he h1 h2
  go_enter Tryz.func8, Tryz.ntmps8
  go_wp2_with (first
    | (go_at_call 24; with_reducible refine Calls.mono (HC1.out _) ?_; rintro e w1 ⟨rfl, rfl⟩)
    | (go_at_call 24; with_reducible refine Calls.mono (HC2.out _) ?_; rintro e w1 ⟨rfl, rfl⟩)
    | (go_at_call 25; with_reducible refine Calls.mono (HF.out _) ?_; rintro e w1 ⟨rfl, rfl⟩)
    | (go_at_call 23; with_reducible refine Calls.mono (HB.out _) ?_; rintro e w1 ⟨rfl, hb1⟩))
  go_ret
  exact ⟨rfl, hb1⟩

set_option maxHeartbeats 1000000 in
set_option maxRecDepth 10000 in
theorem comp_walk (k n : Int) (t : ByteArray) (k2 n2 : Int) (t2 : ByteArray) (c : Int) (hs : t.size ≤ 140737488351232) (hs2 : t2.size ≤ 140737488351232) (w : World) (hE : Env w) :
    Calls Tryz.prog 3 #[val k n t, val k2 n2 t2, .int .i64 c] w fun e w' => e = .returned (.bool true) ∧ Below w.heap.size w w' := by
  obtain ⟨m, hm⟩ : ∃ m, cmpA k n t k2 n2 t2 c = m := ⟨_, rfl⟩
  have HC : Hid (∀ V, Calls Tryz.prog 6 #[.agg #[.int .i64 k, .int .i64 n, .string t], .agg #[.int .i64 k2, .int .i64 n2, .string t2], .int .i64 c] V fun e w' => e = .returned (.int .i64 m) ∧ Below V.heap.size V w') := fun V => by have := cmp_walk k n t k2 n2 t2 c V; rw [hm] at this; exact this
  have HR : Hid (∀ V, Calls Tryz.prog 7 #[.agg #[.int .i64 k, .int .i64 n, .string t], .agg #[.int .i64 k2, .int .i64 n2, .string t2], .int .i64 c] V fun e w' => e = .returned (.int .i64 m) ∧ Below V.heap.size V w') := fun V => by have := rcmp_walk k n t k2 n2 t2 c V; rw [hm] at this; exact this
  obtain ⟨x, hx⟩ : ∃ x, foldL c t.data.toList = x := ⟨_, rfl⟩
  obtain ⟨y, hy⟩ : ∃ y, foldL c t2.data.toList = y := ⟨_, rfl⟩
  have HQ : Hid (∀ V, Calls Tryz.prog 8 #[.string t, .string t2, .int .i64 c] V fun e w' => e = .returned (.bool (decide (x = y))) ∧ Below V.heap.size V w') := fun V => by have := equal_walk t t2 (by omega) (by omega) c V; rw [hx, hy] at this; exact this
  have HF1 : Hid (∀ V, Calls Tryz.prog 9 #[.string t, .int .i64 c] V fun e w' => e = .returned (.string ⟨x.toArray⟩) ∧ Below V.heap.size V w') := fun V => by have := fold_walk t hs c V; rw [hx] at this; exact this
  have HF2 : Hid (∀ V, Calls Tryz.prog 9 #[.string t2, .int .i64 c] V fun e w' => e = .returned (.string ⟨y.toArray⟩) ∧ Below V.heap.size V w') := fun V => by have := fold_walk t2 hs2 c V; rw [hy] at this; exact this
  have HW : Hid (∀ V, _ → _) := two_later w (.int .i64 k) (.int .i64 n) (.string t) (.int .i64 k2) (.int .i64 n2) (.string t2) 24
  have HE0 : Hid (Env ((w.alloc (.cells #[.int .i64 k, .int .i64 n, .string t] 24)).alloc (.cells #[.int .i64 k2, .int .i64 n2, .string t2] 24))) := hE.below (below_trans (new_below w _ rfl) (new_below _ _ rfl))
  clear hm hx hy hE
  have HS1 : Hid (∀ V, Below ((w.alloc (.cells #[.int .i64 k, .int .i64 n, .string t] 24)).alloc (.cells #[.int .i64 k2, .int .i64 n2, .string t2] 24)).heap.size ((w.alloc (.cells #[.int .i64 k, .int .i64 n, .string t] 24)).alloc (.cells #[.int .i64 k2, .int .i64 n2, .string t2] 24)) V → (V.cell? ⟨w.heap.size, 0, none⟩ = some (.int .i64 k) ∧ V.cell? ⟨w.heap.size, 1, none⟩ = some (.int .i64 n) ∧ V.cell? ⟨w.heap.size, 2, none⟩ = some (.string t)) ∧ (V.cell? ⟨w.heap.size + 1, 0, none⟩ = some (.int .i64 k2) ∧ V.cell? ⟨w.heap.size + 1, 1, none⟩ = some (.int .i64 n2) ∧ V.cell? ⟨w.heap.size + 1, 2, none⟩ = some (.string t2))) := fun V h => ⟨(HW.out V h).1, (HW.out V h).2.1⟩
  have HD : Hid (∀ V, Below ((w.alloc (.cells #[.int .i64 k, .int .i64 n, .string t] 24)).alloc (.cells #[.int .i64 k2, .int .i64 n2, .string t2] 24)).drew.heap.size ((w.alloc (.cells #[.int .i64 k, .int .i64 n, .string t] 24)).alloc (.cells #[.int .i64 k2, .int .i64 n2, .string t2] 24)).drew V → Below ((w.alloc (.cells #[.int .i64 k, .int .i64 n, .string t] 24)).alloc (.cells #[.int .i64 k2, .int .i64 n2, .string t2] 24)).heap.size ((w.alloc (.cells #[.int .i64 k, .int .i64 n, .string t] 24)).alloc (.cells #[.int .i64 k2, .int .i64 n2, .string t2] 24)) V) := fun V h => below_trans (Below.refl _ _).drew h
  have HS0 : Hid ((((w.alloc (.cells #[.int .i64 k, .int .i64 n, .string t] 24)).alloc (.cells #[.int .i64 k2, .int .i64 n2, .string t2] 24)).drew.cell? ⟨w.heap.size, 0, none⟩ = some (.int .i64 k) ∧ ((w.alloc (.cells #[.int .i64 k, .int .i64 n, .string t] 24)).alloc (.cells #[.int .i64 k2, .int .i64 n2, .string t2] 24)).drew.cell? ⟨w.heap.size, 1, none⟩ = some (.int .i64 n) ∧ ((w.alloc (.cells #[.int .i64 k, .int .i64 n, .string t] 24)).alloc (.cells #[.int .i64 k2, .int .i64 n2, .string t2] 24)).drew.cell? ⟨w.heap.size, 2, none⟩ = some (.string t)) ∧ (((w.alloc (.cells #[.int .i64 k, .int .i64 n, .string t] 24)).alloc (.cells #[.int .i64 k2, .int .i64 n2, .string t2] 24)).drew.cell? ⟨w.heap.size + 1, 0, none⟩ = some (.int .i64 k2) ∧ ((w.alloc (.cells #[.int .i64 k, .int .i64 n, .string t] 24)).alloc (.cells #[.int .i64 k2, .int .i64 n2, .string t2] 24)).drew.cell? ⟨w.heap.size + 1, 1, none⟩ = some (.int .i64 n2) ∧ ((w.alloc (.cells #[.int .i64 k, .int .i64 n, .string t] 24)).alloc (.cells #[.int .i64 k2, .int .i64 n2, .string t2] 24)).drew.cell? ⟨w.heap.size + 1, 2, none⟩ = some (.string t2))) := HS1.out _ (HD.out _ (Below.refl _ _))
  have HED : Hid (Env ((w.alloc (.cells #[.int .i64 k, .int .i64 n, .string t] 24)).alloc (.cells #[.int .i64 k2, .int .i64 n2, .string t2] 24)).drew) := HE0.out.below (HD.out _ (Below.refl _ _))
  have HBV : Hid (∀ V, Below ((w.alloc (.cells #[.int .i64 k, .int .i64 n, .string t] 24)).alloc (.cells #[.int .i64 k2, .int .i64 n2, .string t2] 24)).heap.size ((w.alloc (.cells #[.int .i64 k, .int .i64 n, .string t] 24)).alloc (.cells #[.int .i64 k2, .int .i64 n2, .string t2] 24)) V → Below w.heap.size w V) := fun V h => below_trans (below_trans (new_below w _ rfl) (new_below _ _ rfl)) h
  go_enter Tryz.func3, Tryz.ntmps3
  go_wp2_with fail
  go_region_held3 (fun V => (V.cell? ⟨w.heap.size, 0, none⟩ = some (.int .i64 k) ∧ V.cell? ⟨w.heap.size, 1, none⟩ = some (.int .i64 n) ∧ V.cell? ⟨w.heap.size, 2, none⟩ = some (.string t)) ∧ (V.cell? ⟨w.heap.size + 1, 0, none⟩ = some (.int .i64 k2) ∧ V.cell? ⟨w.heap.size + 1, 1, none⟩ = some (.int .i64 n2) ∧ V.cell? ⟨w.heap.size + 1, 2, none⟩ = some (.string t2))) (first | with_reducible exact HS0.out | with_reducible exact HS1.out _ HX1.out | with_reducible exact HS1.out _ HX2.out | with_reducible exact HS1.out _ HX3.out | with_reducible exact HS1.out _ HX4.out | with_reducible exact HS1.out _ HX5.out | with_reducible exact HS1.out _ HX6.out) (first
    | (go_at_call 5; with_reducible refine Calls.mono (head_walk _ HED.out) ?_; rintro e w1 ⟨rfl, hb1⟩; have HX1 := hide2 (HD.out _ hb1); clear hb1)
    | (go_at_call 6; with_reducible refine Calls.mono (HC.out _) ?_; rintro e w2 ⟨rfl, hb2⟩; have HX2 := hide2 (below_trans HX1.out hb2); clear hb2)
    | (go_at_call 7; with_reducible refine Calls.mono (HR.out _) ?_; rintro e w3 ⟨rfl, hb3⟩; have HX3 := hide2 (below_trans HX2.out hb3); clear hb3)
    | (go_at_call 8; with_reducible refine Calls.mono (HQ.out _) ?_; rintro e w4 ⟨rfl, hb4⟩; have HX4 := hide2 (below_trans HX3.out hb4); clear hb4)
    | (go_at_call 9; with_reducible refine Calls.mono (HF1.out _) ?_; rintro e w5 ⟨rfl, hb5⟩; have HX5 := hide2 (below_trans HX4.out hb5); clear hb5)
    | (go_at_call 9; with_reducible refine Calls.mono (HF2.out _) ?_; rintro e w6 ⟨rfl, hb6⟩; have HX6 := hide2 (below_trans HX5.out hb6); clear hb6))
  all_goals (try go_wp2)
  all_goals go_ret
  all_goals refine ⟨?_, HBV.out _ HX6.out⟩
  all_goals
    have hxy : (decide (x = y) == (x == y)) = true := by by_cases h : x = y <;> simp [h]
    rw [hxy]
    rfl
end Go.Proofs.YtghemaghbpekfaaGreatDoor
