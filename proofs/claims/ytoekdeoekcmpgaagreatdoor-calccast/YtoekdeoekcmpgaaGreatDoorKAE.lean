/- The walk of CalcCast. -/
import Derived.Test.YtoekdeoekcmpgaaGreatDoorKAD
namespace Go.Proofs.YtoekdeoekcmpgaaGreatDoor
open Go.ChangeShapes Go.WideShapes Go.ChangeAt Go.RowKit
set_option linter.unusedVariables false

theorem affK_cases (l : List UInt8) : affK l = 0 ∨ affK l = 1 ∨ affK l = 2 := by
  unfold affK
  split
  · exact .inr (.inl rfl)
  · split
    · exact .inr (.inr rfl)
    · exact .inl rfl

theorem cast_both (k n : Int) (t a : ByteArray) (h0 : -9223372036854775808 ≤ n) (h1 : n ≤ 9223372036854775807) (f : Int) (ok : Bool) (hf : f = affK (a.data.toList.map lowB))
    (HA : Hid (∀ w, Calls Tryz.prog 27 #[.string a] w fun e w' => e = .returned (.tuple #[.int .i64 f, .bool ok]) ∧ Below w.heap.size w w'))
    (HR : Hid (∀ w, Calls Tryz.prog 28 #[.string a] w fun e w' => e = .returned (.tuple #[.int .i64 f, .bool ok]) ∧ Below w.heap.size w w')) :
    ∃ (c1 c2 : Int) (c3 : ByteArray) (er : Int), (∀ w, Env w → Calls Tryz.prog 29 #[val k n t, .string a] w fun e w' => e = .returned (.tuple #[val c1 c2 c3, .int .i64 er]) ∧ Below w.heap.size w w') ∧
      (∀ w, Env w → Calls Tryz.prog 30 #[val k n t, .string a] w fun e w' => e = .returned (.tuple #[val c1 c2 c3, .int .i64 er]) ∧ Below w.heap.size w w') := by
  cases ok with
  | false => exact ⟨0, 0, ⟨#[]⟩, 131, fun w hE => cast_none k n t a h0 h1 f HA w hE, fun w hE => rcast_none k n t a h0 h1 f HR w hE⟩
  | true =>
    cases hm : mayB k n t with
    | false => exact ⟨0, 0, ⟨#[]⟩, 2, fun w hE => cast_bad k n t a h0 h1 f hm HA w hE, fun w hE => rcast_bad k n t a h0 h1 f hm HR w hE⟩
    | true =>
      by_cases hk : k = 0
      · have hml := of_decide_eq_true hm
        have hn0 : n = 0 := by unfold MayL at hml; omega
        have ht0 : t = ⟨#[]⟩ := by
          have : t.data.toList = [] := by unfold MayL at hml; rcases hml with h | h | h; exact h.2.2; omega; omega
          rw [← ba_eq t, this]
        refine ⟨k, n, t, 0, fun w hE => ?_, fun w hE => rcast_null k n t a h0 h1 f hm hk HR w hE⟩
        subst hk hn0 ht0
        rcases affK_cases (a.data.toList.map lowB) with e | e | e
        · rw [e] at hf; subst hf
          by_cases hn : a.data.toList = []
          · exact cast_stay 0 0 ⟨#[]⟩ a h0 h1 hm hn HA w hE
          · exact cast_null 0 0 ⟨#[]⟩ a h0 h1 hm hn rfl HA w hE
        · rw [e] at hf; subst hf
          exact cast_int 0 0 ⟨#[]⟩ a h0 h1 hm HA w hE
        · rw [e] at hf; subst hf
          exact cast_text 0 0 ⟨#[]⟩ a h0 h1 hm HA w hE
      · by_cases hn : a.data.toList = []
        · have e : affK (a.data.toList.map lowB) = 0 := by rw [hn]; decide
          rw [e] at hf; subst hf
          exact ⟨k, n, t, 0, fun w hE => cast_stay k n t a h0 h1 hm hn HA w hE, fun w hE => rcast_stay k n t a h0 h1 0 hm hk hn HR w hE⟩
        · rcases affK_cases (a.data.toList.map lowB) with e | e | e
          · rw [e] at hf; subst hf
            exact ⟨3, 0, showT k n t, 0, fun w hE => cast_blob k n t a h0 h1 hm hn hk HA w hE, fun w hE => rcast_blob k n t a h0 h1 hm hn hk HR w hE⟩
          · rw [e] at hf; subst hf
            obtain ⟨c1, c2, c3, hc⟩ := optV_val (numO k n t.data.toList)
            exact ⟨c1, c2, c3, 0, fun w hE => by rw [← hc]; exact cast_int k n t a h0 h1 hm HA w hE, fun w hE => by rw [← hc]; exact rcast_int k n t a h0 h1 hm hk hn HR w hE⟩
          · rw [e] at hf; subst hf
            have hs := (show_some h0 h1 hm hk).1
            exact ⟨2, 0, showT k n t, 0, fun w hE => by rw [← hs]; exact cast_text k n t a h0 h1 hm HA w hE, fun w hE => by rw [← hs]; exact rcast_text k n t a h0 h1 hm hk hn HR w hE⟩

set_option maxHeartbeats 1000000 in
set_option maxRecDepth 10000 in
theorem ccast_walk (k n : Int) (t a : ByteArray) (h0 : -9223372036854775808 ≤ n) (h1 : n ≤ 9223372036854775807) (ha : a.size ≤ 140737488351232) (w : World) (hE : Env w) :
    Calls Tryz.prog 8 #[val k n t, .string a] w fun e w' => e = .returned (.bool true) ∧ Below w.heap.size w w' := by
  obtain ⟨f, ok, hf, -, hA, hR⟩ := aff_both a ha
  obtain ⟨c1, c2, c3, er, hC, hQ⟩ := cast_both k n t a h0 h1 f ok hf hA hR
  have HA : Hid (∀ w, Calls Tryz.prog 27 #[.string a] w fun e w' => e = .returned (.tuple #[.int .i64 f, .bool ok]) ∧ Below w.heap.size w w') := hA
  have HR : Hid (∀ w, Calls Tryz.prog 28 #[.string a] w fun e w' => e = .returned (.tuple #[.int .i64 f, .bool ok]) ∧ Below w.heap.size w w') := hR
  have HC : Hid (∀ w, Env w → Calls Tryz.prog 29 #[.agg #[.int .i64 k, .int .i64 n, .string t], .string a] w fun e w' => e = .returned (.tuple #[.agg #[.int .i64 c1, .int .i64 c2, .string c3], .int .i64 er]) ∧ Below w.heap.size w w') := hC
  have HQ : Hid (∀ w, Env w → Calls Tryz.prog 30 #[.agg #[.int .i64 k, .int .i64 n, .string t], .string a] w fun e w' => e = .returned (.tuple #[.agg #[.int .i64 c1, .int .i64 c2, .string c3], .int .i64 er]) ∧ Below w.heap.size w w') := hQ
  have HW : Hid (∀ V, Below (w.alloc (.cells #[.int .i64 k, .int .i64 n, .string t] 24)).heap.size (w.alloc (.cells #[.int .i64 k, .int .i64 n, .string t] 24)) V → _) := three_cells w (.int .i64 k) (.int .i64 n) (.string t)
  have HE : Hid (∀ V, Below (w.alloc (.cells #[.int .i64 k, .int .i64 n, .string t] 24)).heap.size (w.alloc (.cells #[.int .i64 k, .int .i64 n, .string t] 24)) V → Env V) := fun V h => (hE.below (new_below w _ rfl)).below h
  have HB : Hid (∀ V, Below (w.alloc (.cells #[.int .i64 k, .int .i64 n, .string t] 24)).heap.size (w.alloc (.cells #[.int .i64 k, .int .i64 n, .string t] 24)) V → Below w.heap.size w V) := fun V h => below_trans (new_below w _ rfl) h
  clear hE hA hR hC hQ hf
  go_enter Tryz.func8, Tryz.ntmps8
  go_wp2_with (first
    | (go_at_call 27; with_reducible refine Calls.mono (HA.out _) ?_; rintro e w1 ⟨rfl, hb1⟩; have HX1 := hide hb1; obtain ⟨p0, p1, p2⟩ := HW.out _ HX1.out; clear hb1)
    | (go_at_call 28; with_reducible refine Calls.mono (HR.out _) ?_; rintro e w2 ⟨rfl, hb2⟩; have HX2 := hide (below_trans HX1.out hb2); obtain ⟨p0, p1, p2⟩ := HW.out _ HX2.out; clear hb2)
    | (go_at_call 29; with_reducible refine Calls.mono (HC.out _ (HE.out _ HX2.out)) ?_; rintro e w3 ⟨rfl, hb3⟩; have HX3 := hide (below_trans HX2.out hb3); obtain ⟨p0, p1, p2⟩ := three_cells w (.int .i64 k) (.int .i64 n) (.string t) _ (below_trans HX3.out (new_below w3 (.cells #[.int .i64 c1, .int .i64 c2, .string c3] 24) rfl)); clear hb3)
    | (go_at_call 30; with_reducible refine Calls.mono (HQ.out _ ((HE.out _ HX3.out).below (new_below w3 _ rfl))) ?_; rintro e w4 ⟨rfl, hb4⟩; have HY4 := hide hb4; have HX4 := hide (below_trans HX3.out (below_trans (new_below w3 _ rfl) hb4)); obtain ⟨a0, aa, ab, b0, b1, b2⟩ := later_block w3 (.int .i64 c1) (.int .i64 c2) (.string c3) 24 _ hb4; clear hb4)
    | (go_at_call 11; with_reducible refine Calls.mono (head3_walk _ ((HE.out _ HX4.out).below (new_below w4 _ rfl))) ?_; rintro e w5 ⟨rfl, hb5⟩; obtain ⟨g0, g1, g2, u0, u1, u2⟩ := later_block w4 (.int .i64 c1) (.int .i64 c2) (.string c3) 24 _ hb5; obtain ⟨a0, aa, ab, b0, b1, b2⟩ := later_block w3 (.int .i64 c1) (.int .i64 c2) (.string c3) 24 _ (below_trans HY4.out (below_trans (new_below w4 _ rfl) hb5)); have HX5 := hide (below_trans HX4.out (below_trans (new_below w4 _ rfl) hb5)); clear hb5))
  go_ret
  exact ⟨by simp, HB.out _ HX5.out⟩
end Go.Proofs.YtoekdeoekcmpgaaGreatDoor
