/- Encode of a row of five values. -/
import Derived.Test.YtfjmoiooonialaaSQ
namespace Go.Proofs.Ytfjmoiooonialaa
open Go.ChangeShapes Go.WideShapes Go.ChangeAt Go.RowKit
set_option linter.unusedVariables false

set_option maxHeartbeats 1000000 in
theorem may_null (w : World) : Calls Try.prog 35 #[.agg #[.int .i64 0, .int .i64 0, .string ⟨#[]⟩]] w fun e w' => e = .returned (.bool true) ∧ Below w.heap.size w w' := by
  go_enter Try.func35, Try.ntmps35
  go_wp2
  go_ret
  exact ⟨rfl, by go_grown⟩
set_option maxHeartbeats 1000000 in
set_option maxRecDepth 10000 in
theorem may_int (n : Int) (w : World) : Calls Try.prog 35 #[.agg #[.int .i64 1, .int .i64 n, .string ⟨#[]⟩]] w fun e w' => e = .returned (.bool true) ∧ Below w.heap.size w w' := by
  go_enter Try.func35, Try.ntmps35
  go_upto_region 5 with fail
  go_name_world W hW
  have hk : W.heap[w.heap.size]? = some (.cells #[.int .i64 1, .int .i64 n, .string ⟨#[]⟩] 46) := by rw [← hW]; exact blk_new w _
  have hb0 := new_below w _ hW
  obtain ⟨hc0, hc1, hc2, -⟩ := res_facts hk
  have HK : Hid (∀ V, Below W.heap.size W V → V.cell? ⟨w.heap.size, 0, none⟩ = some (.int .i64 1) ∧ V.cell? ⟨w.heap.size, 1, none⟩ = some (.int .i64 n) ∧ V.cell? ⟨w.heap.size, 2, none⟩ = some (.string ⟨#[]⟩)) := fun V hV => ⟨cell_later hV hc0, cell_later hV hc1, cell_later hV hc2⟩
  have hd : Below W.heap.size W W.drew := (Below.refl _ _).drew
  clear hW hk
  have HD : Hid (∀ w1, Below W.drew.heap.size W.drew w1 → Below w.heap.size w w1) := fun w1 h => below_trans (below_trans hb0 hd) h
  go_region_held3 (fun V => V.cell? ⟨w.heap.size, 0, none⟩ = some (.int .i64 1) ∧ V.cell? ⟨w.heap.size, 1, none⟩ = some (.int .i64 n) ∧ V.cell? ⟨w.heap.size, 2, none⟩ = some (.string ⟨#[]⟩)) (first | exact HK.out _ hd | exact HK.out _ (below_trans hd hb1))
    (first | (go_at_call 39; with_reducible refine Calls.mono (vint_walk _ _) ?_; rintro e w1 ⟨rfl, hb1⟩))
  all_goals go_wp2
  all_goals go_ret
  all_goals exact ⟨by simp, HD.out _ hb1⟩
theorem may_one (w : World) : Calls Try.prog 35 #[.agg #[.int .i64 1, .int .i64 1, .string ⟨#[]⟩]] w fun e w' => e = .returned (.bool true) ∧ Below w.heap.size w w' := may_int 1 w
theorem may_a (w : World) : Calls Try.prog 35 #[.agg #[.int .i64 1, .int .i64 (-2), .string ⟨#[]⟩]] w fun e w' => e = .returned (.bool true) ∧ Below w.heap.size w w' := may_int (-2) w
theorem may_b (w : World) : Calls Try.prog 35 #[.agg #[.int .i64 1, .int .i64 300, .string ⟨#[]⟩]] w fun e w' => e = .returned (.bool true) ∧ Below w.heap.size w w' := may_int 300 w
set_option maxHeartbeats 1000000 in
theorem may_ab (w : World) : Calls Try.prog 35 #[.agg #[.int .i64 2, .int .i64 0, .string ⟨#[97, 98]⟩]] w fun e w' => e = .returned (.bool true) ∧ Below w.heap.size w w' := by
  go_enter Try.func35, Try.ntmps35
  go_wp2
  go_ret
  exact ⟨rfl, by go_grown⟩

/-- The row of five values lies in block g. -/
abbrev Five (w : World) (g : Nat) : Prop := w.cell? ⟨g, 0, none⟩ = some (.int .i64 0) ∧ w.cell? ⟨g, 1, none⟩ = some (.int .i64 0) ∧ w.cell? ⟨g, 2, none⟩ = some (.string ⟨#[]⟩) ∧ w.cell? ⟨g, 3, none⟩ = some (.int .i64 1) ∧ w.cell? ⟨g, 4, none⟩ = some (.int .i64 1) ∧ w.cell? ⟨g, 5, none⟩ = some (.string ⟨#[]⟩) ∧ w.cell? ⟨g, 6, none⟩ = some (.int .i64 1) ∧ w.cell? ⟨g, 7, none⟩ = some (.int .i64 (-2)) ∧ w.cell? ⟨g, 8, none⟩ = some (.string ⟨#[]⟩) ∧ w.cell? ⟨g, 9, none⟩ = some (.int .i64 1) ∧ w.cell? ⟨g, 10, none⟩ = some (.int .i64 300) ∧ w.cell? ⟨g, 11, none⟩ = some (.string ⟨#[]⟩) ∧ w.cell? ⟨g, 12, none⟩ = some (.int .i64 2) ∧ w.cell? ⟨g, 13, none⟩ = some (.int .i64 0) ∧ w.cell? ⟨g, 14, none⟩ = some (.string ⟨#[97, 98]⟩)
theorem Five.later {w w' : World} {g : Nat} (h : Five w g) (hb : Below w.heap.size w w') : Five w' g := by
  exact ⟨cell_later hb h.1, cell_later hb h.2.1, cell_later hb h.2.2.1, cell_later hb h.2.2.2.1, cell_later hb h.2.2.2.2.1, cell_later hb h.2.2.2.2.2.1, cell_later hb h.2.2.2.2.2.2.1, cell_later hb h.2.2.2.2.2.2.2.1, cell_later hb h.2.2.2.2.2.2.2.2.1, cell_later hb h.2.2.2.2.2.2.2.2.2.1, cell_later hb h.2.2.2.2.2.2.2.2.2.2.1, cell_later hb h.2.2.2.2.2.2.2.2.2.2.2.1, cell_later hb h.2.2.2.2.2.2.2.2.2.2.2.2.1, cell_later hb h.2.2.2.2.2.2.2.2.2.2.2.2.2.1, cell_later hb h.2.2.2.2.2.2.2.2.2.2.2.2.2.2⟩

set_option maxHeartbeats 4000000 in
set_option maxRecDepth 10000 in
theorem check_five (g : Nat) (w : World) (h : Five w g) : Calls Try.prog 22 #[.slice (some ⟨g, 0, none⟩) 5 5] w fun e w' => e = .returned (.int .i64 0) ∧ Below w.heap.size w w' := by
  have HF := hide h
  obtain ⟨c0, c1, c2, c3, c4, c5, c6, c7, c8, c9, c10, c11, c12, c13, c14⟩ := h
  go_enter Try.func22, Try.ntmps22
  go_wp2
  refine wp_loop_rounds 6 ?_
  rw [rounds_succ]
  go_wp2_with (first
    | (go_at_call 35; with_reducible refine Calls.mono (may_null _) ?_; rintro e w1 ⟨rfl, hb1⟩; have HX1 := hide (below_trans (new_below w (.cells #[.int .i64 0, .int .i64 0, .string ⟨#[]⟩] 46) rfl) hb1); obtain ⟨c0, c1, c2, c3, c4, c5, c6, c7, c8, c9, c10, c11, c12, c13, c14⟩ := HF.out.later HX1.out; clear hb1))
  rw [rounds_succ]
  go_wp2_with (first
    | (go_at_call 35; with_reducible refine Calls.mono (may_one _) ?_; rintro e w2 ⟨rfl, hb2⟩; have HX2 := hide (below_trans HX1.out (below_trans (new_below w1 (.cells #[.int .i64 1, .int .i64 1, .string ⟨#[]⟩] 46) rfl) hb2)); obtain ⟨c0, c1, c2, c3, c4, c5, c6, c7, c8, c9, c10, c11, c12, c13, c14⟩ := HF.out.later HX2.out; clear hb2))
  rw [rounds_succ]
  go_wp2_with (first
    | (go_at_call 35; with_reducible refine Calls.mono (may_a _) ?_; rintro e w3 ⟨rfl, hb3⟩; have HX3 := hide (below_trans HX2.out (below_trans (new_below w2 (.cells #[.int .i64 1, .int .i64 (-2), .string ⟨#[]⟩] 46) rfl) hb3)); obtain ⟨c0, c1, c2, c3, c4, c5, c6, c7, c8, c9, c10, c11, c12, c13, c14⟩ := HF.out.later HX3.out; clear hb3))
  rw [rounds_succ]
  go_wp2_with (first
    | (go_at_call 35; with_reducible refine Calls.mono (may_b _) ?_; rintro e w4 ⟨rfl, hb4⟩; have HX4 := hide (below_trans HX3.out (below_trans (new_below w3 (.cells #[.int .i64 1, .int .i64 300, .string ⟨#[]⟩] 46) rfl) hb4)); obtain ⟨c0, c1, c2, c3, c4, c5, c6, c7, c8, c9, c10, c11, c12, c13, c14⟩ := HF.out.later HX4.out; clear hb4))
  rw [rounds_succ]
  go_wp2_with (first
    | (go_at_call 35; with_reducible refine Calls.mono (may_ab _) ?_; rintro e w5 ⟨rfl, hb5⟩; have HX5 := hide (below_trans HX4.out (below_trans (new_below w4 (.cells #[.int .i64 2, .int .i64 0, .string ⟨#[97, 98]⟩] 46) rfl) hb5)); obtain ⟨c0, c1, c2, c3, c4, c5, c6, c7, c8, c9, c10, c11, c12, c13, c14⟩ := HF.out.later HX5.out; clear hb5))
  rw [rounds_succ]
  go_wp2_with fail
  go_ret
  exact ⟨rfl, HX5.out⟩
end Go.Proofs.Ytfjmoiooonialaa
