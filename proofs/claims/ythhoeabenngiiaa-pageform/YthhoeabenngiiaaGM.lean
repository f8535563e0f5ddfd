/- One cell of a page. -/
import Derived.Test.YthhoeabenngiiaaGL
namespace Go.Proofs.Ythhoeabenngiiaa
open Go.ChangeShapes Go.WideShapes Go.ChangeAt Go.RowKit
set_option linter.unusedVariables false

set_option maxHeartbeats 2000000 in
theorem cell_bad (l : List UInt8) (hl : l.length = 256) (i E : Int) (hE : plE l i ((cntV l : Int) - 1) = E) (h0 : E ≠ 0) (w : World) :
    Calls Try.prog 15 #[.agg (bc l), .int .i64 i] w fun e w' => e = .returned (.tuple #[.string ⟨#[]⟩, .int .i64 E]) ∧ Below w.heap.size w w' := by
  have HP : Hid (PAt (w.alloc (.cells (bc l) 23)) w.heap.size l) := PAt.new w l
  have HB := hide (new_below w (.cells (bc l) 23) rfl)
  have hu := page_arr
  have hi : (Try.prog.info? 23).map (·.size) = some (bcl l).length := page_size hl
  have HC : Hid (∀ V, Calls Try.prog 12 #[.agg (bcl l).toArray] V fun e w' => e = .returned (.int .i64 (cntV l : Int)) ∧ Below V.heap.size V w') := fun V => count_walk l hl V
  have HK : Hid (∀ V, Calls Try.prog 32 #[.agg (bcl l).toArray, .int .i64 i, .int .i64 ((cntV l : Int) - 1)] V fun e w' => e = .returned (.int .i64 E) ∧ Below V.heap.size V w') := fun V => by rw [← hE]; exact place_walk l hl i _ V
  have hc : cntV l < 256 := by unfold cntV; split; exact byt_lt l 1; omega
  have e1 : IntKind.i64.wrap ((cntV l : Int) - 1) = (cntV l : Int) - 1 := by rw [IntKind.wrap_i64]; omega
  have HL := hide hl
  clear hl hE hc
  go_enter Try.func15, Try.ntmps15
  go_wp2
  refine wp_region_held_drew (S := fun V => V.rangeAt w.heap.size 0 (bcl l)) (by kernel_rfl) ((HP.out).range) (fun hHeld => ?_)
  refine wpAnyH_take (i := 0) (v := .agg (bcl l).toArray) rfl (by kernel_rfl) (by kernel_rfl) (by kernel_rfl) (fun _ _ _ h => h) (yieldsIf_load_mid (by rfl) _ _ rfl _ _ rfl _ _ (fun V hV => hV) hu rfl hi) hHeld ?_
  try simp only [Act.put, List.setIfInBounds_toArray]
  refine wpAnyH_take (i := 1) (v := .int .i64 i) rfl (by kernel_rfl) (by kernel_rfl) (by kernel_rfl) (fun _ _ _ h => h) (Or.inl ⟨by rfl, fun V hV => by (dsimp only at hV; go_simp)⟩) hHeld ?_
  try simp only [Act.put]
  refine wpAnyH_take (i := 2) (v := .agg (bcl l).toArray) rfl (by kernel_rfl) (by kernel_rfl) (by kernel_rfl) (fun _ _ _ h => h) (yieldsIf_load_mid (by rfl) _ _ rfl _ _ rfl _ _ (fun V hV => hV) hu rfl hi) hHeld ?_
  try simp only [Act.put]
  refine wpAnyH_ready (rs := [3]) (by kernel_rfl) (by simp) ?_
  refine AllReadyH.cons rfl (fun K hK => ?_) AllReadyH.nil
  go_simp
  go_at_call 12; with_reducible refine Calls.mono (HC.out _) ?_; rintro e w3 ⟨rfl, hb3⟩; have HX3 := hide (below_trans (Below.refl _ _).drew hb3); clear hb3
  go_wp2_with fail
  refine hK.out _ _ ((HP.out.later HX3.out).range) (fun hHeld => ?_)
  clear hK K
  try simp only [Act.put, List.setIfInBounds_toArray, List.set_cons_zero, List.set_cons_succ]
  refine wpAnyH_take (i := 4) (v := .int .i64 ((cntV l : Int) - 1)) rfl (by kernel_rfl) (by kernel_rfl) (by kernel_rfl) (fun _ _ _ h => h) (Or.inl ⟨by rfl, fun V hV => by (dsimp only at hV; go_simp)⟩) hHeld ?_
  try simp only [Act.put, List.setIfInBounds_toArray]
  refine wpAnyH_ready (rs := [5]) (by kernel_rfl) (by simp) ?_
  refine AllReadyH.cons rfl (fun K hK => ?_) AllReadyH.nil
  go_simp
  go_at_call 32; with_reducible refine Calls.mono (HK.out _) ?_; rintro e w4 ⟨rfl, hb4⟩; have HX4 := hide (below_trans HX3.out hb4); clear hb4
  go_wp2_with fail
  refine hK.out _ _ ((HP.out.later HX4.out).range) (fun hHeld => ?_)
  clear hK K
  try simp only [Act.put, List.setIfInBounds_toArray, List.set_cons_zero, List.set_cons_succ]
  refine wpAnyH_take (i := 6) (v := .int .i64 E) rfl (by kernel_rfl) (by kernel_rfl) (by kernel_rfl) (fun _ _ _ h => h) (Or.inl ⟨by rfl, fun V hV => by (dsimp only at hV; go_simp)⟩) hHeld ?_
  try simp only [Act.put, List.setIfInBounds_toArray]
  refine wpAnyH_done (by kernel_rfl) ?_ _
  go_wp2_with fail
  go_ret2
  exact ⟨rfl, below_trans HB.out HX4.out⟩

set_option maxHeartbeats 2000000 in
theorem cell_ok (l : List UInt8) (hl : l.length = 256) (ho : okB l) (i : Nat) (hic : i < byt l 1) (w : World) :
    Calls Try.prog 15 #[.agg (bc l), .int .i64 (i : Int)] w fun e w' => e = .returned (.tuple #[.string (subS l (stN l i) (stN l (i + 1) - stN l i)), .int .i64 0]) ∧ Below w.heap.size w w' := by
  have hcv : cntV l = byt l 1 := if_pos ho
  have hb1 : byt l 1 ≤ 250 := by have := ho.2.1; omega
  have hen : stN l (byt l 1) ≤ 256 := ho.2.2.2.1
  have HP : Hid (PAt (w.alloc (.cells (bc l) 23)) w.heap.size l) := PAt.new w l
  have HB := hide (new_below w (.cells (bc l) 23) rfl)
  have hu := page_arr
  have hi : (Try.prog.info? 23).map (·.size) = some (bcl l).length := page_size hl
  have HC : Hid (∀ V, Calls Try.prog 12 #[.agg (bcl l).toArray] V fun e w' => e = .returned (.int .i64 (cntV l : Int)) ∧ Below V.heap.size V w') := fun V => count_walk l hl V
  have HK : Hid (∀ V, Calls Try.prog 32 #[.agg (bcl l).toArray, .int .i64 (i : Int), .int .i64 ((cntV l : Int) - 1)] V fun e w' => e = .returned (.int .i64 0) ∧ Below V.heap.size V w') := fun V => by
    have := place_walk l hl (i : Int) ((cntV l : Int) - 1) V
    rw [show plE l (i : Int) ((cntV l : Int) - 1) = 0 by unfold plE; rw [if_pos ho, if_neg (by rw [hcv]; omega)]] at this
    exact this
  have HPt : Hid (∀ V, Calls Try.prog 33 #[.agg (bc l), .int .i64 (i : Int), .int .i64 ((i : Int) + 1)] V fun e w' => e = .returned (.agg #[.string (subS l (6 + i) (i + 1 - i)), .string (subS l (stN l i) (stN l (i + 1) - stN l i))]) ∧ Below V.heap.size V w') := fun V => part_walk l hl i (i + 1) (by omega) (by omega) (Nat.le_trans (stN_mono l (by omega)) hen) V
  have hc : cntV l < 256 := by rw [hcv]; omega
  have e1 : IntKind.i64.wrap ((cntV l : Int) - 1) = (cntV l : Int) - 1 := by rw [IntKind.wrap_i64]; omega
  have e2 : IntKind.i64.wrap ((i : Int) + 1) = (i : Int) + 1 := by rw [IntKind.wrap_i64]; omega
  have HL := hide hl
  clear hl hc hcv hb1 hen ho hic
  go_enter Try.func15, Try.ntmps15
  go_wp2
  refine wp_region_held_drew (S := fun V => V.rangeAt w.heap.size 0 (bcl l)) (by kernel_rfl) ((HP.out).range) (fun hHeld => ?_)
  refine wpAnyH_take (i := 0) (v := .agg (bcl l).toArray) rfl (by kernel_rfl) (by kernel_rfl) (by kernel_rfl) (fun _ _ _ h => h) (yieldsIf_load_mid (by rfl) _ _ rfl _ _ rfl _ _ (fun V hV => hV) hu rfl hi) hHeld ?_
  try simp only [Act.put, List.setIfInBounds_toArray]
  refine wpAnyH_take (i := 1) (v := .int .i64 (i : Int)) rfl (by kernel_rfl) (by kernel_rfl) (by kernel_rfl) (fun _ _ _ h => h) (Or.inl ⟨by rfl, fun V hV => by (dsimp only at hV; go_simp)⟩) hHeld ?_
  try simp only [Act.put]
  refine wpAnyH_take (i := 2) (v := .agg (bcl l).toArray) rfl (by kernel_rfl) (by kernel_rfl) (by kernel_rfl) (fun _ _ _ h => h) (yieldsIf_load_mid (by rfl) _ _ rfl _ _ rfl _ _ (fun V hV => hV) hu rfl hi) hHeld ?_
  try simp only [Act.put]
  refine wpAnyH_ready (rs := [3]) (by kernel_rfl) (by simp) ?_
  refine AllReadyH.cons rfl (fun K hK => ?_) AllReadyH.nil
  go_simp
  go_at_call 12; with_reducible refine Calls.mono (HC.out _) ?_; rintro e w3 ⟨rfl, hb3⟩; have HX3 := hide (below_trans (Below.refl _ _).drew hb3); clear hb3
  go_wp2_with fail
  refine hK.out _ _ ((HP.out.later HX3.out).range) (fun hHeld => ?_)
  clear hK K
  try simp only [Act.put, List.setIfInBounds_toArray, List.set_cons_zero, List.set_cons_succ]
  refine wpAnyH_take (i := 4) (v := .int .i64 ((cntV l : Int) - 1)) rfl (by kernel_rfl) (by kernel_rfl) (by kernel_rfl) (fun _ _ _ h => h) (Or.inl ⟨by rfl, fun V hV => by (dsimp only at hV; go_simp)⟩) hHeld ?_
  try simp only [Act.put, List.setIfInBounds_toArray]
  refine wpAnyH_ready (rs := [5]) (by kernel_rfl) (by simp) ?_
  refine AllReadyH.cons rfl (fun K hK => ?_) AllReadyH.nil
  go_simp
  go_at_call 32; with_reducible refine Calls.mono (HK.out _) ?_; rintro e w4 ⟨rfl, hb4⟩; have HX4 := hide (below_trans HX3.out hb4); clear hb4
  go_wp2_with fail
  refine hK.out _ _ ((HP.out.later HX4.out).range) (fun hHeld => ?_)
  clear hK K
  try simp only [Act.put, List.setIfInBounds_toArray, List.set_cons_zero, List.set_cons_succ]
  refine wpAnyH_take (i := 6) (v := .int .i64 0) rfl (by kernel_rfl) (by kernel_rfl) (by kernel_rfl) (fun _ _ _ h => h) (Or.inl ⟨by rfl, fun V hV => by (dsimp only at hV; go_simp)⟩) hHeld ?_
  try simp only [Act.put, List.setIfInBounds_toArray]
  refine wpAnyH_done (by kernel_rfl) ?_ _
  have HP4 := hide (HP.out.later HX4.out)
  have hf : ∀ (V : World) (a b : Value), (Instr.field 64 (.agg #[a, b]) 1).run Try.prog V = .ok b V := fun V a b => by kernel_rfl
  go_wp2_with (first
    | (refine wp_loadP HL.out HP4.out _ (by rfl) (by rfl) (by rfl) ?_)
    | (go_at_call 33; with_reducible refine Calls.mono (HPt.out _) ?_; rintro e w5 ⟨rfl, hb⟩; have HB5 := hide (below_trans HB.out (below_trans HX4.out hb)); clear hb))
  go_ret2
  exact ⟨rfl, HB5.out⟩
end Go.Proofs.Ythhoeabenngiiaa
