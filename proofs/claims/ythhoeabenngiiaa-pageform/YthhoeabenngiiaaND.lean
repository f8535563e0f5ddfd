/- A cell taken out. -/
import Derived.Test.YthhoeabenngiiaaNC
namespace Go.Proofs.Ythhoeabenngiiaa
open Go.ChangeShapes Go.WideShapes Go.ChangeAt Go.RowKit
set_option linter.unusedVariables false

theorem two_pages (w : World) (l : List UInt8) : PAt ((w.alloc (.cells (bc l) 23)).alloc (.cells (bc zs) 23)) w.heap.size l ∧ PAt ((w.alloc (.cells (bc l) 23)).alloc (.cells (bc zs) 23)) (w.heap.size + 1) zs ∧ Below w.heap.size w ((w.alloc (.cells (bc l) 23)).alloc (.cells (bc zs) 23)) := by
  refine ⟨(PAt.new w l).later (new_below _ _ rfl), ?_, below_trans (new_below w _ rfl) (new_below _ _ rfl)⟩
  have := PAt.new (w.alloc (.cells (bc l) 23)) zs
  simpa using this

set_option maxHeartbeats 2000000 in
set_option maxRecDepth 10000 in
theorem delete_bad (l : List UInt8) (hl : l.length = 256) (i E : Int) (hE : plE l i ((cntV l : Int) - 1) = E) (h0 : E ≠ 0) (w : World) :
    Calls Try.prog 21 #[.agg (bc l), .int .i64 i] w fun e w' => e = .returned (.tuple #[.agg (bc zs), .int .i64 E]) ∧ Below w.heap.size w w' := by
  obtain ⟨hP, hZ, hB⟩ := two_pages w l
  have HC : Hid (∀ V, Calls Try.prog 12 #[.agg (bc l)] V fun e w' => e = .returned (.int .i64 (cntV l : Int)) ∧ Below V.heap.size V w') := fun V => count_walk l hl V
  have HK : Hid (∀ V, Calls Try.prog 32 #[.agg (bc l), .int .i64 i, .int .i64 ((cntV l : Int) - 1)] V fun e w' => e = .returned (.int .i64 E) ∧ Below V.heap.size V w') := fun V => by rw [← hE]; exact place_walk l hl i _ V
  have hc : cntV l < 256 := by unfold cntV; split; exact byt_lt l 1; omega
  have e1 : IntKind.i64.wrap ((cntV l : Int) - 1) = (cntV l : Int) - 1 := by rw [IntKind.wrap_i64]; omega
  have HL := hide hl
  have HP := hide hP
  have HZ := hide hZ
  have HB := hide hB
  have gE : (E == 0) = false := by simp [h0]
  have gE2 : (E != 0) = true := by simp [h0]
  have hz := zero_page.1
  have hbu := built_page
  clear hl hE hc hP hZ hB
  go_enter Try.func21, Try.ntmps21
  go_wp2_with (first
    | (refine wp_loadP HL.out HP.out _ (by rfl) (by rfl) (by rfl) ?_)
    | (go_at_call 12; with_reducible refine Calls.mono (HC.out _) ?_; rintro e w3 ⟨rfl, hb3⟩; have HP := hide (HP.out.later hb3); have HZ := hide (HZ.out.later hb3); have HB := hide (below_trans HB.out hb3); clear hb3)
    | (go_at_call 32; with_reducible refine Calls.mono (HK.out _) ?_; rintro e w4 ⟨rfl, hb4⟩; have HZ := hide (HZ.out.later hb4); have HB := hide (below_trans HB.out hb4); clear hb4)
    | (refine wp_storeP zs_length zs_length HZ.out _ _ (by rfl) (by rfl) (by rfl) (by rfl) ?_; intro W3 hp hb hk; have HP3 := hide hp; have HB3 := hide (hb _ _ HB.out (by omega)); clear hp hb hk)
    | (exact ret_page2 Try.results21 rfl rfl zs_length HP3.out ⟨rfl, HB3.out⟩))

set_option maxHeartbeats 4000000 in
set_option maxRecDepth 10000 in
theorem delete_ok (l : List UInt8) (hl : l.length = 256) (ho : okB l) (i : Nat) (hic : i < byt l 1) (w : World) :
    Calls Try.prog 21 #[.agg (bc l), .int .i64 (i : Int)] w fun e w' => (∃ l', l'.length = 256 ∧ ∃ x, ToldIs (byt l 0) (lnk l) (byt l 1 - 1) (outS (cellS l) i) l' x ∧ e = .returned (.tuple #[.agg (bc l'), .int .i64 x])) ∧ Below w.heap.size w w' := by
  obtain ⟨s1, s2, s3, s4⟩ := ok_small hl ho
  obtain ⟨hP, hZ, hB⟩ := two_pages w l
  have hcv : cntV l = byt l 1 := if_pos ho
  have hkv : kindV l = byt l 0 := if_pos ho
  have hu := page_arr
  have hi : (Try.prog.info? 23).map (·.size) = some (bcl l).length := page_size hl
  have hst : stN l (i + 1) ≤ 256 := Nat.le_trans (stN_mono l (by omega)) s2
  have hst0 : stN l i ≤ 256 := Nat.le_trans (stN_mono l (by omega)) s2
  have HC : Hid (∀ V, Calls Try.prog 12 #[.agg (bc l)] V fun e w' => e = .returned (.int .i64 (byt l 1 : Int)) ∧ Below V.heap.size V w') := fun V => by rw [← hcv]; exact count_walk l hl V
  have HK : Hid (∀ V, Calls Try.prog 32 #[.agg (bc l), .int .i64 (i : Int), .int .i64 ((byt l 1 : Int) - 1)] V fun e w' => e = .returned (.int .i64 0) ∧ Below V.heap.size V w') := fun V => by
    have := place_walk l hl (i : Int) ((byt l 1 : Int) - 1) V
    rw [show plE l (i : Int) ((byt l 1 : Int) - 1) = 0 by unfold plE; rw [if_pos ho, if_neg (by omega)]] at this
    exact this
  have HKd : Hid (∀ V, Calls Try.prog 11 #[.agg (bcl l).toArray] V fun e w' => e = .returned (.int .u8 (byt l 0 : Int)) ∧ Below V.heap.size V w') := fun V => by rw [← hkv]; exact kind_walk l hl V
  have HLk : Hid (∀ V, Calls Try.prog 31 #[.agg (bcl l).toArray] V fun e w' => e = .returned (.int .u32 (lnk l : Int)) ∧ Below V.heap.size V w') := fun V => linkOf_walk l hl V
  have HP1 : Hid (∀ V, Calls Try.prog 33 #[.agg (bcl l).toArray, .int .i64 0, .int .i64 (i : Int)] V fun e w' => e = .returned (.agg #[.string (subS l (6 + 0) (i - 0)), .string (subS l (stN l 0) (stN l i - stN l 0))]) ∧ Below V.heap.size V w') := fun V => part_walk l hl 0 i (by omega) (by omega) hst0 V
  have HP2 : Hid (∀ V, Calls Try.prog 33 #[.agg (bcl l).toArray, .int .i64 ((i : Int) + 1), .int .i64 (byt l 1 : Int)] V fun e w' => e = .returned (.agg #[.string (subS l (6 + (i + 1)) (byt l 1 - (i + 1))), .string (subS l (stN l (i + 1)) (stN l (byt l 1) - stN l (i + 1)))]) ∧ Below V.heap.size V w') := fun V => part_walk l hl (i + 1) (byt l 1) (by omega) (by omega) s2 V
  have hA := piece_lens hl (i := 0) (j := i) (by omega) (by omega) hst0
  have hB1 := piece_bytes (l := l) (i := 0) (j := i) (by omega)
  have hA2 := piece_lens hl (i := i + 1) (j := byt l 1) (by omega) (by omega) s2
  have hB2 := piece_bytes (l := l) (i := i + 1) (j := byt l 1) (by omega)
  obtain ⟨a0, ha0⟩ : ∃ s, subS l (6 + 0) (i - 0) = s := ⟨_, rfl⟩
  obtain ⟨b0, hb0⟩ : ∃ s, subS l (stN l 0) (stN l i - stN l 0) = s := ⟨_, rfl⟩
  obtain ⟨a1, ha1⟩ : ∃ s, subS l (6 + (i + 1)) (byt l 1 - (i + 1)) = s := ⟨_, rfl⟩
  obtain ⟨b1, hb1⟩ : ∃ s, subS l (stN l (i + 1)) (stN l (byt l 1) - stN l (i + 1)) = s := ⟨_, rfl⟩
  rw [ha0] at hA HP1
  rw [hb0] at hB1 HP1
  rw [ha1] at hA2 HP2
  rw [hb1] at hB2 HP2
  have ec : byt l 1 - 1 = i + (byt l 1 - (i + 1)) := by omega
  have q1 : cat (two2 a0 a1) 2 = cat (fun t => lenS (outS (cellS l) i t)) (byt l 1 - 1) := by
    rw [cat_two2, hA, hA2, ec, cat_out (cellS l) i _ lenS]
    simp only [Nat.zero_add, Nat.sub_zero]
  have q2 : cat (two2 b0 b1) 2 = cat (outS (cellS l) i) (byt l 1 - 1) := by
    have := cat_out (cellS l) i (byt l 1 - (i + 1)) (fun s => s)
    rw [cat_two2, hB1, hB2, ec, this]
    simp only [Nat.zero_add, Nat.sub_zero]
  have q3 : byt l 1 - 1 + (cat (outS (cellS l) i) (byt l 1 - 1)).length ≤ 1000000000 := by
    rw [← q2, cat_two2, hB1, hB2, List.length_append]
    have := cat_le hl (i - 0) 0
    have := cat_le hl (byt l 1 - (i + 1)) (i + 1)
    omega
  obtain ⟨l', x, hl', htold, hj⟩ := joined_told (byt l 0) (lnk l) s3 s4 2 (two2 a0 a1) (two2 b0 b1) (byt l 1 - 1) (outS (cellS l) i) q1 q2 q3 (by omega)
  have HJ : Hid (∀ V : World, Calls Try.prog 37 #[.int .u8 (byt l 0 : Int), .int .u32 (lnk l : Int), .slice (some ⟨V.heap.size, 0, none⟩) 2 2] (V.alloc (.cells #[.string a0, .string b0, .string a1, .string b1] 64)) fun e' w' => e' = .returned (.tuple #[.agg (bcl l').toArray, .int .i64 x]) ∧ Below (V.alloc (.cells #[.string a0, .string b0, .string a1, .string b1] 64)).heap.size (V.alloc (.cells #[.string a0, .string b0, .string a1, .string b1] 64)) w') := fun V => hj V.heap.size 0 2 _ (runs2 V a0 b0 a1 b1)
  have HTd := hide (And.intro hl' htold)
  have e1 : IntKind.i64.wrap ((byt l 1 : Int) - 1) = (byt l 1 : Int) - 1 := by rw [IntKind.wrap_i64]; omega
  have e2 : IntKind.i64.wrap ((i : Int) + 1) = (i : Int) + 1 := by rw [IntKind.wrap_i64]; omega
  have HL := hide hl
  have HP := hide hP
  have HZ := hide hZ
  have HB := hide hB
  have HL' := hide hl'
  have hz := zero_page.1
  clear hl hP hZ hB hj htold q1 q2 q3 hA hB1 hA2 hB2 ha0 hb0 ha1 hb1 ec hst hst0 hcv hkv s1 s2 s3 s4 ho hic hl'
  go_enter Try.func21, Try.ntmps21
  go_upto_region 5 with (first
    | (refine wp_loadP HL.out HP.out _ (by rfl) (by rfl) (by rfl) ?_)
    | (go_at_call 12; with_reducible refine Calls.mono (HC.out _) ?_; rintro e w3 ⟨rfl, hb3⟩; have HP := hide (HP.out.later hb3); have HZ := hide (HZ.out.later hb3); have HB := hide (below_trans HB.out hb3); clear hb3)
    | (go_at_call 32; with_reducible refine Calls.mono (HK.out _) ?_; rintro e w4 ⟨rfl, hb4⟩; have HP := hide (HP.out.later hb4); have HZ := hide (HZ.out.later hb4); have HB := hide (below_trans HB.out hb4); clear hb4))
  refine wp_region_held_drew (S := fun V => V.rangeAt w.heap.size 0 (bcl l)) (by kernel_rfl) ((HP.out).range) (fun hHeld => ?_)
  refine wpAnyH_take (i := 0) (v := .agg (bcl l).toArray) rfl (by kernel_rfl) (by kernel_rfl) (by kernel_rfl) (fun _ _ _ h => h) (yieldsIf_load_mid (by rfl) _ _ rfl _ _ rfl _ _ (fun V hV => hV) hu rfl hi) hHeld ?_
  try simp only [Act.put, List.getElem_toArray, List.getElem_cons_zero, List.setIfInBounds_toArray, List.set_cons_zero, List.set_cons_succ]
  refine wpAnyH_take (i := 2) (v := .agg (bcl l).toArray) rfl (by kernel_rfl) (by kernel_rfl) (by kernel_rfl) (fun _ _ _ h => h) (yieldsIf_load_mid (by rfl) _ _ rfl _ _ rfl _ _ (fun V hV => hV) hu rfl hi) hHeld ?_
  try simp only [Act.put, List.getElem_toArray, List.getElem_cons_succ, List.getElem_cons_zero, List.setIfInBounds_toArray, List.set_cons_zero, List.set_cons_succ]
  refine wpAnyH_take (i := 4) (v := .agg (bcl l).toArray) rfl (by kernel_rfl) (by kernel_rfl) (by kernel_rfl) (fun _ _ _ h => h) (yieldsIf_load_mid (by rfl) _ _ rfl _ _ rfl _ _ (fun V hV => hV) hu rfl hi) hHeld ?_
  try simp only [Act.put, List.getElem_toArray, List.getElem_cons_succ, List.getElem_cons_zero, List.setIfInBounds_toArray, List.set_cons_zero, List.set_cons_succ]
  refine wpAnyH_take (i := 5) (v := .int .i64 (i : Int)) rfl (by kernel_rfl) (by kernel_rfl) (by kernel_rfl) (fun _ _ _ h => h) (Or.inl ⟨by rfl, fun V hV => by (dsimp only at hV; go_simp)⟩) hHeld ?_
  try simp only [Act.put, List.getElem_toArray, List.getElem_cons_succ, List.getElem_cons_zero, List.setIfInBounds_toArray, List.set_cons_zero, List.set_cons_succ]
  refine wpAnyH_take (i := 7) (v := .agg (bcl l).toArray) rfl (by kernel_rfl) (by kernel_rfl) (by kernel_rfl) (fun _ _ _ h => h) (yieldsIf_load_mid (by rfl) _ _ rfl _ _ rfl _ _ (fun V hV => hV) hu rfl hi) hHeld ?_
  try simp only [Act.put, List.getElem_toArray, List.getElem_cons_succ, List.getElem_cons_zero, List.setIfInBounds_toArray, List.set_cons_zero, List.set_cons_succ]
  refine wpAnyH_take (i := 8) (v := .int .i64 (i : Int)) rfl (by kernel_rfl) (by kernel_rfl) (by kernel_rfl) (fun _ _ _ h => h) (Or.inl ⟨by rfl, fun V hV => by (dsimp only at hV; go_simp)⟩) hHeld ?_
  try simp only [Act.put, List.getElem_toArray, List.getElem_cons_succ, List.getElem_cons_zero, List.setIfInBounds_toArray, List.set_cons_zero, List.set_cons_succ]
  refine wpAnyH_take (i := 9) (v := .int .i64 ((i : Int) + 1)) rfl (by kernel_rfl) (by kernel_rfl) (by kernel_rfl) (fun _ _ _ h => h) (Or.inl ⟨by rfl, fun V hV => by (dsimp only at hV; go_simp)⟩) hHeld ?_
  try simp only [Act.put, List.getElem_toArray, List.getElem_cons_succ, List.getElem_cons_zero, List.setIfInBounds_toArray, List.set_cons_zero, List.set_cons_succ]
  refine wpAnyH_take (i := 10) (v := .int .i64 (byt l 1 : Int)) rfl (by kernel_rfl) (by kernel_rfl) (by kernel_rfl) (fun _ _ _ h => h) (Or.inl ⟨by rfl, fun V hV => by (dsimp only at hV; go_simp)⟩) hHeld ?_
  try simp only [Act.put, List.getElem_toArray, List.getElem_cons_succ, List.getElem_cons_zero, List.setIfInBounds_toArray, List.set_cons_zero, List.set_cons_succ]
  refine wpAnyH_ready (rs := [1]) (by kernel_rfl) (by simp) ?_
  refine AllReadyH.cons rfl (fun K hK => ?_) AllReadyH.nil
  go_simp
  go_at_call 11; with_reducible refine Calls.mono (HKd.out _) ?_; rintro e w5 ⟨rfl, hb5⟩; have HX5 := hide (below_trans (Below.refl _ _).drew hb5); clear hb5
  go_wp2_with fail
  refine hK.out _ _ ((HP.out.later HX5.out).range) (fun hHeld => ?_)
  clear hK K
  try simp only [Act.put, List.getElem_toArray, List.getElem_cons_succ, List.getElem_cons_zero, List.setIfInBounds_toArray, List.set_cons_zero, List.set_cons_succ]
  refine wpAnyH_ready (rs := [3]) (by kernel_rfl) (by simp) ?_
  refine AllReadyH.cons rfl (fun K hK => ?_) AllReadyH.nil
  go_simp
  go_at_call 31; with_reducible refine Calls.mono (HLk.out _) ?_; rintro e w6 ⟨rfl, hb6⟩; have HX6 := hide (below_trans HX5.out hb6); clear hb6
  go_wp2_with fail
  refine hK.out _ _ ((HP.out.later HX6.out).range) (fun hHeld => ?_)
  clear hK K
  try simp only [Act.put, List.getElem_toArray, List.getElem_cons_succ, List.getElem_cons_zero, List.setIfInBounds_toArray, List.set_cons_zero, List.set_cons_succ]
  refine wpAnyH_ready (rs := [6]) (by kernel_rfl) (by simp) ?_
  refine AllReadyH.cons rfl (fun K hK => ?_) AllReadyH.nil
  go_simp
  go_at_call 33; with_reducible refine Calls.mono (HP1.out _) ?_; rintro e w7 ⟨rfl, hb7⟩; have HX7 := hide (below_trans HX6.out hb7); clear hb7
  go_wp2_with fail
  refine hK.out _ _ ((HP.out.later HX7.out).range) (fun hHeld => ?_)
  clear hK K
  try simp only [Act.put, List.getElem_toArray, List.getElem_cons_succ, List.getElem_cons_zero, List.setIfInBounds_toArray, List.set_cons_zero, List.set_cons_succ]
  refine wpAnyH_ready (rs := [11]) (by kernel_rfl) (by simp) ?_
  refine AllReadyH.cons rfl (fun K hK => ?_) AllReadyH.nil
  go_simp
  go_at_call 33; with_reducible refine Calls.mono (HP2.out _) ?_; rintro e w8 ⟨rfl, hb8⟩; have HX8 := hide (below_trans HX7.out hb8); clear hb8
  go_wp2_with fail
  refine hK.out _ _ ((HP.out.later HX8.out).range) (fun hHeld => ?_)
  clear hK K
  try simp only [Act.put, List.getElem_toArray, List.getElem_cons_succ, List.getElem_cons_zero, List.setIfInBounds_toArray, List.set_cons_zero, List.set_cons_succ]
  have HX9 := hide (below_trans HX8.out (new_below w8 (.cells #[.string a0, .string b0, .string a1, .string b1] 64) rfl))
  refine wpAnyH_ready (rs := [12]) (by kernel_rfl) (by simp) ?_
  refine AllReadyH.cons rfl (fun K hK => ?_) AllReadyH.nil
  go_simp
  refine hK.out _ _ ((HP.out.later HX9.out).range) (fun hHeld => ?_)
  clear hK K
  try simp only [Act.put, List.getElem_toArray, List.getElem_cons_succ, List.getElem_cons_zero, List.setIfInBounds_toArray, List.set_cons_zero, List.set_cons_succ]
  refine wpAnyH_ready (rs := [13]) (by kernel_rfl) (by simp) ?_
  refine AllReadyH.cons rfl (fun K hK => ?_) AllReadyH.nil
  go_simp
  go_at_call 37; with_reducible refine Calls.mono (HJ.out _) ?_; rintro e w10 ⟨rfl, hb10⟩; have HX10 := hide (below_trans HX9.out hb10); clear hb10
  go_wp2_with fail
  refine hK.out _ _ ((HP.out.later HX10.out).range) (fun hHeld => ?_)
  clear hK K
  try simp only [Act.put, List.getElem_toArray, List.getElem_cons_succ, List.getElem_cons_zero, List.setIfInBounds_toArray, List.set_cons_zero, List.set_cons_succ]
  refine wpAnyH_take (i := 14) (v := .agg (bcl l').toArray) rfl (by kernel_rfl) (by kernel_rfl) (by kernel_rfl) (fun _ _ _ h => h) (Or.inl ⟨by rfl, fun V hV => by (dsimp only at hV; go_simp)⟩) hHeld ?_
  try simp only [Act.put, List.getElem_toArray, List.getElem_cons_succ, List.getElem_cons_zero, List.setIfInBounds_toArray, List.set_cons_zero, List.set_cons_succ]
  refine wpAnyH_take (i := 15) (v := .int .i64 x) rfl (by kernel_rfl) (by kernel_rfl) (by kernel_rfl) (fun _ _ _ h => h) (Or.inl ⟨by rfl, fun V hV => by (dsimp only at hV; go_simp)⟩) hHeld ?_
  try simp only [Act.put, List.getElem_toArray, List.getElem_cons_succ, List.getElem_cons_zero, List.setIfInBounds_toArray, List.set_cons_zero, List.set_cons_succ]
  refine wpAnyH_ready (rs := [16]) (by kernel_rfl) (by simp) ?_
  refine AllReadyH.cons rfl (fun K hK => ?_) AllReadyH.nil
  refine step_storeP HL'.out zs_length (HZ.out.later HX10.out) _ _ (by rfl) (by rfl) (by rfl) (by rfl) ?_
  intro W3 hp hb hk
  have HW3 := hide hp
  have HB3 := hide (hb _ _ (below_trans HB.out HX10.out) (by omega))
  have HPW := hide ((hk w.heap.size (by omega)).trans (HP.out.later HX10.out))
  clear hp hb hk
  refine hK.out _ _ (PAt.range HPW.out) (fun hHeld => ?_)
  clear hK K
  try simp only [Act.put, List.getElem_toArray, List.getElem_cons_succ, List.getElem_cons_zero]
  refine wpAnyH_take (i := 17) (v := .int .i64 x) rfl (by kernel_rfl) (by kernel_rfl) (by kernel_rfl) (fun _ _ _ h => h) (Or.inl ⟨by rfl, fun V hV => by (dsimp only at hV; go_simp)⟩) hHeld ?_
  try simp only [Act.put, List.getElem_toArray, List.getElem_cons_succ, List.getElem_cons_zero, List.setIfInBounds_toArray, List.set_cons_zero, List.set_cons_succ]
  refine wpAnyH_done (by kernel_rfl) ?_ _
  go_wp2_with fail
  refine ret_page2 (u := .int .i64 x) Try.results21 rfl rfl HL'.out HW3.out ?_
  exact ⟨⟨l', HTd.out.1, x, HTd.out.2, rfl⟩, HB3.out⟩
end Go.Proofs.Ythhoeabenngiiaa
