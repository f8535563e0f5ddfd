/- Two pages joined. -/
import Derived.Test.YthhoeabenngiiaaNG
namespace Go.Proofs.Ythhoeabenngiiaa
open Go.ChangeShapes Go.WideShapes Go.ChangeAt Go.RowKit
set_option linter.unusedVariables false

theorem three_pages (w : World) (l l2 : List UInt8) : PAt (((w.alloc (.cells (bc l) 23)).alloc (.cells (bc l2) 23)).alloc (.cells (bc zs) 23)) w.heap.size l ∧ PAt (((w.alloc (.cells (bc l) 23)).alloc (.cells (bc l2) 23)).alloc (.cells (bc zs) 23)) (w.heap.size + 1) l2 ∧ PAt (((w.alloc (.cells (bc l) 23)).alloc (.cells (bc l2) 23)).alloc (.cells (bc zs) 23)) (w.heap.size + 1 + 1) zs ∧ Below w.heap.size w (((w.alloc (.cells (bc l) 23)).alloc (.cells (bc l2) 23)).alloc (.cells (bc zs) 23)) := by
  have b3 := new_below ((w.alloc (.cells (bc l) 23)).alloc (.cells (bc l2) 23)) (.cells (bc zs) 23) rfl
  have b2 := new_below (w.alloc (.cells (bc l) 23)) (.cells (bc l2) 23) rfl
  refine ⟨((PAt.new w l).later b2).later b3, ?_, ?_, below_trans (new_below w _ rfl) (below_trans b2 b3)⟩
  · have := (PAt.new (w.alloc (.cells (bc l) 23)) l2).later b3
    simpa using this
  · have := PAt.new ((w.alloc (.cells (bc l) 23)).alloc (.cells (bc l2) 23)) zs
    simpa using this

set_option maxHeartbeats 2000000 in
set_option maxRecDepth 10000 in
theorem join_not (l l2 : List UInt8) (hl : l.length = 256) (hl2 : l2.length = 256) (ho : ¬ okB l) (w : World) :
    Calls Try.prog 27 #[.agg (bc l), .agg (bc l2)] w fun e w' => e = .returned (.tuple #[.agg (bc zs), .int .i64 8]) ∧ Below w.heap.size w w' := by
  obtain ⟨hP, hQ, hZ, hB⟩ := three_pages w l l2
  have HC : Hid (∀ V, Calls Try.prog 10 #[.agg (bc l)] V fun e w' => e = .returned (.int .i64 8) ∧ Below V.heap.size V w') := fun V => by have := check_walk l hl V; rw [okE_no ho] at this; exact this
  have HL := hide hl
  have HP := hide hP
  have HZ := hide hZ
  have HB := hide hB
  have hz := zero_page.1
  have hbu := built_page
  clear hl hl2 ho hP hQ hZ hB
  go_enter Try.func27, Try.ntmps27
  go_wp2_with (first
    | (refine wp_loadP HL.out HP.out _ (by rfl) (by rfl) (by rfl) ?_)
    | (go_at_call 10; with_reducible refine Calls.mono (HC.out _) ?_; rintro e w3 ⟨rfl, hb3⟩; have HZ := hide (HZ.out.later hb3); have HB := hide (below_trans HB.out hb3); clear hb3)
    | (refine wp_storeP zs_length zs_length HZ.out _ _ (by rfl) (by rfl) (by rfl) (by rfl) ?_; intro W3 hp hb hk; have HP3 := hide hp; have HB3 := hide (hb _ _ HB.out (by omega)); clear hp hb hk)
    | (exact ret_page2 Try.results27 rfl rfl zs_length HP3.out ⟨rfl, HB3.out⟩))

set_option maxHeartbeats 2000000 in
set_option maxRecDepth 10000 in
theorem join_not2 (l l2 : List UInt8) (hl : l.length = 256) (hl2 : l2.length = 256) (ho : okB l) (ho2 : ¬ okB l2) (w : World) :
    Calls Try.prog 27 #[.agg (bc l), .agg (bc l2)] w fun e w' => e = .returned (.tuple #[.agg (bc zs), .int .i64 8]) ∧ Below w.heap.size w w' := by
  obtain ⟨hP, hQ, hZ, hB⟩ := three_pages w l l2
  have HC : Hid (∀ V, Calls Try.prog 10 #[.agg (bc l)] V fun e w' => e = .returned (.int .i64 0) ∧ Below V.heap.size V w') := fun V => by have := check_walk l hl V; rw [okE_yes ho] at this; exact this
  have HC2 : Hid (∀ V, Calls Try.prog 10 #[.agg (bc l2)] V fun e w' => e = .returned (.int .i64 8) ∧ Below V.heap.size V w') := fun V => by have := check_walk l2 hl2 V; rw [okE_no ho2] at this; exact this
  have HL := hide hl
  have HL2 := hide hl2
  have HP := hide hP
  have HQ := hide hQ
  have HZ := hide hZ
  have HB := hide hB
  have hz := zero_page.1
  have hbu := built_page
  clear hl hl2 ho ho2 hP hQ hZ hB
  go_enter Try.func27, Try.ntmps27
  go_wp2_with (first
    | (refine wp_loadP HL.out HP.out _ (by rfl) (by rfl) (by rfl) ?_)
    | (refine wp_loadPG HL2.out HQ.out _ (by rfl) (by rfl) (by rfl) ?_)
    | (go_at_call 10; with_reducible refine Calls.mono (HC.out _) ?_; rintro e w3 ⟨rfl, hb3⟩; have HQ := hide (HQ.out.later hb3); have HZ := hide (HZ.out.later hb3); have HB := hide (below_trans HB.out hb3); clear hb3)
    | (go_at_call 10; with_reducible refine Calls.mono (HC2.out _) ?_; rintro e w4 ⟨rfl, hb4⟩; have HZ := hide (HZ.out.later hb4); have HB := hide (below_trans HB.out hb4); clear hb4)
    | (refine wp_storeP zs_length zs_length HZ.out _ _ (by rfl) (by rfl) (by rfl) (by rfl) ?_; intro W3 hp hb hk; have HP3 := hide hp; have HB3 := hide (hb _ _ HB.out (by omega)); clear hp hb hk)
    | (exact ret_page2 Try.results27 rfl rfl zs_length HP3.out ⟨rfl, HB3.out⟩))

set_option maxHeartbeats 4000000 in
set_option maxRecDepth 10000 in
theorem join_kind (l l2 : List UInt8) (hl : l.length = 256) (hl2 : l2.length = 256) (ho : okB l) (ho2 : okB l2) (hk : byt l 0 ≠ byt l2 0) (w : World) :
    Calls Try.prog 27 #[.agg (bc l), .agg (bc l2)] w fun e w' => e = .returned (.tuple #[.agg (bc zs), .int .i64 2]) ∧ Below w.heap.size w w' := by
  obtain ⟨hP, hQ, hZ, hB⟩ := three_pages w l l2
  have HC : Hid (∀ V, Calls Try.prog 10 #[.agg (bc l)] V fun e w' => e = .returned (.int .i64 0) ∧ Below V.heap.size V w') := fun V => by have := check_walk l hl V; rw [okE_yes ho] at this; exact this
  have HC2 : Hid (∀ V, Calls Try.prog 10 #[.agg (bc l2)] V fun e w' => e = .returned (.int .i64 0) ∧ Below V.heap.size V w') := fun V => by have := check_walk l2 hl2 V; rw [okE_yes ho2] at this; exact this
  have hkv : kindV l = byt l 0 := if_pos ho
  have hkv2 : kindV l2 = byt l2 0 := if_pos ho2
  have hu := page_arr
  have hi : (Try.prog.info? 23).map (·.size) = some (bcl l).length := page_size hl
  have hi2 : (Try.prog.info? 23).map (·.size) = some (bcl l2).length := page_size hl2
  have HKd : Hid (∀ V, Calls Try.prog 11 #[.agg (bcl l).toArray] V fun e w' => e = .returned (.int .u8 (byt l 0 : Int)) ∧ Below V.heap.size V w') := fun V => by rw [← hkv]; exact kind_walk l hl V
  have HKd2 : Hid (∀ V, Calls Try.prog 11 #[.agg (bcl l2).toArray] V fun e w' => e = .returned (.int .u8 (byt l2 0 : Int)) ∧ Below V.heap.size V w') := fun V => by rw [← hkv2]; exact kind_walk l2 hl2 V
  have gk : ¬ (byt l 0 : Int) = (byt l2 0 : Int) := by omega
  have gk2 : ¬ byt l 0 = byt l2 0 := hk
  have HL := hide hl
  have HL2 := hide hl2
  have HP := hide hP
  have HQ := hide hQ
  have HZ := hide hZ
  have HB := hide hB
  have hz := zero_page.1
  have hbu := built_page
  clear hl hl2 ho ho2 hkv hkv2 hP hQ hZ hB hk
  go_enter Try.func27, Try.ntmps27
  go_upto_region 3 with (first
    | (refine wp_loadP HL.out HP.out _ (by rfl) (by rfl) (by rfl) ?_)
    | (refine wp_loadPG HL2.out HQ.out _ (by rfl) (by rfl) (by rfl) ?_)
    | (go_at_call 10; with_reducible refine Calls.mono (HC.out _) ?_; rintro e w3 ⟨rfl, hb3⟩; have HP := hide (HP.out.later hb3); have HQ := hide (HQ.out.later hb3); have HZ := hide (HZ.out.later hb3); have HB := hide (below_trans HB.out hb3); clear hb3)
    | (go_at_call 10; with_reducible refine Calls.mono (HC2.out _) ?_; rintro e w4 ⟨rfl, hb4⟩; have HP := hide (HP.out.later hb4); have HQ := hide (HQ.out.later hb4); have HZ := hide (HZ.out.later hb4); have HB := hide (below_trans HB.out hb4); clear hb4))
  refine wp_region_held_drew (S := fun V => V.rangeAt w.heap.size 0 (bcl l) ∧ V.rangeAt (w.heap.size + 1) 0 (bcl l2)) (by kernel_rfl) (⟨HP.out.range, HQ.out.range⟩) (fun hHeld => ?_)
  refine wpAnyH_take (i := 0) (v := .agg (bcl l).toArray) rfl (by kernel_rfl) (by kernel_rfl) (by kernel_rfl) (fun _ _ _ h => h) (yieldsIf_load_mid (by rfl) _ _ rfl _ _ rfl _ _ (fun V hV => hV.1) hu rfl hi) hHeld ?_
  try simp only [Act.put, List.getElem_toArray, List.getElem_cons_zero, List.setIfInBounds_toArray, List.set_cons_zero, List.set_cons_succ]
  refine wpAnyH_take (i := 2) (v := .agg (bcl l2).toArray) rfl (by kernel_rfl) (by kernel_rfl) (by kernel_rfl) (fun _ _ _ h => h) (yieldsIf_load_mid (by rfl) _ _ rfl _ _ rfl _ _ (fun V hV => hV.2) hu rfl hi2) hHeld ?_
  try simp only [Act.put, List.getElem_toArray, List.getElem_cons_succ, List.getElem_cons_zero, List.setIfInBounds_toArray, List.set_cons_zero, List.set_cons_succ]
  refine wpAnyH_ready (rs := [1]) (by kernel_rfl) (by simp) ?_
  refine AllReadyH.cons rfl (fun K hK => ?_) AllReadyH.nil
  go_simp
  go_at_call 11; with_reducible refine Calls.mono (HKd.out _) ?_; rintro e w5 ⟨rfl, hb5⟩; have HX5 := hide (below_trans (Below.refl _ _).drew hb5); clear hb5
  go_wp2_with fail
  refine hK.out _ _ (⟨(HP.out.later HX5.out).range, (HQ.out.later HX5.out).range⟩) (fun hHeld => ?_)
  clear hK K
  try simp only [Act.put, List.getElem_toArray, List.getElem_cons_succ, List.getElem_cons_zero, List.setIfInBounds_toArray, List.set_cons_zero, List.set_cons_succ]
  refine wpAnyH_ready (rs := [3]) (by kernel_rfl) (by simp) ?_
  refine AllReadyH.cons rfl (fun K hK => ?_) AllReadyH.nil
  go_simp
  go_at_call 11; with_reducible refine Calls.mono (HKd2.out _) ?_; rintro e w6 ⟨rfl, hb6⟩; have HX6 := hide (below_trans HX5.out hb6); clear hb6
  go_wp2_with fail
  refine hK.out _ _ (⟨(HP.out.later HX6.out).range, (HQ.out.later HX6.out).range⟩) (fun hHeld => ?_)
  clear hK K
  try simp only [Act.put, List.getElem_toArray, List.getElem_cons_succ, List.getElem_cons_zero, List.setIfInBounds_toArray, List.set_cons_zero, List.set_cons_succ]
  refine wpAnyH_take (i := 4) (v := .bool true) rfl (by kernel_rfl) (by kernel_rfl) (by kernel_rfl) (fun _ _ _ h => h) (Or.inl ⟨by rfl, fun V hV => by (dsimp only at hV; go_simp; done)⟩) hHeld ?_
  try simp only [Act.put, List.getElem_toArray, List.getElem_cons_succ, List.getElem_cons_zero, List.setIfInBounds_toArray, List.set_cons_zero, List.set_cons_succ]
  refine wpAnyH_done (by kernel_rfl) ?_ _
  have HZ := hide (HZ.out.later HX6.out)
  have HB := hide (below_trans HB.out HX6.out)
  go_wp2_with (first
    | (refine wp_storeP zs_length zs_length HZ.out _ _ (by rfl) (by rfl) (by rfl) (by rfl) ?_; intro W3 hp hb hk; have HP3 := hide hp; have HB3 := hide (hb _ _ HB.out (by omega)); clear hp hb hk)
    | (exact ret_page2 Try.results27 rfl rfl zs_length HP3.out ⟨rfl, HB3.out⟩))

set_option maxHeartbeats 4000000 in
set_option maxRecDepth 10000 in
theorem join_ok (l l2 : List UInt8) (hl : l.length = 256) (hl2 : l2.length = 256) (ho : okB l) (ho2 : okB l2) (hk : byt l2 0 = byt l 0) (w : World) :
    Calls Try.prog 27 #[.agg (bc l), .agg (bc l2)] w fun e w' => (∃ l', l'.length = 256 ∧ ∃ x, ToldIs (byt l 0) (lnk l2) (byt l 1 + byt l2 1) (twoS (cellS l) (byt l 1) (cellS l2)) l' x ∧ e = .returned (.tuple #[.agg (bc l'), .int .i64 x])) ∧ Below w.heap.size w w' := by
  obtain ⟨s1, s2, s3, s4⟩ := ok_small hl ho
  obtain ⟨r1, r2, r3, r4⟩ := ok_small hl2 ho2
  obtain ⟨hP, hQ, hZ, hB⟩ := three_pages w l l2
  have HC : Hid (∀ V, Calls Try.prog 10 #[.agg (bc l)] V fun e w' => e = .returned (.int .i64 0) ∧ Below V.heap.size V w') := fun V => by have := check_walk l hl V; rw [okE_yes ho] at this; exact this
  have HC2 : Hid (∀ V, Calls Try.prog 10 #[.agg (bc l2)] V fun e w' => e = .returned (.int .i64 0) ∧ Below V.heap.size V w') := fun V => by have := check_walk l2 hl2 V; rw [okE_yes ho2] at this; exact this
  have hkv : kindV l = byt l 0 := if_pos ho
  have hkv2 : kindV l2 = byt l2 0 := if_pos ho2
  have hu := page_arr
  have hi : (Try.prog.info? 23).map (·.size) = some (bcl l).length := page_size hl
  have hi2 : (Try.prog.info? 23).map (·.size) = some (bcl l2).length := page_size hl2
  have hcv : cntV l = byt l 1 := if_pos ho
  have hcv2 : cntV l2 = byt l2 1 := if_pos ho2
  have HKd : Hid (∀ V, Calls Try.prog 11 #[.agg (bcl l).toArray] V fun e w' => e = .returned (.int .u8 (byt l 0 : Int)) ∧ Below V.heap.size V w') := fun V => by rw [← hkv]; exact kind_walk l hl V
  have HKd2 : Hid (∀ V, Calls Try.prog 11 #[.agg (bcl l2).toArray] V fun e w' => e = .returned (.int .u8 (byt l 0 : Int)) ∧ Below V.heap.size V w') := fun V => by rw [← hk, ← hkv2]; exact kind_walk l2 hl2 V
  have HLk : Hid (∀ V, Calls Try.prog 31 #[.agg (bcl l2).toArray] V fun e w' => e = .returned (.int .u32 (lnk l2 : Int)) ∧ Below V.heap.size V w') := fun V => linkOf_walk l2 hl2 V
  have HN1 : Hid (∀ V, Calls Try.prog 12 #[.agg (bcl l).toArray] V fun e w' => e = .returned (.int .i64 (byt l 1 : Int)) ∧ Below V.heap.size V w') := fun V => by rw [← hcv]; exact count_walk l hl V
  have HN2 : Hid (∀ V, Calls Try.prog 12 #[.agg (bcl l2).toArray] V fun e w' => e = .returned (.int .i64 (byt l2 1 : Int)) ∧ Below V.heap.size V w') := fun V => by rw [← hcv2]; exact count_walk l2 hl2 V
  have HP1 : Hid (∀ V, Calls Try.prog 33 #[.agg (bcl l).toArray, .int .i64 0, .int .i64 (byt l 1 : Int)] V fun e w' => e = .returned (.agg #[.string (subS l (6 + 0) (byt l 1 - 0)), .string (subS l (stN l 0) (stN l (byt l 1) - stN l 0))]) ∧ Below V.heap.size V w') := fun V => part_walk l hl 0 (byt l 1) (by omega) (by omega) s2 V
  have HP2 : Hid (∀ V, Calls Try.prog 33 #[.agg (bcl l2).toArray, .int .i64 0, .int .i64 (byt l2 1 : Int)] V fun e w' => e = .returned (.agg #[.string (subS l2 (6 + 0) (byt l2 1 - 0)), .string (subS l2 (stN l2 0) (stN l2 (byt l2 1) - stN l2 0))]) ∧ Below V.heap.size V w') := fun V => part_walk l2 hl2 0 (byt l2 1) (by omega) (by omega) r2 V
  have hA := piece_lens hl (i := 0) (j := byt l 1) (by omega) (by omega) s2
  have hB1 := piece_bytes (l := l) (i := 0) (j := byt l 1) (by omega)
  have hA2 := piece_lens hl2 (i := 0) (j := byt l2 1) (by omega) (by omega) r2
  have hB2 := piece_bytes (l := l2) (i := 0) (j := byt l2 1) (by omega)
  obtain ⟨a0, ha0⟩ : ∃ s, subS l (6 + 0) (byt l 1 - 0) = s := ⟨_, rfl⟩
  obtain ⟨b0, hb0⟩ : ∃ s, subS l (stN l 0) (stN l (byt l 1) - stN l 0) = s := ⟨_, rfl⟩
  obtain ⟨a1, ha1⟩ : ∃ s, subS l2 (6 + 0) (byt l2 1 - 0) = s := ⟨_, rfl⟩
  obtain ⟨b1, hb1⟩ : ∃ s, subS l2 (stN l2 0) (stN l2 (byt l2 1) - stN l2 0) = s := ⟨_, rfl⟩
  rw [ha0] at hA HP1
  rw [hb0] at hB1 HP1
  rw [ha1] at hA2 HP2
  rw [hb1] at hB2 HP2
  simp only [Nat.zero_add, Nat.sub_zero] at hA hB1 hA2 hB2
  have q1 : cat (two2 a0 a1) 2 = cat (fun t => lenS (twoS (cellS l) (byt l 1) (cellS l2) t)) (byt l 1 + byt l2 1) := by
    rw [cat_two2, hA, hA2, cat_two (cellS l) (cellS l2) _ _ lenS]
  have q2 : cat (two2 b0 b1) 2 = cat (twoS (cellS l) (byt l 1) (cellS l2)) (byt l 1 + byt l2 1) := by
    have := cat_two (cellS l) (cellS l2) (byt l 1) (byt l2 1) (fun s => s)
    rw [cat_two2, hB1, hB2, this]
  have q3 : byt l 1 + byt l2 1 + (cat (twoS (cellS l) (byt l 1) (cellS l2)) (byt l 1 + byt l2 1)).length ≤ 1000000000 := by
    rw [← q2, cat_two2, hB1, hB2, List.length_append]
    have := cat_le0 hl (byt l 1)
    have := cat_le0 hl2 (byt l2 1)
    omega
  obtain ⟨l', x, hl', htold, hj⟩ := joined_told (byt l 0) (lnk l2) s3 r4 2 (two2 a0 a1) (two2 b0 b1) (byt l 1 + byt l2 1) (twoS (cellS l) (byt l 1) (cellS l2)) q1 q2 q3 (by omega)
  have HJ : Hid (∀ V : World, Calls Try.prog 37 #[.int .u8 (byt l 0 : Int), .int .u32 (lnk l2 : Int), .slice (some ⟨V.heap.size, 0, none⟩) 2 2] (V.alloc (.cells #[.string a0, .string b0, .string a1, .string b1] 64)) fun e' w' => e' = .returned (.tuple #[.agg (bcl l').toArray, .int .i64 x]) ∧ Below (V.alloc (.cells #[.string a0, .string b0, .string a1, .string b1] 64)).heap.size (V.alloc (.cells #[.string a0, .string b0, .string a1, .string b1] 64)) w') := fun V => hj V.heap.size 0 2 _ (runs2 V a0 b0 a1 b1)
  have HTd := hide (And.intro hl' htold)
  have HL := hide hl
  have HL2 := hide hl2
  have HP := hide hP
  have HQ := hide hQ
  have HZ := hide hZ
  have HB := hide hB
  have HL' := hide hl'
  have hz := zero_page.1
  clear hl hl2 hP hQ hZ hB hj htold q1 q2 q3 hA hB1 hA2 hB2 ha0 hb0 ha1 hb1 hcv hcv2 hkv hkv2 s1 s2 s3 s4 r1 r2 r3 r4 ho ho2 hl' hk
  go_enter Try.func27, Try.ntmps27
  go_upto_region 3 with (first
    | (refine wp_loadP HL.out HP.out _ (by rfl) (by rfl) (by rfl) ?_)
    | (refine wp_loadPG HL2.out HQ.out _ (by rfl) (by rfl) (by rfl) ?_)
    | (go_at_call 10; with_reducible refine Calls.mono (HC.out _) ?_; rintro e w3 ⟨rfl, hb3⟩; have HP := hide (HP.out.later hb3); have HQ := hide (HQ.out.later hb3); have HZ := hide (HZ.out.later hb3); have HB := hide (below_trans HB.out hb3); clear hb3)
    | (go_at_call 10; with_reducible refine Calls.mono (HC2.out _) ?_; rintro e w4 ⟨rfl, hb4⟩; have HP := hide (HP.out.later hb4); have HQ := hide (HQ.out.later hb4); have HZ := hide (HZ.out.later hb4); have HB := hide (below_trans HB.out hb4); clear hb4))
  refine wp_region_held_drew (S := fun V => V.rangeAt w.heap.size 0 (bcl l) ∧ V.rangeAt (w.heap.size + 1) 0 (bcl l2)) (by kernel_rfl) (⟨HP.out.range, HQ.out.range⟩) (fun hHeld => ?_)
  refine wpAnyH_take (i := 0) (v := .agg (bcl l).toArray) rfl (by kernel_rfl) (by kernel_rfl) (by kernel_rfl) (fun _ _ _ h => h) (yieldsIf_load_mid (by rfl) _ _ rfl _ _ rfl _ _ (fun V hV => hV.1) hu rfl hi) hHeld ?_
  try simp only [Act.put, List.getElem_toArray, List.getElem_cons_zero, List.setIfInBounds_toArray, List.set_cons_zero, List.set_cons_succ]
  refine wpAnyH_take (i := 2) (v := .agg (bcl l2).toArray) rfl (by kernel_rfl) (by kernel_rfl) (by kernel_rfl) (fun _ _ _ h => h) (yieldsIf_load_mid (by rfl) _ _ rfl _ _ rfl _ _ (fun V hV => hV.2) hu rfl hi2) hHeld ?_
  try simp only [Act.put, List.getElem_toArray, List.getElem_cons_succ, List.getElem_cons_zero, List.setIfInBounds_toArray, List.set_cons_zero, List.set_cons_succ]
  refine wpAnyH_ready (rs := [1]) (by kernel_rfl) (by simp) ?_
  refine AllReadyH.cons rfl (fun K hK => ?_) AllReadyH.nil
  go_simp
  go_at_call 11; with_reducible refine Calls.mono (HKd.out _) ?_; rintro e w5 ⟨rfl, hb5⟩; have HX5 := hide (below_trans (Below.refl _ _).drew hb5); clear hb5
  go_wp2_with fail
  refine hK.out _ _ (⟨(HP.out.later HX5.out).range, (HQ.out.later HX5.out).range⟩) (fun hHeld => ?_)
  clear hK K
  try simp only [Act.put, List.getElem_toArray, List.getElem_cons_succ, List.getElem_cons_zero, List.setIfInBounds_toArray, List.set_cons_zero, List.set_cons_succ]
  refine wpAnyH_ready (rs := [3]) (by kernel_rfl) (by simp) ?_
  refine AllReadyH.cons rfl (fun K hK => ?_) AllReadyH.nil
  go_simp
  go_at_call 11; with_reducible refine Calls.mono (HKd2.out _) ?_; rintro e w6 ⟨rfl, hb6⟩; have HX6 := hide (below_trans HX5.out hb6); clear hb6
  go_wp2_with fail
  refine hK.out _ _ (⟨(HP.out.later HX6.out).range, (HQ.out.later HX6.out).range⟩) (fun hHeld => ?_)
  clear hK K
  try simp only [Act.put, List.getElem_toArray, List.getElem_cons_succ, List.getElem_cons_zero, List.setIfInBounds_toArray, List.set_cons_zero, List.set_cons_succ]
  refine wpAnyH_take (i := 4) (v := .bool false) rfl (by kernel_rfl) (by kernel_rfl) (by kernel_rfl) (fun _ _ _ h => h) (Or.inl ⟨by rfl, fun V hV => by (dsimp only at hV; go_simp)⟩) hHeld ?_
  try simp only [Act.put, List.getElem_toArray, List.getElem_cons_succ, List.getElem_cons_zero, List.setIfInBounds_toArray, List.set_cons_zero, List.set_cons_succ]
  refine wpAnyH_done (by kernel_rfl) ?_ _
  have HP := hide (HP.out.later HX6.out)
  have HQ := hide (HQ.out.later HX6.out)
  have HZ := hide (HZ.out.later HX6.out)
  have HB := hide (below_trans HB.out HX6.out)
  go_upto_region 5 with fail
  refine wp_region_held_drew (S := fun V => V.rangeAt w.heap.size 0 (bcl l) ∧ V.rangeAt (w.heap.size + 1) 0 (bcl l2)) (by kernel_rfl) (⟨HP.out.range, HQ.out.range⟩) (fun hHeld => ?_)
  refine wpAnyH_take (i := 0) (v := .agg (bcl l).toArray) rfl (by kernel_rfl) (by kernel_rfl) (by kernel_rfl) (fun _ _ _ h => h) (yieldsIf_load_mid (by rfl) _ _ rfl _ _ rfl _ _ (fun V hV => hV.1) hu rfl hi) hHeld ?_
  try simp only [Act.put, List.getElem_toArray, List.getElem_cons_zero, List.setIfInBounds_toArray, List.set_cons_zero, List.set_cons_succ]
  refine wpAnyH_take (i := 2) (v := .agg (bcl l2).toArray) rfl (by kernel_rfl) (by kernel_rfl) (by kernel_rfl) (fun _ _ _ h => h) (yieldsIf_load_mid (by rfl) _ _ rfl _ _ rfl _ _ (fun V hV => hV.2) hu rfl hi2) hHeld ?_
  try simp only [Act.put, List.getElem_toArray, List.getElem_cons_succ, List.getElem_cons_zero, List.setIfInBounds_toArray, List.set_cons_zero, List.set_cons_succ]
  refine wpAnyH_take (i := 4) (v := .agg (bcl l).toArray) rfl (by kernel_rfl) (by kernel_rfl) (by kernel_rfl) (fun _ _ _ h => h) (yieldsIf_load_mid (by rfl) _ _ rfl _ _ rfl _ _ (fun V hV => hV.1) hu rfl hi) hHeld ?_
  try simp only [Act.put, List.getElem_toArray, List.getElem_cons_succ, List.getElem_cons_zero, List.setIfInBounds_toArray, List.set_cons_zero, List.set_cons_succ]
  refine wpAnyH_take (i := 5) (v := .agg (bcl l).toArray) rfl (by kernel_rfl) (by kernel_rfl) (by kernel_rfl) (fun _ _ _ h => h) (yieldsIf_load_mid (by rfl) _ _ rfl _ _ rfl _ _ (fun V hV => hV.1) hu rfl hi) hHeld ?_
  try simp only [Act.put, List.getElem_toArray, List.getElem_cons_succ, List.getElem_cons_zero, List.setIfInBounds_toArray, List.set_cons_zero, List.set_cons_succ]
  refine wpAnyH_take (i := 8) (v := .agg (bcl l2).toArray) rfl (by kernel_rfl) (by kernel_rfl) (by kernel_rfl) (fun _ _ _ h => h) (yieldsIf_load_mid (by rfl) _ _ rfl _ _ rfl _ _ (fun V hV => hV.2) hu rfl hi2) hHeld ?_
  try simp only [Act.put, List.getElem_toArray, List.getElem_cons_succ, List.getElem_cons_zero, List.setIfInBounds_toArray, List.set_cons_zero, List.set_cons_succ]
  refine wpAnyH_take (i := 9) (v := .agg (bcl l2).toArray) rfl (by kernel_rfl) (by kernel_rfl) (by kernel_rfl) (fun _ _ _ h => h) (yieldsIf_load_mid (by rfl) _ _ rfl _ _ rfl _ _ (fun V hV => hV.2) hu rfl hi2) hHeld ?_
  try simp only [Act.put, List.getElem_toArray, List.getElem_cons_succ, List.getElem_cons_zero, List.setIfInBounds_toArray, List.set_cons_zero, List.set_cons_succ]
  refine wpAnyH_ready (rs := [1]) (by kernel_rfl) (by simp) ?_
  refine AllReadyH.cons rfl (fun K hK => ?_) AllReadyH.nil
  go_simp
  go_at_call 11; with_reducible refine Calls.mono (HKd.out _) ?_; rintro e w15 ⟨rfl, hb15⟩; have HX15 := hide (below_trans ((Below.refl _ _).drew) hb15); clear hb15
  go_wp2_with fail
  refine hK.out _ _ (⟨(HP.out.later HX15.out).range, (HQ.out.later HX15.out).range⟩) (fun hHeld => ?_)
  clear hK K
  try simp only [Act.put, List.getElem_toArray, List.getElem_cons_succ, List.getElem_cons_zero, List.setIfInBounds_toArray, List.set_cons_zero, List.set_cons_succ]
  refine wpAnyH_ready (rs := [3]) (by kernel_rfl) (by simp) ?_
  refine AllReadyH.cons rfl (fun K hK => ?_) AllReadyH.nil
  go_simp
  go_at_call 31; with_reducible refine Calls.mono (HLk.out _) ?_; rintro e w16 ⟨rfl, hb16⟩; have HX16 := hide (below_trans HX15.out hb16); clear hb16
  go_wp2_with fail
  refine hK.out _ _ (⟨(HP.out.later HX16.out).range, (HQ.out.later HX16.out).range⟩) (fun hHeld => ?_)
  clear hK K
  try simp only [Act.put, List.getElem_toArray, List.getElem_cons_succ, List.getElem_cons_zero, List.setIfInBounds_toArray, List.set_cons_zero, List.set_cons_succ]
  refine wpAnyH_ready (rs := [6]) (by kernel_rfl) (by simp) ?_
  refine AllReadyH.cons rfl (fun K hK => ?_) AllReadyH.nil
  go_simp
  go_at_call 12; with_reducible refine Calls.mono (HN1.out _) ?_; rintro e w17 ⟨rfl, hb17⟩; have HX17 := hide (below_trans HX16.out hb17); clear hb17
  go_wp2_with fail
  refine hK.out _ _ (⟨(HP.out.later HX17.out).range, (HQ.out.later HX17.out).range⟩) (fun hHeld => ?_)
  clear hK K
  try simp only [Act.put, List.getElem_toArray, List.getElem_cons_succ, List.getElem_cons_zero, List.setIfInBounds_toArray, List.set_cons_zero, List.set_cons_succ]
  refine wpAnyH_ready (rs := [7]) (by kernel_rfl) (by simp) ?_
  refine AllReadyH.cons rfl (fun K hK => ?_) AllReadyH.nil
  go_simp
  go_at_call 33; with_reducible refine Calls.mono (HP1.out _) ?_; rintro e w18 ⟨rfl, hb18⟩; have HX18 := hide (below_trans HX17.out hb18); clear hb18
  go_wp2_with fail
  refine hK.out _ _ (⟨(HP.out.later HX18.out).range, (HQ.out.later HX18.out).range⟩) (fun hHeld => ?_)
  clear hK K
  try simp only [Act.put, List.getElem_toArray, List.getElem_cons_succ, List.getElem_cons_zero, List.setIfInBounds_toArray, List.set_cons_zero, List.set_cons_succ]
  refine wpAnyH_ready (rs := [10]) (by kernel_rfl) (by simp) ?_
  refine AllReadyH.cons rfl (fun K hK => ?_) AllReadyH.nil
  go_simp
  go_at_call 12; with_reducible refine Calls.mono (HN2.out _) ?_; rintro e w19 ⟨rfl, hb19⟩; have HX19 := hide (below_trans HX18.out hb19); clear hb19
  go_wp2_with fail
  refine hK.out _ _ (⟨(HP.out.later HX19.out).range, (HQ.out.later HX19.out).range⟩) (fun hHeld => ?_)
  clear hK K
  try simp only [Act.put, List.getElem_toArray, List.getElem_cons_succ, List.getElem_cons_zero, List.setIfInBounds_toArray, List.set_cons_zero, List.set_cons_succ]
  refine wpAnyH_ready (rs := [11]) (by kernel_rfl) (by simp) ?_
  refine AllReadyH.cons rfl (fun K hK => ?_) AllReadyH.nil
  go_simp
  go_at_call 33; with_reducible refine Calls.mono (HP2.out _) ?_; rintro e w20 ⟨rfl, hb20⟩; have HX20 := hide (below_trans HX19.out hb20); clear hb20
  go_wp2_with fail
  refine hK.out _ _ (⟨(HP.out.later HX20.out).range, (HQ.out.later HX20.out).range⟩) (fun hHeld => ?_)
  clear hK K
  try simp only [Act.put, List.getElem_toArray, List.getElem_cons_succ, List.getElem_cons_zero, List.setIfInBounds_toArray, List.set_cons_zero, List.set_cons_succ]
  have HX21 := hide (below_trans HX20.out (new_below w20 (.cells #[.string a0, .string b0, .string a1, .string b1] 64) rfl))
  refine wpAnyH_ready (rs := [12]) (by kernel_rfl) (by simp) ?_
  refine AllReadyH.cons rfl (fun K hK => ?_) AllReadyH.nil
  go_simp
  refine hK.out _ _ (⟨(HP.out.later HX21.out).range, (HQ.out.later HX21.out).range⟩) (fun hHeld => ?_)
  clear hK K
  try simp only [Act.put, List.getElem_toArray, List.getElem_cons_succ, List.getElem_cons_zero, List.setIfInBounds_toArray, List.set_cons_zero, List.set_cons_succ]
  refine wpAnyH_ready (rs := [13]) (by kernel_rfl) (by simp) ?_
  refine AllReadyH.cons rfl (fun K hK => ?_) AllReadyH.nil
  go_simp
  go_at_call 37; with_reducible refine Calls.mono (HJ.out _) ?_; rintro e w22 ⟨rfl, hb22⟩; have HX22 := hide (below_trans HX21.out hb22); clear hb22
  go_wp2_with fail
  refine hK.out _ _ (⟨(HP.out.later HX22.out).range, (HQ.out.later HX22.out).range⟩) (fun hHeld => ?_)
  clear hK K
  try simp only [Act.put, List.getElem_toArray, List.getElem_cons_succ, List.getElem_cons_zero, List.setIfInBounds_toArray, List.set_cons_zero, List.set_cons_succ]
  refine wpAnyH_take (i := 14) (v := .agg (bcl l').toArray) rfl (by kernel_rfl) (by kernel_rfl) (by kernel_rfl) (fun _ _ _ h => h) (Or.inl ⟨by rfl, fun V hV => by (dsimp only at hV; go_simp)⟩) hHeld ?_
  try simp only [Act.put, List.getElem_toArray, List.getElem_cons_succ, List.getElem_cons_zero, List.setIfInBounds_toArray, List.set_cons_zero, List.set_cons_succ]
  refine wpAnyH_take (i := 15) (v := .int .i64 x) rfl (by kernel_rfl) (by kernel_rfl) (by kernel_rfl) (fun _ _ _ h => h) (Or.inl ⟨by rfl, fun V hV => by (dsimp only at hV; go_simp)⟩) hHeld ?_
  try simp only [Act.put, List.getElem_toArray, List.getElem_cons_succ, List.getElem_cons_zero, List.setIfInBounds_toArray, List.set_cons_zero, List.set_cons_succ]
  refine wpAnyH_ready (rs := [16]) (by kernel_rfl) (by simp) ?_
  refine AllReadyH.cons rfl (fun K hK => ?_) AllReadyH.nil
  refine step_storeP HL'.out zs_length (HZ.out.later HX22.out) _ _ (by rfl) (by rfl) (by rfl) (by rfl) ?_
  intro W3 hp hb hk
  have HW3 := hide hp
  have HB3 := hide (hb _ _ (below_trans HB.out HX22.out) (by omega))
  have HPW := hide ((hk w.heap.size (by omega)).trans (HP.out.later HX22.out))
  have HQW := hide ((hk (w.heap.size + 1) (by omega)).trans (HQ.out.later HX22.out))
  clear hp hb hk
  refine hK.out _ _ ⟨PAt.range HPW.out, PAt.range HQW.out⟩ (fun hHeld => ?_)
  clear hK K
  try simp only [Act.put, List.getElem_toArray, List.getElem_cons_succ, List.getElem_cons_zero]
  refine wpAnyH_take (i := 17) (v := .int .i64 x) rfl (by kernel_rfl) (by kernel_rfl) (by kernel_rfl) (fun _ _ _ h => h) (Or.inl ⟨by rfl, fun V hV => by (dsimp only at hV; go_simp)⟩) hHeld ?_
  try simp only [Act.put, List.getElem_toArray, List.getElem_cons_succ, List.getElem_cons_zero, List.setIfInBounds_toArray, List.set_cons_zero, List.set_cons_succ]
  refine wpAnyH_done (by kernel_rfl) ?_ _
  go_wp2_with fail
  refine ret_page2 (u := .int .i64 x) Try.results27 rfl rfl HL'.out HW3.out ?_
  exact ⟨⟨l', HTd.out.1, x, HTd.out.2, rfl⟩, HB3.out⟩

open Classical in
noncomputable def joE (l l2 : List UInt8) : Int := if okB l ∧ okB l2 then (if byt l 0 = byt l2 0 then te (byt l 1 + byt l2 1) (twoS (cellS l) (byt l 1) (cellS l2)) else 2) else 8
open Classical in
noncomputable def joL (l l2 : List UInt8) : List UInt8 := if (okB l ∧ okB l2) ∧ byt l 0 = byt l2 0 then tl (byt l 0) (lnk l2) (byt l 1 + byt l2 1) (twoS (cellS l) (byt l 1) (cellS l2)) else zs
theorem joL_length (l l2 : List UInt8) : (joL l l2).length = 256 := by
  unfold joL
  split
  · exact tl_length _ _ _ _
  · exact zs_length
theorem join_any (l l2 : List UInt8) (hl : l.length = 256) (hl2 : l2.length = 256) (w : World) :
    Calls Try.prog 27 #[.agg (bc l), .agg (bc l2)] w fun e w' => e = .returned (.tuple #[.agg (bc (joL l l2)), .int .i64 (joE l l2)]) ∧ Below w.heap.size w w' := by
  unfold joL joE
  by_cases ho : okB l
  · by_cases ho2 : okB l2
    · by_cases hk : byt l 0 = byt l2 0
      · rw [if_pos ⟨⟨ho, ho2⟩, hk⟩, if_pos ⟨ho, ho2⟩, if_pos hk]
        refine (join_ok l l2 hl hl2 ho ho2 hk.symm w).mono fun e w' ⟨⟨l', _, x, ht, he⟩, hb⟩ => ⟨?_, hb⟩
        rw [he, ht.eq.1, ht.eq.2]
      · rw [if_neg (fun h => hk h.2), if_pos ⟨ho, ho2⟩, if_neg hk]
        exact join_kind l l2 hl hl2 ho ho2 hk w
    · rw [if_neg (fun h => ho2 h.1.2), if_neg (fun h => ho2 h.2)]
      exact join_not2 l l2 hl hl2 ho ho2 w
  · rw [if_neg (fun h => ho h.1.1), if_neg (fun h => ho h.1)]
    exact join_not l l2 hl hl2 ho w
end Go.Proofs.Ythhoeabenngiiaa
