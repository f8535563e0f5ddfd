/- A cell put in; another link. -/
import Derived.Test.YthhoeabenngiiaaND
namespace Go.Proofs.Ythhoeabenngiiaa
open Go.ChangeShapes Go.WideShapes Go.ChangeAt Go.RowKit
set_option linter.unusedVariables false

theorem one_strAt (V : World) (c : ByteArray) : StrAt (V.alloc (.cells #[.string c] 9)) V.heap.size 0 1 (fun _ => c) := by
  intro i hi
  have h := heap_alloc_new V (.cells #[.string c] 9)
  obtain rfl : i = 0 := by omega
  rw [cell_of_row _ _ _ _ _ _ h]; rfl

theorem cc_walk (V : World) (c : ByteArray) : Calls Try.prog 35 #[.slice (some ⟨V.heap.size, 0, none⟩) 1 1] (V.alloc (.cells #[.string c] 9)) fun e w' => e = .returned (.int .i64 (cErr 1 (fun _ => c))) ∧ Below (V.alloc (.cells #[.string c] 9)).heap.size (V.alloc (.cells #[.string c] 9)) w' :=
  (checkCells_walk V.heap.size 0 1 1 (fun _ => c) (by omega) _ (one_strAt V c)).mono fun e w' ⟨h1, h2⟩ => ⟨h1, by rw [← h2]; exact Below.refl _ _⟩

set_option maxHeartbeats 2000000 in
set_option maxRecDepth 10000 in
theorem insert_not (l : List UInt8) (hl : l.length = 256) (ho : ¬ okB l) (i : Int) (c : ByteArray) (w : World) :
    Calls Try.prog 20 #[.agg (bc l), .int .i64 i, .string c] w fun e w' => e = .returned (.tuple #[.agg (bc zs), .int .i64 8]) ∧ Below w.heap.size w w' := by
  obtain ⟨hP, hZ, hB⟩ := two_pages w l
  have HC : Hid (∀ V, Calls Try.prog 10 #[.agg (bc l)] V fun e w' => e = .returned (.int .i64 8) ∧ Below V.heap.size V w') := fun V => by have := check_walk l hl V; rw [okE_no ho] at this; exact this
  have HL := hide hl
  have HP := hide hP
  have HZ := hide hZ
  have HB := hide hB
  have hz := zero_page.1
  have hbu := built_page
  clear hl ho hP hZ hB
  go_enter Try.func20, Try.ntmps20
  go_wp2_with (first
    | (refine wp_loadP HL.out HP.out _ (by rfl) (by rfl) (by rfl) ?_)
    | (go_at_call 10; with_reducible refine Calls.mono (HC.out _) ?_; rintro e w3 ⟨rfl, hb3⟩; have HZ := hide (HZ.out.later hb3); have HB := hide (below_trans HB.out hb3); clear hb3)
    | (refine wp_storeP zs_length zs_length HZ.out _ _ (by rfl) (by rfl) (by rfl) (by rfl) ?_; intro W3 hp hb hk; have HP3 := hide hp; have HB3 := hide (hb _ _ HB.out (by omega)); clear hp hb hk)
    | (exact ret_page2 Try.results20 rfl rfl zs_length HP3.out ⟨rfl, HB3.out⟩))

set_option maxHeartbeats 2000000 in
set_option maxRecDepth 10000 in
theorem insert_cell (l : List UInt8) (hl : l.length = 256) (ho : okB l) (i : Int) (c : ByteArray) (E : Int) (hE : cErr 1 (fun _ => c) = E) (h0 : E ≠ 0) (w : World) :
    Calls Try.prog 20 #[.agg (bc l), .int .i64 i, .string c] w fun e w' => e = .returned (.tuple #[.agg (bc zs), .int .i64 E]) ∧ Below w.heap.size w w' := by
  obtain ⟨hP, hZ, hB⟩ := two_pages w l
  have HC : Hid (∀ V, Calls Try.prog 10 #[.agg (bc l)] V fun e w' => e = .returned (.int .i64 0) ∧ Below V.heap.size V w') := fun V => by have := check_walk l hl V; rw [okE_yes ho] at this; exact this
  have HCc : Hid (∀ V : World, Calls Try.prog 35 #[.slice (some ⟨V.heap.size, 0, none⟩) 1 1] (V.alloc (.cells #[.string c] 9)) fun e w' => e = .returned (.int .i64 E) ∧ Below (V.alloc (.cells #[.string c] 9)).heap.size (V.alloc (.cells #[.string c] 9)) w') := fun V => by rw [← hE]; exact cc_walk V c
  have HL := hide hl
  have HP := hide hP
  have HZ := hide hZ
  have HB := hide hB
  have gE : (E == 0) = false := by simp [h0]
  have gE2 : (E != 0) = true := by simp [h0]
  have hz := zero_page.1
  have hbu := built_page
  clear hl ho hP hZ hB hE
  go_enter Try.func20, Try.ntmps20
  go_wp2_with (first
    | (refine wp_loadP HL.out HP.out _ (by rfl) (by rfl) (by rfl) ?_)
    | (go_at_call 10; with_reducible refine Calls.mono (HC.out _) ?_; rintro e w3 ⟨rfl, hb3⟩; have HZ := hide (HZ.out.later (below_trans hb3 (new_below w3 (.cells #[.string c] 9) rfl))); have HB := hide (below_trans HB.out (below_trans hb3 (new_below w3 (.cells #[.string c] 9) rfl))); clear hb3)
    | (go_at_call 35; with_reducible refine Calls.mono (HCc.out _) ?_; rintro e w4 ⟨rfl, hb4⟩; have HZ := hide (HZ.out.later hb4); have HB := hide (below_trans HB.out hb4); clear hb4)
    | (refine wp_storeP zs_length zs_length HZ.out _ _ (by rfl) (by rfl) (by rfl) (by rfl) ?_; intro W3 hp hb hk; have HP3 := hide hp; have HB3 := hide (hb _ _ HB.out (by omega)); clear hp hb hk)
    | (exact ret_page2 Try.results20 rfl rfl zs_length HP3.out ⟨rfl, HB3.out⟩))

set_option maxHeartbeats 2000000 in
set_option maxRecDepth 10000 in
theorem insert_place (l : List UInt8) (hl : l.length = 256) (ho : okB l) (i : Int) (c : ByteArray) (hE : cErr 1 (fun _ => c) = 0) (hi : i < 0 ∨ (byt l 1 : Int) < i) (w : World) :
    Calls Try.prog 20 #[.agg (bc l), .int .i64 i, .string c] w fun e w' => e = .returned (.tuple #[.agg (bc zs), .int .i64 4]) ∧ Below w.heap.size w w' := by
  obtain ⟨hP, hZ, hB⟩ := two_pages w l
  have hcv : cntV l = byt l 1 := if_pos ho
  have HC : Hid (∀ V, Calls Try.prog 10 #[.agg (bc l)] V fun e w' => e = .returned (.int .i64 0) ∧ Below V.heap.size V w') := fun V => by have := check_walk l hl V; rw [okE_yes ho] at this; exact this
  have HCc : Hid (∀ V : World, Calls Try.prog 35 #[.slice (some ⟨V.heap.size, 0, none⟩) 1 1] (V.alloc (.cells #[.string c] 9)) fun e w' => e = .returned (.int .i64 0) ∧ Below (V.alloc (.cells #[.string c] 9)).heap.size (V.alloc (.cells #[.string c] 9)) w') := fun V => by have := cc_walk V c; rw [hE] at this; exact this
  have HCn : Hid (∀ V, Calls Try.prog 12 #[.agg (bc l)] V fun e w' => e = .returned (.int .i64 (byt l 1 : Int)) ∧ Below V.heap.size V w') := fun V => by rw [← hcv]; exact count_walk l hl V
  have HK : Hid (∀ V, Calls Try.prog 32 #[.agg (bc l), .int .i64 i, .int .i64 (byt l 1 : Int)] V fun e w' => e = .returned (.int .i64 4) ∧ Below V.heap.size V w') := fun V => by
    have := place_walk l hl i (byt l 1 : Int) V
    rw [show plE l i (byt l 1 : Int) = 4 by unfold plE; rw [if_pos ho, if_pos hi]] at this
    exact this
  have HL := hide hl
  have HP := hide hP
  have HZ := hide hZ
  have HB := hide hB
  have hz := zero_page.1
  have hbu := built_page
  clear hl ho hP hZ hB hE hi hcv
  go_enter Try.func20, Try.ntmps20
  go_wp2_with (first
    | (refine wp_loadP HL.out HP.out _ (by rfl) (by rfl) (by rfl) ?_)
    | (go_at_call 10; with_reducible refine Calls.mono (HC.out _) ?_; rintro e w3 ⟨rfl, hb3⟩; have HP := hide (HP.out.later (below_trans hb3 (new_below w3 (.cells #[.string c] 9) rfl))); have HZ := hide (HZ.out.later (below_trans hb3 (new_below w3 (.cells #[.string c] 9) rfl))); have HB := hide (below_trans HB.out (below_trans hb3 (new_below w3 (.cells #[.string c] 9) rfl))); clear hb3)
    | (go_at_call 35; with_reducible refine Calls.mono (HCc.out _) ?_; rintro e w4 ⟨rfl, hb4⟩; have HP := hide (HP.out.later hb4); have HZ := hide (HZ.out.later hb4); have HB := hide (below_trans HB.out hb4); clear hb4)
    | (go_at_call 12; with_reducible refine Calls.mono (HCn.out _) ?_; rintro e w5 ⟨rfl, hb5⟩; have HP := hide (HP.out.later hb5); have HZ := hide (HZ.out.later hb5); have HB := hide (below_trans HB.out hb5); clear hb5)
    | (go_at_call 32; with_reducible refine Calls.mono (HK.out _) ?_; rintro e w6 ⟨rfl, hb6⟩; have HZ := hide (HZ.out.later hb6); have HB := hide (below_trans HB.out hb6); clear hb6)
    | (refine wp_storeP zs_length zs_length HZ.out _ _ (by rfl) (by rfl) (by rfl) (by rfl) ?_; intro W3 hp hb hk; have HP3 := hide hp; have HB3 := hide (hb _ _ HB.out (by omega)); clear hp hb hk)
    | (exact ret_page2 Try.results20 rfl rfl zs_length HP3.out ⟨rfl, HB3.out⟩))

set_option maxHeartbeats 4000000 in
set_option maxRecDepth 10000 in
theorem insert_ok (l : List UInt8) (hl : l.length = 256) (ho : okB l) (i : Nat) (hic : i ≤ byt l 1) (c : ByteArray) (hE : cErr 1 (fun _ => c) = 0) (w : World) :
    Calls Try.prog 20 #[.agg (bc l), .int .i64 (i : Int), .string c] w fun e w' => (∃ l', l'.length = 256 ∧ ∃ x, ToldIs (byt l 0) (lnk l) (byt l 1 + 1) (putS (cellS l) i c) l' x ∧ e = .returned (.tuple #[.agg (bc l'), .int .i64 x])) ∧ Below w.heap.size w w' := by
  obtain ⟨s1, s2, s3, s4⟩ := ok_small hl ho
  obtain ⟨hP, hZ, hB⟩ := two_pages w l
  have hc60 : c.size ≤ 60 := (cErr_zero hE 0 (by omega)).2
  have hcv : cntV l = byt l 1 := if_pos ho
  have hkv : kindV l = byt l 0 := if_pos ho
  have hu := page_arr
  have hi : (Try.prog.info? 23).map (·.size) = some (bcl l).length := page_size hl
  have hst0 : stN l i ≤ 256 := Nat.le_trans (stN_mono l (by omega)) s2
  have HC : Hid (∀ V, Calls Try.prog 10 #[.agg (bc l)] V fun e w' => e = .returned (.int .i64 0) ∧ Below V.heap.size V w') := fun V => by have := check_walk l hl V; rw [okE_yes ho] at this; exact this
  have HCc : Hid (∀ V : World, Calls Try.prog 35 #[.slice (some ⟨V.heap.size, 0, none⟩) 1 1] (V.alloc (.cells #[.string c] 9)) fun e w' => e = .returned (.int .i64 0) ∧ Below (V.alloc (.cells #[.string c] 9)).heap.size (V.alloc (.cells #[.string c] 9)) w') := fun V => by have := cc_walk V c; rw [hE] at this; exact this
  have HCn : Hid (∀ V, Calls Try.prog 12 #[.agg (bc l)] V fun e w' => e = .returned (.int .i64 (byt l 1 : Int)) ∧ Below V.heap.size V w') := fun V => by rw [← hcv]; exact count_walk l hl V
  have HK : Hid (∀ V, Calls Try.prog 32 #[.agg (bc l), .int .i64 (i : Int), .int .i64 (byt l 1 : Int)] V fun e w' => e = .returned (.int .i64 0) ∧ Below V.heap.size V w') := fun V => by
    have := place_walk l hl (i : Int) (byt l 1 : Int) V
    rw [show plE l (i : Int) (byt l 1 : Int) = 0 by unfold plE; rw [if_pos ho, if_neg (by omega)]] at this
    exact this
  have HKd : Hid (∀ V, Calls Try.prog 11 #[.agg (bcl l).toArray] V fun e w' => e = .returned (.int .u8 (byt l 0 : Int)) ∧ Below V.heap.size V w') := fun V => by rw [← hkv]; exact kind_walk l hl V
  have HLk : Hid (∀ V, Calls Try.prog 31 #[.agg (bcl l).toArray] V fun e w' => e = .returned (.int .u32 (lnk l : Int)) ∧ Below V.heap.size V w') := fun V => linkOf_walk l hl V
  have HP1 : Hid (∀ V, Calls Try.prog 33 #[.agg (bcl l).toArray, .int .i64 0, .int .i64 (i : Int)] V fun e w' => e = .returned (.agg #[.string (subS l (6 + 0) (i - 0)), .string (subS l (stN l 0) (stN l i - stN l 0))]) ∧ Below V.heap.size V w') := fun V => part_walk l hl 0 i (by omega) (by omega) hst0 V
  have HSg : Hid (∀ V, Calls Try.prog 36 #[.string c] V fun e w' => e = .returned (.agg #[.string (lenS c), .string c]) ∧ Below V.heap.size V w') := fun V => single_walk c hc60 V
  have HP2 : Hid (∀ V, Calls Try.prog 33 #[.agg (bcl l).toArray, .int .i64 (i : Int), .int .i64 (byt l 1 : Int)] V fun e w' => e = .returned (.agg #[.string (subS l (6 + i) (byt l 1 - i)), .string (subS l (stN l i) (stN l (byt l 1) - stN l i))]) ∧ Below V.heap.size V w') := fun V => part_walk l hl i (byt l 1) (by omega) (by omega) s2 V
  have hA := piece_lens hl (i := 0) (j := i) (by omega) (by omega) hst0
  have hB1 := piece_bytes (l := l) (i := 0) (j := i) (by omega)
  have hA2 := piece_lens hl (i := i) (j := byt l 1) (by omega) (by omega) s2
  have hB2 := piece_bytes (l := l) (i := i) (j := byt l 1) (by omega)
  obtain ⟨a0, ha0⟩ : ∃ s, subS l (6 + 0) (i - 0) = s := ⟨_, rfl⟩
  obtain ⟨b0, hb0⟩ : ∃ s, subS l (stN l 0) (stN l i - stN l 0) = s := ⟨_, rfl⟩
  obtain ⟨a1, ha1⟩ : ∃ s, subS l (6 + i) (byt l 1 - i) = s := ⟨_, rfl⟩
  obtain ⟨b1, hb1⟩ : ∃ s, subS l (stN l i) (stN l (byt l 1) - stN l i) = s := ⟨_, rfl⟩
  obtain ⟨s0, hs0⟩ : ∃ s, lenS c = s := ⟨_, rfl⟩
  rw [ha0] at hA HP1
  rw [hb0] at hB1 HP1
  rw [ha1] at hA2 HP2
  rw [hb1] at hB2 HP2
  rw [hs0] at HSg
  have ec : byt l 1 + 1 = i + (1 + (byt l 1 - i)) := by omega
  have q1 : cat (three3 a0 s0 a1) 3 = cat (fun t => lenS (putS (cellS l) i c t)) (byt l 1 + 1) := by
    rw [cat_three3, hA, hA2, ec, cat_put (cellS l) i _ c lenS, ← hs0]
    simp only [Nat.zero_add, Nat.sub_zero]
  have q2 : cat (three3 b0 c b1) 3 = cat (putS (cellS l) i c) (byt l 1 + 1) := by
    have := cat_put (cellS l) i (byt l 1 - i) c (fun s => s)
    rw [cat_three3, hB1, hB2, ec, this]
    simp only [Nat.zero_add, Nat.sub_zero]
  have q3 : byt l 1 + 1 + (cat (putS (cellS l) i c) (byt l 1 + 1)).length ≤ 1000000000 := by
    rw [← q2, cat_three3, hB1, hB2, List.length_append, List.length_append]
    have := cat_le hl (i - 0) 0
    have := cat_le hl (byt l 1 - i) i
    have : c.data.toList.length = c.size := bytes_size c
    omega
  obtain ⟨l', x, hl', htold, hj⟩ := joined_told (byt l 0) (lnk l) s3 s4 3 (three3 a0 s0 a1) (three3 b0 c b1) (byt l 1 + 1) (putS (cellS l) i c) q1 q2 q3 (by omega)
  have HJ : Hid (∀ V : World, Calls Try.prog 37 #[.int .u8 (byt l 0 : Int), .int .u32 (lnk l : Int), .slice (some ⟨V.heap.size, 0, none⟩) 3 3] (V.alloc (.cells #[.string a0, .string b0, .string s0, .string c, .string a1, .string b1] 64)) fun e' w' => e' = .returned (.tuple #[.agg (bcl l').toArray, .int .i64 x]) ∧ Below (V.alloc (.cells #[.string a0, .string b0, .string s0, .string c, .string a1, .string b1] 64)).heap.size (V.alloc (.cells #[.string a0, .string b0, .string s0, .string c, .string a1, .string b1] 64)) w') := fun V => hj V.heap.size 0 3 _ (runs3 V a0 b0 s0 c a1 b1)
  have HTd := hide (And.intro hl' htold)
  have HL := hide hl
  have HP := hide hP
  have HZ := hide hZ
  have HB := hide hB
  have HL' := hide hl'
  have hz := zero_page.1
  clear hl hP hZ hB hj htold q1 q2 q3 hA hB1 hA2 hB2 ha0 hb0 ha1 hb1 ec hst0 hcv hkv s1 s2 s3 s4 ho hic hl' hs0 hc60 hE
  go_enter Try.func20, Try.ntmps20
  go_upto_region 11 with (first
    | (refine wp_loadP HL.out HP.out _ (by rfl) (by rfl) (by rfl) ?_)
    | (go_at_call 10; with_reducible refine Calls.mono (HC.out _) ?_; rintro e w3 ⟨rfl, hb3⟩; have HP := hide (HP.out.later (below_trans hb3 (new_below w3 (.cells #[.string c] 9) rfl))); have HZ := hide (HZ.out.later (below_trans hb3 (new_below w3 (.cells #[.string c] 9) rfl))); have HB := hide (below_trans HB.out (below_trans hb3 (new_below w3 (.cells #[.string c] 9) rfl))); clear hb3)
    | (go_at_call 35; with_reducible refine Calls.mono (HCc.out _) ?_; rintro e w4 ⟨rfl, hb4⟩; have HP := hide (HP.out.later hb4); have HZ := hide (HZ.out.later hb4); have HB := hide (below_trans HB.out hb4); clear hb4)
    | (go_at_call 12; with_reducible refine Calls.mono (HCn.out _) ?_; rintro e w5 ⟨rfl, hb5⟩; have HP := hide (HP.out.later hb5); have HZ := hide (HZ.out.later hb5); have HB := hide (below_trans HB.out hb5); clear hb5)
    | (go_at_call 32; with_reducible refine Calls.mono (HK.out _) ?_; rintro e w6 ⟨rfl, hb6⟩; have HP := hide (HP.out.later hb6); have HZ := hide (HZ.out.later hb6); have HB := hide (below_trans HB.out hb6); clear hb6))
  refine wp_region_held_drew (S := fun V => V.rangeAt w.heap.size 0 (bcl l)) (by kernel_rfl) ((HP.out).range) (fun hHeld => ?_)
  refine wpAnyH_take (i := 0) (v := .agg (bcl l).toArray) rfl (by kernel_rfl) (by kernel_rfl) (by kernel_rfl) (fun _ _ _ h => h) (yieldsIf_load_mid (by rfl) _ _ rfl _ _ rfl _ _ (fun V hV => hV) hu rfl hi) hHeld ?_
  try simp only [Act.put, List.getElem_toArray, List.getElem_cons_zero, List.setIfInBounds_toArray, List.set_cons_zero, List.set_cons_succ]
  refine wpAnyH_take (i := 2) (v := .agg (bcl l).toArray) rfl (by kernel_rfl) (by kernel_rfl) (by kernel_rfl) (fun _ _ _ h => h) (yieldsIf_load_mid (by rfl) _ _ rfl _ _ rfl _ _ (fun V hV => hV) hu rfl hi) hHeld ?_
  try simp only [Act.put, List.getElem_toArray, List.getElem_cons_succ, List.getElem_cons_zero, List.setIfInBounds_toArray, List.set_cons_zero, List.set_cons_succ]
  refine wpAnyH_take (i := 4) (v := .agg (bcl l).toArray) rfl (by kernel_rfl) (by kernel_rfl) (by kernel_rfl) (fun _ _ _ h => h) (yieldsIf_load_mid (by rfl) _ _ rfl _ _ rfl _ _ (fun V hV => hV) hu rfl hi) hHeld ?_
  try simp only [Act.put, List.getElem_toArray, List.getElem_cons_succ, List.getElem_cons_zero, List.setIfInBounds_toArray, List.set_cons_zero, List.set_cons_succ]
  refine wpAnyH_take (i := 5) (v := .int .i64 (i : Int)) rfl (by kernel_rfl) (by kernel_rfl) (by kernel_rfl) (fun _ _ _ h => h) (Or.inl ⟨by rfl, fun V hV => by (dsimp only at hV; go_simp)⟩) hHeld ?_
  try simp only [Act.put, List.getElem_toArray, List.getElem_cons_succ, List.getElem_cons_zero, List.setIfInBounds_toArray, List.set_cons_zero, List.set_cons_succ]
  refine wpAnyH_take (i := 7) (v := .string c) rfl (by kernel_rfl) (by kernel_rfl) (by kernel_rfl) (fun _ _ _ h => h) (Or.inl ⟨by rfl, fun V hV => by (dsimp only at hV; go_simp)⟩) hHeld ?_
  try simp only [Act.put, List.getElem_toArray, List.getElem_cons_succ, List.getElem_cons_zero, List.setIfInBounds_toArray, List.set_cons_zero, List.set_cons_succ]
  refine wpAnyH_take (i := 9) (v := .agg (bcl l).toArray) rfl (by kernel_rfl) (by kernel_rfl) (by kernel_rfl) (fun _ _ _ h => h) (yieldsIf_load_mid (by rfl) _ _ rfl _ _ rfl _ _ (fun V hV => hV) hu rfl hi) hHeld ?_
  try simp only [Act.put, List.getElem_toArray, List.getElem_cons_succ, List.getElem_cons_zero, List.setIfInBounds_toArray, List.set_cons_zero, List.set_cons_succ]
  refine wpAnyH_take (i := 10) (v := .int .i64 (i : Int)) rfl (by kernel_rfl) (by kernel_rfl) (by kernel_rfl) (fun _ _ _ h => h) (Or.inl ⟨by rfl, fun V hV => by (dsimp only at hV; go_simp)⟩) hHeld ?_
  try simp only [Act.put, List.getElem_toArray, List.getElem_cons_succ, List.getElem_cons_zero, List.setIfInBounds_toArray, List.set_cons_zero, List.set_cons_succ]
  refine wpAnyH_take (i := 11) (v := .int .i64 (byt l 1 : Int)) rfl (by kernel_rfl) (by kernel_rfl) (by kernel_rfl) (fun _ _ _ h => h) (Or.inl ⟨by rfl, fun V hV => by (dsimp only at hV; go_simp)⟩) hHeld ?_
  try simp only [Act.put, List.getElem_toArray, List.getElem_cons_succ, List.getElem_cons_zero, List.setIfInBounds_toArray, List.set_cons_zero, List.set_cons_succ]
  refine wpAnyH_ready (rs := [1]) (by kernel_rfl) (by simp) ?_
  refine AllReadyH.cons rfl (fun K hK => ?_) AllReadyH.nil
  go_simp
  go_at_call 11; with_reducible refine Calls.mono (HKd.out _) ?_; rintro e w15 ⟨rfl, hb⟩; have HX15 := hide (below_trans (Below.refl _ _).drew hb); clear hb
  go_wp2_with fail
  refine hK.out _ _ ((HP.out.later HX15.out).range) (fun hHeld => ?_)
  clear hK K
  try simp only [Act.put, List.getElem_toArray, List.getElem_cons_succ, List.getElem_cons_zero, List.setIfInBounds_toArray, List.set_cons_zero, List.set_cons_succ]
  refine wpAnyH_ready (rs := [3]) (by kernel_rfl) (by simp) ?_
  refine AllReadyH.cons rfl (fun K hK => ?_) AllReadyH.nil
  go_simp
  go_at_call 31; with_reducible refine Calls.mono (HLk.out _) ?_; rintro e w16 ⟨rfl, hb⟩; have HX16 := hide (below_trans HX15.out hb); clear hb
  go_wp2_with fail
  refine hK.out _ _ ((HP.out.later HX16.out).range) (fun hHeld => ?_)
  clear hK K
  try simp only [Act.put, List.getElem_toArray, List.getElem_cons_succ, List.getElem_cons_zero, List.setIfInBounds_toArray, List.set_cons_zero, List.set_cons_succ]
  refine wpAnyH_ready (rs := [6]) (by kernel_rfl) (by simp) ?_
  refine AllReadyH.cons rfl (fun K hK => ?_) AllReadyH.nil
  go_simp
  go_at_call 33; with_reducible refine Calls.mono (HP1.out _) ?_; rintro e w17 ⟨rfl, hb⟩; have HX17 := hide (below_trans HX16.out hb); clear hb
  go_wp2_with fail
  refine hK.out _ _ ((HP.out.later HX17.out).range) (fun hHeld => ?_)
  clear hK K
  try simp only [Act.put, List.getElem_toArray, List.getElem_cons_succ, List.getElem_cons_zero, List.setIfInBounds_toArray, List.set_cons_zero, List.set_cons_succ]
  refine wpAnyH_ready (rs := [8]) (by kernel_rfl) (by simp) ?_
  refine AllReadyH.cons rfl (fun K hK => ?_) AllReadyH.nil
  go_simp
  go_at_call 36; with_reducible refine Calls.mono (HSg.out _) ?_; rintro e w18 ⟨rfl, hb⟩; have HX18 := hide (below_trans HX17.out hb); clear hb
  go_wp2_with fail
  refine hK.out _ _ ((HP.out.later HX18.out).range) (fun hHeld => ?_)
  clear hK K
  try simp only [Act.put, List.getElem_toArray, List.getElem_cons_succ, List.getElem_cons_zero, List.setIfInBounds_toArray, List.set_cons_zero, List.set_cons_succ]
  refine wpAnyH_ready (rs := [12]) (by kernel_rfl) (by simp) ?_
  refine AllReadyH.cons rfl (fun K hK => ?_) AllReadyH.nil
  go_simp
  go_at_call 33; with_reducible refine Calls.mono (HP2.out _) ?_; rintro e w19 ⟨rfl, hb⟩; have HX19 := hide (below_trans HX18.out hb); clear hb
  go_wp2_with fail
  refine hK.out _ _ ((HP.out.later HX19.out).range) (fun hHeld => ?_)
  clear hK K
  try simp only [Act.put, List.getElem_toArray, List.getElem_cons_succ, List.getElem_cons_zero, List.setIfInBounds_toArray, List.set_cons_zero, List.set_cons_succ]
  have HX20 := hide (below_trans HX19.out (new_below w19 (.cells #[.string a0, .string b0, .string s0, .string c, .string a1, .string b1] 64) rfl))
  refine wpAnyH_ready (rs := [13]) (by kernel_rfl) (by simp) ?_
  refine AllReadyH.cons rfl (fun K hK => ?_) AllReadyH.nil
  go_simp
  refine hK.out _ _ ((HP.out.later HX20.out).range) (fun hHeld => ?_)
  clear hK K
  try simp only [Act.put, List.getElem_toArray, List.getElem_cons_succ, List.getElem_cons_zero, List.setIfInBounds_toArray, List.set_cons_zero, List.set_cons_succ]
  refine wpAnyH_ready (rs := [14]) (by kernel_rfl) (by simp) ?_
  refine AllReadyH.cons rfl (fun K hK => ?_) AllReadyH.nil
  go_simp
  go_at_call 37; with_reducible refine Calls.mono (HJ.out _) ?_; rintro e w21 ⟨rfl, hb⟩; have HX21 := hide (below_trans HX20.out hb); clear hb
  go_wp2_with fail
  refine hK.out _ _ ((HP.out.later HX21.out).range) (fun hHeld => ?_)
  clear hK K
  try simp only [Act.put, List.getElem_toArray, List.getElem_cons_succ, List.getElem_cons_zero, List.setIfInBounds_toArray, List.set_cons_zero, List.set_cons_succ]
  refine wpAnyH_take (i := 15) (v := .agg (bcl l').toArray) rfl (by kernel_rfl) (by kernel_rfl) (by kernel_rfl) (fun _ _ _ h => h) (Or.inl ⟨by rfl, fun V hV => by (dsimp only at hV; go_simp)⟩) hHeld ?_
  try simp only [Act.put, List.getElem_toArray, List.getElem_cons_succ, List.getElem_cons_zero, List.setIfInBounds_toArray, List.set_cons_zero, List.set_cons_succ]
  refine wpAnyH_take (i := 16) (v := .int .i64 x) rfl (by kernel_rfl) (by kernel_rfl) (by kernel_rfl) (fun _ _ _ h => h) (Or.inl ⟨by rfl, fun V hV => by (dsimp only at hV; go_simp)⟩) hHeld ?_
  try simp only [Act.put, List.getElem_toArray, List.getElem_cons_succ, List.getElem_cons_zero, List.setIfInBounds_toArray, List.set_cons_zero, List.set_cons_succ]
  refine wpAnyH_ready (rs := [17]) (by kernel_rfl) (by simp) ?_
  refine AllReadyH.cons rfl (fun K hK => ?_) AllReadyH.nil
  refine step_storeP HL'.out zs_length (HZ.out.later HX21.out) _ _ (by rfl) (by rfl) (by rfl) (by rfl) ?_
  intro W3 hp hb hk
  have HW3 := hide hp
  have HB3 := hide (hb _ _ (below_trans HB.out HX21.out) (by omega))
  have HPW := hide ((hk w.heap.size (by omega)).trans (HP.out.later HX21.out))
  clear hp hb hk
  refine hK.out _ _ (PAt.range HPW.out) (fun hHeld => ?_)
  clear hK K
  try simp only [Act.put, List.getElem_toArray, List.getElem_cons_succ, List.getElem_cons_zero]
  refine wpAnyH_take (i := 18) (v := .int .i64 x) rfl (by kernel_rfl) (by kernel_rfl) (by kernel_rfl) (fun _ _ _ h => h) (Or.inl ⟨by rfl, fun V hV => by (dsimp only at hV; go_simp)⟩) hHeld ?_
  try simp only [Act.put, List.getElem_toArray, List.getElem_cons_succ, List.getElem_cons_zero, List.setIfInBounds_toArray, List.set_cons_zero, List.set_cons_succ]
  refine wpAnyH_done (by kernel_rfl) ?_ _
  go_wp2_with fail
  refine ret_page2 (u := .int .i64 x) Try.results20 rfl rfl HL'.out HW3.out ?_
  exact ⟨⟨l', HTd.out.1, x, HTd.out.2, rfl⟩, HB3.out⟩

theorem setL_setL (l : List UInt8) (A B : Nat) : setL (setL l A) B = setL l B := by
  unfold setL
  apply List.ext_getElem?
  intro i
  simp only [List.getElem?_set, List.length_set]
  by_cases h2 : i = 2
  · subst h2; simp
  by_cases h3 : i = 3
  · subst h3; simp
  by_cases h4 : i = 4
  · subst h4; simp
  by_cases h5 : i = 5
  · subst h5; simp
  simp [Ne.symm h2, Ne.symm h3, Ne.symm h4, Ne.symm h5]
theorem setL_page {l : List UInt8} (hl : l.length = 256) (ho : okB l) (L : Nat) : setL l L = pageL (byt l 0) L (byt l 1) (cellS l) := by
  have h := page_is hl ho
  conv => lhs; rw [← h]
  unfold pageL
  rw [setL_setL]
set_option maxHeartbeats 2000000 in
set_option maxRecDepth 10000 in
theorem setLink_not (l : List UInt8) (hl : l.length = 256) (ho : ¬ okB l) (L : Int) (w : World) :
    Calls Try.prog 22 #[.agg (bc l), .int .u32 L] w fun e w' => e = .returned (.tuple #[.agg (bc zs), .int .i64 8]) ∧ Below w.heap.size w w' := by
  obtain ⟨hP, hZ, hB⟩ := two_pages w l
  have HC : Hid (∀ V, Calls Try.prog 10 #[.agg (bc l)] V fun e w' => e = .returned (.int .i64 8) ∧ Below V.heap.size V w') := fun V => by have := check_walk l hl V; rw [okE_no ho] at this; exact this
  have HL := hide hl
  have HP := hide hP
  have HZ := hide hZ
  have HB := hide hB
  have hz := zero_page.1
  have hbu := built_page
  clear hl ho hP hZ hB
  go_enter Try.func22, Try.ntmps22
  go_wp2_with (first
    | (refine wp_loadP HL.out HP.out _ (by rfl) (by rfl) (by rfl) ?_)
    | (go_at_call 10; with_reducible refine Calls.mono (HC.out _) ?_; rintro e w3 ⟨rfl, hb3⟩; have HZ := hide (HZ.out.later hb3); have HB := hide (below_trans HB.out hb3); clear hb3)
    | (refine wp_storeP zs_length zs_length HZ.out _ _ (by rfl) (by rfl) (by rfl) (by rfl) ?_; intro W3 hp hb hk; have HP3 := hide hp; have HB3 := hide (hb _ _ HB.out (by omega)); clear hp hb hk)
    | (exact ret_page2 Try.results22 rfl rfl zs_length HP3.out ⟨rfl, HB3.out⟩))
set_option maxHeartbeats 2000000 in
set_option maxRecDepth 10000 in
theorem setLink_ok (l : List UInt8) (hl : l.length = 256) (ho : okB l) (L : Nat) (hL : L < 4294967296) (w : World) :
    Calls Try.prog 22 #[.agg (bc l), .int .u32 (L : Int)] w fun e w' => e = .returned (.tuple #[.agg (bc (setL l L)), .int .i64 0]) ∧ Below w.heap.size w w' := by
  obtain ⟨hP, hZ, hB⟩ := two_pages w l
  have HC : Hid (∀ V, Calls Try.prog 10 #[.agg (bc l)] V fun e w' => e = .returned (.int .i64 0) ∧ Below V.heap.size V w') := fun V => by have := check_walk l hl V; rw [okE_yes ho] at this; exact this
  have HLd : Hid (∀ V, Calls Try.prog 38 #[.agg (bc l), .int .u32 (L : Int)] V fun e w' => e = .returned (.agg (bc (setL l L))) ∧ Below V.heap.size V w') := fun V => linked_walk l hl L hL V
  have HL := hide hl
  have HL' := hide (show (setL l L).length = 256 by rw [setL_length]; exact hl)
  have HP := hide hP
  have HZ := hide hZ
  have HB := hide hB
  have hz := zero_page.1
  clear hl ho hP hZ hB hL
  go_enter Try.func22, Try.ntmps22
  go_wp2_with (first
    | (refine wp_loadP HL.out HP.out _ (by rfl) (by rfl) (by rfl) ?_)
    | (go_at_call 10; with_reducible refine Calls.mono (HC.out _) ?_; rintro e w3 ⟨rfl, hb3⟩; have HP := hide (HP.out.later hb3); have HZ := hide (HZ.out.later hb3); have HB := hide (below_trans HB.out hb3); clear hb3)
    | (go_at_call 38; with_reducible refine Calls.mono (HLd.out _) ?_; rintro e w4 ⟨rfl, hb4⟩; have HZ := hide (HZ.out.later hb4); have HB := hide (below_trans HB.out hb4); clear hb4)
    | (refine wp_storeP HL'.out zs_length HZ.out _ _ (by rfl) (by rfl) (by rfl) (by rfl) ?_; intro W3 hp hb hk; have HP3 := hide hp; have HB3 := hide (hb _ _ HB.out (by omega)); clear hp hb hk)
    | (exact ret_page2 Try.results22 rfl rfl HL'.out HP3.out ⟨rfl, HB3.out⟩))
end Go.Proofs.Ythhoeabenngiiaa
