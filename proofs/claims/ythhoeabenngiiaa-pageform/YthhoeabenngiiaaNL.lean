/- A page cut in two. -/
import Derived.Test.YthhoeabenngiiaaNK
import Derived.Test.YthhoeabenngiiaaNI
namespace Go.Proofs.Ythhoeabenngiiaa
open Go.ChangeShapes Go.WideShapes Go.ChangeAt Go.RowKit
set_option linter.unusedVariables false

theorem cut_pages (w : World) (l : List UInt8) : Pg w (((w.alloc (.cells (bc l) 23)).alloc (.cells (bc zs) 23)).alloc (.cells (bc zs) 23)) [(w.heap.size + 1 + 1, pgO zs), (w.heap.size + 1, pgO zs), (w.heap.size, pgO l)] := by
  have := ((Pg.start w (pgO l)).new (pgO zs)).new (pgO zs)
  simpa using this
theorem mem0 {a : Nat × Obj} {L : List (Nat × Obj)} : a ∈ a :: L := .head _
theorem mem1 {a b : Nat × Obj} {L : List (Nat × Obj)} : a ∈ b :: a :: L := .tail _ (.head _)
theorem mem2 {a b c : Nat × Obj} {L : List (Nat × Obj)} : a ∈ c :: b :: a :: L := .tail _ (.tail _ (.head _))
theorem Pg.perm {w X : World} {L L' : List (Nat × Obj)} (h : Pg w X L) (hp : L.Perm L') : Pg w X L' where
  here := fun q hq => h.here q (hp.mem_iff.2 hq)
  nd := (hp.map _).nodup_iff.1 h.nd
  below := h.below
  base := fun q hq => h.base q (hp.mem_iff.2 hq)
theorem run_at {W : World} {g : Nat} {a b : ByteArray} (h : W.heap[g]? = some (.cells #[.string a, .string b] 64)) : RunsAt W g 0 1 (fun _ => a) (fun _ => b) := by
  intro i hi
  obtain rfl : i = 0 := by omega
  exact ⟨by rw [cell_of_row _ _ _ _ _ _ h]; rfl, by rw [cell_of_row _ _ _ _ _ _ h]; rfl⟩
theorem ret_page3 {W : World} {g g2 j j2 i : Nat} {l l2 : List UInt8} {fn : Func} (hres : fn.results = #[.cell j 23, .cell j2 23, .tmp i]) {tmps : Array Value} (ht : tmps.getD j undef = .pointer (some ⟨g, 0, none⟩)) (ht2 : tmps.getD j2 undef = .pointer (some ⟨g2, 0, none⟩)) {u : Value} (hu : tmps.getD i undef = u) (hl : l.length = 256) (hl2 : l2.length = 256)
    (hg : PAt W g l) (hg2 : PAt W g2 l2) {R : Ending → World → Prop} (h : R (.returned (.tuple #[.agg (bc l), .agg (bc l2), u])) W) : bodyPost Try.prog fn R Exit.ret { tmps := tmps, defers := [] } W := by
  have hld := run_loadVar_row (P := Try.prog) W g 23 23 (bc l) (0, 0) _ hg page_arr rfl (page_size hl)
  have hld2 := run_loadVar_row (P := Try.prog) W g2 23 23 (bc l2) (0, 0) _ hg2 page_arr rfl (page_size hl2)
  refine bodyPost_ret (v := .tuple #[.agg (bc l), .agg (bc l2), u]) ?_ rfl h
  have ht' : tmps[j]?.getD undef = .pointer (some ⟨g, 0, none⟩) := by simpa using ht
  have ht2' : tmps[j2]?.getD undef = .pointer (some ⟨g2, 0, none⟩) := by simpa using ht2
  have hu' : tmps[i]?.getD undef = u := by simpa using hu
  simp [results, hres, ht', ht2', hu', asAddr, hld, hld2]

set_option maxHeartbeats 2000000 in
set_option maxRecDepth 10000 in
theorem cut_bad (l : List UInt8) (hl : l.length = 256) (i E : Int) (hE : plE l i (cntV l : Int) = E) (h0 : E ≠ 0) (w : World) :
    Calls Try.prog 26 #[.agg (bc l), .int .i64 i] w fun e w' => e = .returned (.tuple #[.agg (bc zs), .agg (bc zs), .int .i64 E]) ∧ Below w.heap.size w w' := by
  have HM := hide (cut_pages w l)
  have HC : Hid (∀ V, Calls Try.prog 12 #[.agg (bc l)] V fun e w' => e = .returned (.int .i64 (cntV l : Int)) ∧ Below V.heap.size V w') := fun V => count_walk l hl V
  have HK : Hid (∀ V, Calls Try.prog 32 #[.agg (bc l), .int .i64 i, .int .i64 (cntV l : Int)] V fun e w' => e = .returned (.int .i64 E) ∧ Below V.heap.size V w') := fun V => by rw [← hE]; exact place_walk l hl i _ V
  have HL := hide hl
  have gE : (E == 0) = false := by simp [h0]
  have gE2 : (E != 0) = true := by simp [h0]
  have hz := zero_page.1
  have hbu := built_page
  clear hl hE
  go_enter Try.func26, Try.ntmps26
  go_wp2_with (first
    | ((with_reducible refine atL ?_); refine wp_loadP HL.out (HM.out.here (w.heap.size, pgO l) mem2) _ (by rfl) (by rfl) (by rfl) ?_)
    | (go_at_call 12; with_reducible refine Calls.mono (HC.out _) ?_; rintro e w3 ⟨rfl, hb3⟩; have HM := hide (HM.out.later hb3); clear hb3)
    | (go_at_call 32; with_reducible refine Calls.mono (HK.out _) ?_; rintro e w4 ⟨rfl, hb4⟩; have HM4 := hide (HM.out.later hb4).swap; clear hb4)
    | ((with_reducible refine atS ?_); refine wp_storeP zs_length zs_length (HM4.out.here (w.heap.size + 1, pgO zs) mem0) _ _ (by rfl) (by rfl) (by rfl) (by rfl) ?_; intro W3 hp hb hk; have HM5 := hide (HM4.out.put hp hb hk).swap; clear hp hb hk)
    | ((with_reducible refine atS ?_); refine wp_storeP zs_length zs_length (HM5.out.here (w.heap.size + 1 + 1, pgO zs) mem0) _ _ (by rfl) (by rfl) (by rfl) (by rfl) ?_; intro W4 hp hb hk; have HM6 := hide (HM5.out.put hp hb hk).swap; clear hp hb hk)
    | (exact ret_page3 Try.results26 rfl rfl rfl zs_length zs_length (HM6.out.here (w.heap.size + 1, pgO zs) mem0) (HM6.out.here (w.heap.size + 1 + 1, pgO zs) mem1) ⟨rfl, HM6.out.below⟩))

set_option maxHeartbeats 8000000 in
set_option maxRecDepth 10000 in
theorem cut_ok (l : List UInt8) (hl : l.length = 256) (ho : okB l) (i : Nat) (hic : i ≤ byt l 1) (w : World) :
    Calls Try.prog 26 #[.agg (bc l), .int .i64 (i : Int)] w fun e w' => e = .returned (.tuple #[.agg (bc (tl (byt l 0) 0 i (cellS l))), .agg (bc (tl (byt l 0) (lnk l) (byt l 1 - i) (fun t => cellS l (i + t)))), .int .i64 0]) ∧ Below w.heap.size w w' := by
  have HM := hide (cut_pages w l)
  obtain ⟨s1, s2, s3, s4⟩ := ok_small hl ho
  have hcv : cntV l = byt l 1 := if_pos ho
  have hkv : kindV l = byt l 0 := if_pos ho
  have hu := page_arr
  have hi : (Try.prog.info? 23).map (·.size) = some (bcl l).length := page_size hl
  have hst0 : stN l i ≤ 256 := Nat.le_trans (stN_mono l hic) s2
  have HC : Hid (∀ V, Calls Try.prog 12 #[.agg (bc l)] V fun e w' => e = .returned (.int .i64 (byt l 1 : Int)) ∧ Below V.heap.size V w') := fun V => by rw [← hcv]; exact count_walk l hl V
  have HK : Hid (∀ V, Calls Try.prog 32 #[.agg (bc l), .int .i64 (i : Int), .int .i64 (byt l 1 : Int)] V fun e w' => e = .returned (.int .i64 0) ∧ Below V.heap.size V w') := fun V => by
    have := place_walk l hl (i : Int) (byt l 1 : Int) V
    rw [show plE l (i : Int) (byt l 1 : Int) = 0 by unfold plE; rw [if_pos ho, if_neg (by omega)]] at this
    exact this
  have HKd : Hid (∀ V, Calls Try.prog 11 #[.agg (bcl l).toArray] V fun e w' => e = .returned (.int .u8 (byt l 0 : Int)) ∧ Below V.heap.size V w') := fun V => by rw [← hkv]; exact kind_walk l hl V
  have HLk : Hid (∀ V, Calls Try.prog 31 #[.agg (bcl l).toArray] V fun e w' => e = .returned (.int .u32 (lnk l : Int)) ∧ Below V.heap.size V w') := fun V => linkOf_walk l hl V
  have HP1 : Hid (∀ V, Calls Try.prog 33 #[.agg (bcl l).toArray, .int .i64 0, .int .i64 (i : Int)] V fun e w' => e = .returned (.agg #[.string (subS l (6 + 0) (i - 0)), .string (subS l (stN l 0) (stN l i - stN l 0))]) ∧ Below V.heap.size V w') := fun V => part_walk l hl 0 i (by omega) (by omega) hst0 V
  have HP2 : Hid (∀ V, Calls Try.prog 33 #[.agg (bcl l).toArray, .int .i64 (i : Int), .int .i64 (byt l 1 : Int)] V fun e w' => e = .returned (.agg #[.string (subS l (6 + i) (byt l 1 - i)), .string (subS l (stN l i) (stN l (byt l 1) - stN l i))]) ∧ Below V.heap.size V w') := fun V => part_walk l hl i (byt l 1) hic (by omega) s2 V
  have hA := piece_lens hl (i := 0) (j := i) (by omega) (by omega) hst0
  have hB1 := piece_bytes (l := l) (i := 0) (j := i) (by omega)
  have hA2 := piece_lens hl (i := i) (j := byt l 1) hic (by omega) s2
  have hB2 := piece_bytes (l := l) (i := i) (j := byt l 1) hic
  obtain ⟨a0, ha0⟩ : ∃ s, subS l (6 + 0) (i - 0) = s := ⟨_, rfl⟩
  obtain ⟨b0, hb0⟩ : ∃ s, subS l (stN l 0) (stN l i - stN l 0) = s := ⟨_, rfl⟩
  obtain ⟨a1, ha1⟩ : ∃ s, subS l (6 + i) (byt l 1 - i) = s := ⟨_, rfl⟩
  obtain ⟨b1, hb1⟩ : ∃ s, subS l (stN l i) (stN l (byt l 1) - stN l i) = s := ⟨_, rfl⟩
  rw [ha0] at hA HP1
  rw [hb0] at hB1 HP1
  rw [ha1] at hA2 HP2
  rw [hb1] at hB2 HP2
  simp only [Nat.zero_add, Nat.sub_zero] at hA hB1
  obtain ⟨l1, x1, hl1, ht1, hj1⟩ := joined_told (byt l 0) 0 s3 (by omega) 1 (fun _ => a0) (fun _ => b0) i (cellS l) ((cat_one1 a0).trans hA) ((cat_one1 b0).trans hB1) (by have : (cat (cellS l) i).length ≤ 256 := cat_le0 hl i; omega) (by omega)
  obtain ⟨l2, x2, hl2, ht2, hj2⟩ := joined_told (byt l 0) (lnk l) s3 s4 1 (fun _ => a1) (fun _ => b1) (byt l 1 - i) (fun t => cellS l (i + t)) ((cat_one1 a1).trans hA2) ((cat_one1 b1).trans hB2) (by have := cat_le hl (byt l 1 - i) i; omega) (by omega)
  rw [← ht1.eq.1, ← ht2.eq.1]
  have HJ1 : Hid (∀ (V : World) (b : Nat), V.heap[b]? = some (.cells #[.string a0, .string b0] 64) → Calls Try.prog 37 #[.int .u8 (byt l 0 : Int), .int .u32 0, .slice (some ⟨b, 0, none⟩) 1 1] V fun e' w' => e' = .returned (.tuple #[.agg (bcl l1).toArray, .int .i64 x1]) ∧ Below V.heap.size V w') := fun V b h => hj1 b 0 1 V (run_at h)
  have HJ2 : Hid (∀ (V : World) (b : Nat), V.heap[b]? = some (.cells #[.string a1, .string b1] 64) → Calls Try.prog 37 #[.int .u8 (byt l 0 : Int), .int .u32 (lnk l : Int), .slice (some ⟨b, 0, none⟩) 1 1] V fun e' w' => e' = .returned (.tuple #[.agg (bcl l2).toArray, .int .i64 x2]) ∧ Below V.heap.size V w') := fun V b h => hj2 b 0 1 V (run_at h)
  have hi1 : (Try.prog.info? 23).map (·.size) = some (bcl l1).length := page_size hl1
  have hi2 : (Try.prog.info? 23).map (·.size) = some (bcl l2).length := page_size hl2
  have HL := hide hl
  have HL1 := hide hl1
  have HL2 := hide hl2
  have hz := zero_page.1
  clear hl hj1 hj2 ht1 ht2 hA hB1 hA2 hB2 ha0 hb0 ha1 hb1 hst0 hcv hkv s1 s2 s3 s4 ho hic hl1 hl2
  go_enter Try.func26, Try.ntmps26
  go_upto_region 5 with (first
    | ((with_reducible refine atL ?_); refine wp_loadP HL.out (HM.out.here (w.heap.size, pgO l) mem2) _ (by rfl) (by rfl) (by rfl) ?_)
    | (go_at_call 12; with_reducible refine Calls.mono (HC.out _) ?_; rintro e w3 ⟨rfl, hb3⟩; have HM := hide (HM.out.later hb3); clear hb3)
    | (go_at_call 32; with_reducible refine Calls.mono (HK.out _) ?_; rintro e w4 ⟨rfl, hb4⟩; have HM := hide (HM.out.later hb4); clear hb4))
  go_cut [9, 10] from 24 to 33 (fun v9 v10 V => ∃ g, v9 = .pointer (some ⟨g, 0, none⟩) ∧ v10 = .int .i64 x1 ∧ Pg w V [(g, pgO l1), (w.heap.size + 1 + 1, pgO zs), (w.heap.size + 1, pgO zs), (w.heap.size, pgO l)])
  case first =>
    have HMd := HM.out.later (Below.refl _ w4).drew
    refine wp_region_held_drew (S := fun V => V.rangeAt w.heap.size 0 (bcl l)) (by kernel_rfl) (PAt.range (HMd.here (w.heap.size, pgO l) (List.mem_cons_of_mem _ (List.mem_cons_of_mem _ (List.mem_cons_self ..))))) ?_
    generalize World.drew w4 = V0 at HMd ⊢
    intro hHeld
    have HM := hide HMd
    clear HMd
    refine wpAnyH_take (i := 0) (v := .agg (bcl l).toArray) rfl (by kernel_rfl) (by kernel_rfl) (by kernel_rfl) (fun _ _ _ h => h) (yieldsIf_load_mid (by rfl) _ _ rfl _ _ rfl _ _ (fun V hV => hV) hu rfl hi) hHeld ?_
    try simp only [Act.put, List.getElem_toArray, List.getElem_cons_zero, List.setIfInBounds_toArray, List.set_cons_zero, List.set_cons_succ]
    refine wpAnyH_take (i := 2) (v := .agg (bcl l).toArray) rfl (by kernel_rfl) (by kernel_rfl) (by kernel_rfl) (fun _ _ _ h => h) (yieldsIf_load_mid (by rfl) _ _ rfl _ _ rfl _ _ (fun V hV => hV) hu rfl hi) hHeld ?_
    try simp only [Act.put, List.getElem_toArray, List.getElem_cons_succ, List.getElem_cons_zero, List.setIfInBounds_toArray, List.set_cons_zero, List.set_cons_succ]
    refine wpAnyH_take (i := 3) (v := .int .i64 (i : Int)) rfl (by kernel_rfl) (by kernel_rfl) (by kernel_rfl) (fun _ _ _ h => h) (Or.inl ⟨by rfl, fun V hV => by (dsimp only at hV; go_simp)⟩) hHeld ?_
    try simp only [Act.put, List.getElem_toArray, List.getElem_cons_succ, List.getElem_cons_zero, List.setIfInBounds_toArray, List.set_cons_zero, List.set_cons_succ]
    refine wpAnyH_ready (rs := [1, 10]) (by kernel_rfl) (by simp) ?_
    refine AllReadyH.cons rfl (fun K hK => ?_) (AllReadyH.cons rfl (fun K hK => ?_) AllReadyH.nil)
    · go_simp
      go_at_call 11; with_reducible refine Calls.mono (HKd.out _) ?_; rintro e Va1 ⟨rfl, hb5⟩; have HM := hide (HM.out.later hb5); clear hb5
      go_wp2_with fail
      refine hK.out _ _ (PAt.range (HM.out.here (w.heap.size, pgO l) (List.mem_cons_of_mem _ (List.mem_cons_of_mem _ (List.mem_cons_self ..))))) (fun hHeld => ?_)
      clear hK K
      try simp only [Act.put, List.getElem_toArray, List.getElem_cons_succ, List.getElem_cons_zero, List.setIfInBounds_toArray, List.set_cons_zero, List.set_cons_succ]
      refine wpAnyH_ready (rs := [4, 10]) (by kernel_rfl) (by simp) ?_
      refine AllReadyH.cons rfl (fun K hK => ?_) (AllReadyH.cons rfl (fun K hK => ?_) AllReadyH.nil)
      · go_simp
        go_at_call 33; with_reducible refine Calls.mono (HP1.out _) ?_; rintro e Va2 ⟨rfl, hb5⟩; have HM := hide (HM.out.later hb5); clear hb5
        go_wp2_with fail
        refine hK.out _ _ (PAt.range (HM.out.here (w.heap.size, pgO l) (List.mem_cons_of_mem _ (List.mem_cons_of_mem _ (List.mem_cons_self ..))))) (fun hHeld => ?_)
        clear hK K
        try simp only [Act.put, List.getElem_toArray, List.getElem_cons_succ, List.getElem_cons_zero, List.setIfInBounds_toArray, List.set_cons_zero, List.set_cons_succ]
        refine wpAnyH_ready (rs := [5, 10]) (by kernel_rfl) (by simp) ?_
        refine AllReadyH.cons rfl (fun K hK => ?_) (AllReadyH.cons rfl (fun K hK => ?_) AllReadyH.nil)
        · have HMn := HM.out.new (.cells #[.string a0, .string b0] 64)
          go_simp
          refine hK.out _ _ (PAt.range (HMn.here (w.heap.size, pgO l) (List.mem_cons_of_mem _ (List.mem_cons_of_mem _ (List.mem_cons_of_mem _ (List.mem_cons_self ..)))))) ?_
          clear hK K
          try simp only [Act.put, List.getElem_toArray, List.getElem_cons_succ, List.getElem_cons_zero, List.setIfInBounds_toArray, List.set_cons_zero, List.set_cons_succ]
          generalize World.alloc Va2 (Obj.cells #[.string a0, .string b0] 64) = Va3 at HMn ⊢
          intro hHeld
          have HM := hide HMn
          clear HMn
          refine wpAnyH_ready (rs := [6, 10]) (by kernel_rfl) (by simp) ?_
          refine AllReadyH.cons rfl (fun K hK => ?_) (AllReadyH.cons rfl (fun K hK => ?_) AllReadyH.nil)
          · go_simp
            go_at_call 37; with_reducible refine Calls.mono (HJ1.out _ _ (HM.out.here (Va2.heap.size, .cells #[.string a0, .string b0] 64) (List.mem_cons_self ..))) ?_; rintro e Va4 ⟨rfl, hb5⟩; have HM := hide (HM.out.later hb5); clear hb5
            go_wp2_with fail
            refine hK.out _ _ (PAt.range (HM.out.here (w.heap.size, pgO l) (List.mem_cons_of_mem _ (List.mem_cons_of_mem _ (List.mem_cons_of_mem _ (List.mem_cons_self ..)))))) (fun hHeld => ?_)
            clear hK K
            try simp only [Act.put, List.getElem_toArray, List.getElem_cons_succ, List.getElem_cons_zero, List.setIfInBounds_toArray, List.set_cons_zero, List.set_cons_succ]
            refine wpAnyH_take (i := 7) (v := .tuple #[.agg (bcl l1).toArray, .int .i64 x1]) rfl (by kernel_rfl) (by kernel_rfl) (by kernel_rfl) (fun _ _ _ h => h) (Or.inl ⟨by rfl, fun V hV => by (dsimp only at hV; go_simp)⟩) hHeld ?_
            try simp only [Act.put, List.getElem_toArray, List.getElem_cons_succ, List.getElem_cons_zero, List.setIfInBounds_toArray, List.set_cons_zero, List.set_cons_succ]
            refine wpAnyH_take (i := 8) (v := .agg (bcl l1).toArray) rfl (by kernel_rfl) (by kernel_rfl) (by kernel_rfl) (fun _ _ _ h => h) (Or.inl ⟨by rfl, fun V hV => by (dsimp only at hV; go_simp)⟩) hHeld ?_
            try simp only [Act.put, List.getElem_toArray, List.getElem_cons_succ, List.getElem_cons_zero, List.setIfInBounds_toArray, List.set_cons_zero, List.set_cons_succ]
            refine wpAnyH_take (i := 9) (v := .int .i64 x1) rfl (by kernel_rfl) (by kernel_rfl) (by kernel_rfl) (fun _ _ _ h => h) (Or.inl ⟨by rfl, fun V hV => by (dsimp only at hV; go_simp)⟩) hHeld ?_
            try simp only [Act.put, List.getElem_toArray, List.getElem_cons_succ, List.getElem_cons_zero, List.setIfInBounds_toArray, List.set_cons_zero, List.set_cons_succ]
            refine wpAnyH_ready (rs := [10]) (by kernel_rfl) (by simp) ?_
            refine AllReadyH.cons rfl (fun K hK => ?_) AllReadyH.nil
            have HMn := HM.out.new (.cells (bc zs) 23)
            go_simp
            refine hK.out _ _ (PAt.range (HMn.here (w.heap.size, pgO l) (List.mem_cons_of_mem _ (List.mem_cons_of_mem _ (List.mem_cons_of_mem _ (List.mem_cons_of_mem _ (List.mem_cons_self ..))))))) ?_
            clear hK K
            try simp only [Act.put, List.getElem_toArray, List.getElem_cons_succ, List.getElem_cons_zero, List.setIfInBounds_toArray, List.set_cons_zero, List.set_cons_succ]
            generalize World.alloc Va4 (Obj.cells (bc zs) 23) = Va5 at HMn ⊢
            intro hHeld
            have HM := hide HMn
            clear HMn
            have HMs := HM.out.sub (.cons_cons _ (.cons _ (.cons_cons _ (.cons_cons _ (.cons_cons _ .slnil)))))
            refine wpAnyH_ready (rs := [11]) (by kernel_rfl) (by simp) ?_
            refine AllReadyH.cons rfl (fun K hK => ?_) AllReadyH.nil
            refine step_storeP HL1.out zs_length (HMs.here (_, pgO zs) (.head _)) _ _ (by rfl) (by rfl) (by rfl) (by rfl) ?_
            intro Va6 hp hb hk
            have HM := hide (HMs.put hp hb hk)
            clear hp hb hk HMs
            refine hK.out _ _ (PAt.range (HM.out.here (w.heap.size, pgO l) (List.mem_cons_of_mem _ (List.mem_cons_of_mem _ (List.mem_cons_of_mem _ (List.mem_cons_self ..)))))) (fun hHeld => ?_)
            clear hK K
            try simp only [Act.put, List.getElem_toArray, List.getElem_cons_succ, List.getElem_cons_zero]
            refine wpAnyH_take (i := 12) (v := .int .i64 x1) rfl (by kernel_rfl) (by kernel_rfl) (by kernel_rfl) (fun _ _ _ h => h) (Or.inl ⟨by rfl, fun V hV => by (dsimp only at hV; go_simp)⟩) hHeld ?_
            try simp only [Act.put, List.getElem_toArray, List.getElem_cons_succ, List.getElem_cons_zero, List.setIfInBounds_toArray, List.set_cons_zero, List.set_cons_succ]
            refine wpAnyH_done (by kernel_rfl) ?_ _
            go_wp2_with fail
            go_meet
            exact ⟨_, rfl, rfl, HM.out⟩
          · have HMn := HM.out.new (.cells (bc zs) 23)
            go_simp
            refine hK.out _ _ (PAt.range (HMn.here (w.heap.size, pgO l) (List.mem_cons_of_mem _ (List.mem_cons_of_mem _ (List.mem_cons_of_mem _ (List.mem_cons_of_mem _ (List.mem_cons_self ..))))))) ?_
            clear hK K
            try simp only [Act.put, List.getElem_toArray, List.getElem_cons_succ, List.getElem_cons_zero, List.setIfInBounds_toArray, List.set_cons_zero, List.set_cons_succ]
            generalize World.alloc Va3 (Obj.cells (bc zs) 23) = Va7 at HMn ⊢
            intro hHeld
            have HM := hide HMn
            clear HMn
            refine wpAnyH_ready (rs := [6]) (by kernel_rfl) (by simp) ?_
            refine AllReadyH.cons rfl (fun K hK => ?_) AllReadyH.nil
            go_simp
            go_at_call 37; with_reducible refine Calls.mono (HJ1.out _ _ (HM.out.here (Va2.heap.size, .cells #[.string a0, .string b0] 64) (List.mem_cons_of_mem _ (List.mem_cons_self ..)))) ?_; rintro e Va8 ⟨rfl, hb5⟩; have HM := hide (HM.out.later hb5); clear hb5
            go_wp2_with fail
            refine hK.out _ _ (PAt.range (HM.out.here (w.heap.size, pgO l) (List.mem_cons_of_mem _ (List.mem_cons_of_mem _ (List.mem_cons_of_mem _ (List.mem_cons_of_mem _ (List.mem_cons_self ..))))))) (fun hHeld => ?_)
            clear hK K
            try simp only [Act.put, List.getElem_toArray, List.getElem_cons_succ, List.getElem_cons_zero, List.setIfInBounds_toArray, List.set_cons_zero, List.set_cons_succ]
            refine wpAnyH_take (i := 7) (v := .tuple #[.agg (bcl l1).toArray, .int .i64 x1]) rfl (by kernel_rfl) (by kernel_rfl) (by kernel_rfl) (fun _ _ _ h => h) (Or.inl ⟨by rfl, fun V hV => by (dsimp only at hV; go_simp)⟩) hHeld ?_
            try simp only [Act.put, List.getElem_toArray, List.getElem_cons_succ, List.getElem_cons_zero, List.setIfInBounds_toArray, List.set_cons_zero, List.set_cons_succ]
            refine wpAnyH_take (i := 8) (v := .agg (bcl l1).toArray) rfl (by kernel_rfl) (by kernel_rfl) (by kernel_rfl) (fun _ _ _ h => h) (Or.inl ⟨by rfl, fun V hV => by (dsimp only at hV; go_simp)⟩) hHeld ?_
            try simp only [Act.put, List.getElem_toArray, List.getElem_cons_succ, List.getElem_cons_zero, List.setIfInBounds_toArray, List.set_cons_zero, List.set_cons_succ]
            refine wpAnyH_take (i := 9) (v := .int .i64 x1) rfl (by kernel_rfl) (by kernel_rfl) (by kernel_rfl) (fun _ _ _ h => h) (Or.inl ⟨by rfl, fun V hV => by (dsimp only at hV; go_simp)⟩) hHeld ?_
            try simp only [Act.put, List.getElem_toArray, List.getElem_cons_succ, List.getElem_cons_zero, List.setIfInBounds_toArray, List.set_cons_zero, List.set_cons_succ]
            have HMs := HM.out.sub (.cons_cons _ (.cons _ (.cons_cons _ (.cons_cons _ (.cons_cons _ .slnil)))))
            refine wpAnyH_ready (rs := [11]) (by kernel_rfl) (by simp) ?_
            refine AllReadyH.cons rfl (fun K hK => ?_) AllReadyH.nil
            refine step_storeP HL1.out zs_length (HMs.here (_, pgO zs) (.head _)) _ _ (by rfl) (by rfl) (by rfl) (by rfl) ?_
            intro Va9 hp hb hk
            have HM := hide (HMs.put hp hb hk)
            clear hp hb hk HMs
            refine hK.out _ _ (PAt.range (HM.out.here (w.heap.size, pgO l) (List.mem_cons_of_mem _ (List.mem_cons_of_mem _ (List.mem_cons_of_mem _ (List.mem_cons_self ..)))))) (fun hHeld => ?_)
            clear hK K
            try simp only [Act.put, List.getElem_toArray, List.getElem_cons_succ, List.getElem_cons_zero]
            refine wpAnyH_take (i := 12) (v := .int .i64 x1) rfl (by kernel_rfl) (by kernel_rfl) (by kernel_rfl) (fun _ _ _ h => h) (Or.inl ⟨by rfl, fun V hV => by (dsimp only at hV; go_simp)⟩) hHeld ?_
            try simp only [Act.put, List.getElem_toArray, List.getElem_cons_succ, List.getElem_cons_zero, List.setIfInBounds_toArray, List.set_cons_zero, List.set_cons_succ]
            refine wpAnyH_done (by kernel_rfl) ?_ _
            go_wp2_with fail
            go_meet
            exact ⟨_, rfl, rfl, HM.out⟩
        · have HMn := HM.out.new (.cells (bc zs) 23)
          go_simp
          refine hK.out _ _ (PAt.range (HMn.here (w.heap.size, pgO l) (List.mem_cons_of_mem _ (List.mem_cons_of_mem _ (List.mem_cons_of_mem _ (List.mem_cons_self ..)))))) ?_
          clear hK K
          try simp only [Act.put, List.getElem_toArray, List.getElem_cons_succ, List.getElem_cons_zero, List.setIfInBounds_toArray, List.set_cons_zero, List.set_cons_succ]
          generalize World.alloc Va2 (Obj.cells (bc zs) 23) = Va10 at HMn ⊢
          intro hHeld
          have HM := hide HMn
          clear HMn
          refine wpAnyH_ready (rs := [5]) (by kernel_rfl) (by simp) ?_
          refine AllReadyH.cons rfl (fun K hK => ?_) AllReadyH.nil
          have HMn := HM.out.new (.cells #[.string a0, .string b0] 64)
          go_simp
          refine hK.out _ _ (PAt.range (HMn.here (w.heap.size, pgO l) (List.mem_cons_of_mem _ (List.mem_cons_of_mem _ (List.mem_cons_of_mem _ (List.mem_cons_of_mem _ (List.mem_cons_self ..))))))) ?_
          clear hK K
          try simp only [Act.put, List.getElem_toArray, List.getElem_cons_succ, List.getElem_cons_zero, List.setIfInBounds_toArray, List.set_cons_zero, List.set_cons_succ]
          generalize World.alloc Va10 (Obj.cells #[.string a0, .string b0] 64) = Va11 at HMn ⊢
          intro hHeld
          have HM := hide HMn
          clear HMn
          refine wpAnyH_ready (rs := [6]) (by kernel_rfl) (by simp) ?_
          refine AllReadyH.cons rfl (fun K hK => ?_) AllReadyH.nil
          go_simp
          go_at_call 37; with_reducible refine Calls.mono (HJ1.out _ _ (HM.out.here (Va10.heap.size, .cells #[.string a0, .string b0] 64) (List.mem_cons_self ..))) ?_; rintro e Va12 ⟨rfl, hb5⟩; have HM := hide (HM.out.later hb5); clear hb5
          go_wp2_with fail
          refine hK.out _ _ (PAt.range (HM.out.here (w.heap.size, pgO l) (List.mem_cons_of_mem _ (List.mem_cons_of_mem _ (List.mem_cons_of_mem _ (List.mem_cons_of_mem _ (List.mem_cons_self ..))))))) (fun hHeld => ?_)
          clear hK K
          try simp only [Act.put, List.getElem_toArray, List.getElem_cons_succ, List.getElem_cons_zero, List.setIfInBounds_toArray, List.set_cons_zero, List.set_cons_succ]
          refine wpAnyH_take (i := 7) (v := .tuple #[.agg (bcl l1).toArray, .int .i64 x1]) rfl (by kernel_rfl) (by kernel_rfl) (by kernel_rfl) (fun _ _ _ h => h) (Or.inl ⟨by rfl, fun V hV => by (dsimp only at hV; go_simp)⟩) hHeld ?_
          try simp only [Act.put, List.getElem_toArray, List.getElem_cons_succ, List.getElem_cons_zero, List.setIfInBounds_toArray, List.set_cons_zero, List.set_cons_succ]
          refine wpAnyH_take (i := 8) (v := .agg (bcl l1).toArray) rfl (by kernel_rfl) (by kernel_rfl) (by kernel_rfl) (fun _ _ _ h => h) (Or.inl ⟨by rfl, fun V hV => by (dsimp only at hV; go_simp)⟩) hHeld ?_
          try simp only [Act.put, List.getElem_toArray, List.getElem_cons_succ, List.getElem_cons_zero, List.setIfInBounds_toArray, List.set_cons_zero, List.set_cons_succ]
          refine wpAnyH_take (i := 9) (v := .int .i64 x1) rfl (by kernel_rfl) (by kernel_rfl) (by kernel_rfl) (fun _ _ _ h => h) (Or.inl ⟨by rfl, fun V hV => by (dsimp only at hV; go_simp)⟩) hHeld ?_
          try simp only [Act.put, List.getElem_toArray, List.getElem_cons_succ, List.getElem_cons_zero, List.setIfInBounds_toArray, List.set_cons_zero, List.set_cons_succ]
          have HMs := HM.out.sub (.cons _ (.cons_cons _ (.cons_cons _ (.cons_cons _ (.cons_cons _ .slnil)))))
          refine wpAnyH_ready (rs := [11]) (by kernel_rfl) (by simp) ?_
          refine AllReadyH.cons rfl (fun K hK => ?_) AllReadyH.nil
          refine step_storeP HL1.out zs_length (HMs.here (_, pgO zs) (.head _)) _ _ (by rfl) (by rfl) (by rfl) (by rfl) ?_
          intro Va13 hp hb hk
          have HM := hide (HMs.put hp hb hk)
          clear hp hb hk HMs
          refine hK.out _ _ (PAt.range (HM.out.here (w.heap.size, pgO l) (List.mem_cons_of_mem _ (List.mem_cons_of_mem _ (List.mem_cons_of_mem _ (List.mem_cons_self ..)))))) (fun hHeld => ?_)
          clear hK K
          try simp only [Act.put, List.getElem_toArray, List.getElem_cons_succ, List.getElem_cons_zero]
          refine wpAnyH_take (i := 12) (v := .int .i64 x1) rfl (by kernel_rfl) (by kernel_rfl) (by kernel_rfl) (fun _ _ _ h => h) (Or.inl ⟨by rfl, fun V hV => by (dsimp only at hV; go_simp)⟩) hHeld ?_
          try simp only [Act.put, List.getElem_toArray, List.getElem_cons_succ, List.getElem_cons_zero, List.setIfInBounds_toArray, List.set_cons_zero, List.set_cons_succ]
          refine wpAnyH_done (by kernel_rfl) ?_ _
          go_wp2_with fail
          go_meet
          exact ⟨_, rfl, rfl, HM.out⟩
      · have HMn := HM.out.new (.cells (bc zs) 23)
        go_simp
        refine hK.out _ _ (PAt.range (HMn.here (w.heap.size, pgO l) (List.mem_cons_of_mem _ (List.mem_cons_of_mem _ (List.mem_cons_of_mem _ (List.mem_cons_self ..)))))) ?_
        clear hK K
        try simp only [Act.put, List.getElem_toArray, List.getElem_cons_succ, List.getElem_cons_zero, List.setIfInBounds_toArray, List.set_cons_zero, List.set_cons_succ]
        generalize World.alloc Va1 (Obj.cells (bc zs) 23) = Va14 at HMn ⊢
        intro hHeld
        have HM := hide HMn
        clear HMn
        refine wpAnyH_ready (rs := [4]) (by kernel_rfl) (by simp) ?_
        refine AllReadyH.cons rfl (fun K hK => ?_) AllReadyH.nil
        go_simp
        go_at_call 33; with_reducible refine Calls.mono (HP1.out _) ?_; rintro e Va15 ⟨rfl, hb5⟩; have HM := hide (HM.out.later hb5); clear hb5
        go_wp2_with fail
        refine hK.out _ _ (PAt.range (HM.out.here (w.heap.size, pgO l) (List.mem_cons_of_mem _ (List.mem_cons_of_mem _ (List.mem_cons_of_mem _ (List.mem_cons_self ..)))))) (fun hHeld => ?_)
        clear hK K
        try simp only [Act.put, List.getElem_toArray, List.getElem_cons_succ, List.getElem_cons_zero, List.setIfInBounds_toArray, List.set_cons_zero, List.set_cons_succ]
        refine wpAnyH_ready (rs := [5]) (by kernel_rfl) (by simp) ?_
        refine AllReadyH.cons rfl (fun K hK => ?_) AllReadyH.nil
        have HMn := HM.out.new (.cells #[.string a0, .string b0] 64)
        go_simp
        refine hK.out _ _ (PAt.range (HMn.here (w.heap.size, pgO l) (List.mem_cons_of_mem _ (List.mem_cons_of_mem _ (List.mem_cons_of_mem _ (List.mem_cons_of_mem _ (List.mem_cons_self ..))))))) ?_
        clear hK K
        try simp only [Act.put, List.getElem_toArray, List.getElem_cons_succ, List.getElem_cons_zero, List.setIfInBounds_toArray, List.set_cons_zero, List.set_cons_succ]
        generalize World.alloc Va15 (Obj.cells #[.string a0, .string b0] 64) = Va16 at HMn ⊢
        intro hHeld
        have HM := hide HMn
        clear HMn
        refine wpAnyH_ready (rs := [6]) (by kernel_rfl) (by simp) ?_
        refine AllReadyH.cons rfl (fun K hK => ?_) AllReadyH.nil
        go_simp
        go_at_call 37; with_reducible refine Calls.mono (HJ1.out _ _ (HM.out.here (Va15.heap.size, .cells #[.string a0, .string b0] 64) (List.mem_cons_self ..))) ?_; rintro e Va17 ⟨rfl, hb5⟩; have HM := hide (HM.out.later hb5); clear hb5
        go_wp2_with fail
        refine hK.out _ _ (PAt.range (HM.out.here (w.heap.size, pgO l) (List.mem_cons_of_mem _ (List.mem_cons_of_mem _ (List.mem_cons_of_mem _ (List.mem_cons_of_mem _ (List.mem_cons_self ..))))))) (fun hHeld => ?_)
        clear hK K
        try simp only [Act.put, List.getElem_toArray, List.getElem_cons_succ, List.getElem_cons_zero, List.setIfInBounds_toArray, List.set_cons_zero, List.set_cons_succ]
        refine wpAnyH_take (i := 7) (v := .tuple #[.agg (bcl l1).toArray, .int .i64 x1]) rfl (by kernel_rfl) (by kernel_rfl) (by kernel_rfl) (fun _ _ _ h => h) (Or.inl ⟨by rfl, fun V hV => by (dsimp only at hV; go_simp)⟩) hHeld ?_
        try simp only [Act.put, List.getElem_toArray, List.getElem_cons_succ, List.getElem_cons_zero, List.setIfInBounds_toArray, List.set_cons_zero, List.set_cons_succ]
        refine wpAnyH_take (i := 8) (v := .agg (bcl l1).toArray) rfl (by kernel_rfl) (by kernel_rfl) (by kernel_rfl) (fun _ _ _ h => h) (Or.inl ⟨by rfl, fun V hV => by (dsimp only at hV; go_simp)⟩) hHeld ?_
        try simp only [Act.put, List.getElem_toArray, List.getElem_cons_succ, List.getElem_cons_zero, List.setIfInBounds_toArray, List.set_cons_zero, List.set_cons_succ]
        refine wpAnyH_take (i := 9) (v := .int .i64 x1) rfl (by kernel_rfl) (by kernel_rfl) (by kernel_rfl) (fun _ _ _ h => h) (Or.inl ⟨by rfl, fun V hV => by (dsimp only at hV; go_simp)⟩) hHeld ?_
        try simp only [Act.put, List.getElem_toArray, List.getElem_cons_succ, List.getElem_cons_zero, List.setIfInBounds_toArray, List.set_cons_zero, List.set_cons_succ]
        have HMs := HM.out.sub (.cons _ (.cons_cons _ (.cons_cons _ (.cons_cons _ (.cons_cons _ .slnil)))))
        refine wpAnyH_ready (rs := [11]) (by kernel_rfl) (by simp) ?_
        refine AllReadyH.cons rfl (fun K hK => ?_) AllReadyH.nil
        refine step_storeP HL1.out zs_length (HMs.here (_, pgO zs) (.head _)) _ _ (by rfl) (by rfl) (by rfl) (by rfl) ?_
        intro Va18 hp hb hk
        have HM := hide (HMs.put hp hb hk)
        clear hp hb hk HMs
        refine hK.out _ _ (PAt.range (HM.out.here (w.heap.size, pgO l) (List.mem_cons_of_mem _ (List.mem_cons_of_mem _ (List.mem_cons_of_mem _ (List.mem_cons_self ..)))))) (fun hHeld => ?_)
        clear hK K
        try simp only [Act.put, List.getElem_toArray, List.getElem_cons_succ, List.getElem_cons_zero]
        refine wpAnyH_take (i := 12) (v := .int .i64 x1) rfl (by kernel_rfl) (by kernel_rfl) (by kernel_rfl) (fun _ _ _ h => h) (Or.inl ⟨by rfl, fun V hV => by (dsimp only at hV; go_simp)⟩) hHeld ?_
        try simp only [Act.put, List.getElem_toArray, List.getElem_cons_succ, List.getElem_cons_zero, List.setIfInBounds_toArray, List.set_cons_zero, List.set_cons_succ]
        refine wpAnyH_done (by kernel_rfl) ?_ _
        go_wp2_with fail
        go_meet
        exact ⟨_, rfl, rfl, HM.out⟩
    · have HMn := HM.out.new (.cells (bc zs) 23)
      go_simp
      refine hK.out _ _ (PAt.range (HMn.here (w.heap.size, pgO l) (List.mem_cons_of_mem _ (List.mem_cons_of_mem _ (List.mem_cons_of_mem _ (List.mem_cons_self ..)))))) ?_
      clear hK K
      try simp only [Act.put, List.getElem_toArray, List.getElem_cons_succ, List.getElem_cons_zero, List.setIfInBounds_toArray, List.set_cons_zero, List.set_cons_succ]
      generalize World.alloc V0 (Obj.cells (bc zs) 23) = Va19 at HMn ⊢
      intro hHeld
      have HM := hide HMn
      clear HMn
      refine wpAnyH_ready (rs := [1]) (by kernel_rfl) (by simp) ?_
      refine AllReadyH.cons rfl (fun K hK => ?_) AllReadyH.nil
      go_simp
      go_at_call 11; with_reducible refine Calls.mono (HKd.out _) ?_; rintro e Va20 ⟨rfl, hb5⟩; have HM := hide (HM.out.later hb5); clear hb5
      go_wp2_with fail
      refine hK.out _ _ (PAt.range (HM.out.here (w.heap.size, pgO l) (List.mem_cons_of_mem _ (List.mem_cons_of_mem _ (List.mem_cons_of_mem _ (List.mem_cons_self ..)))))) (fun hHeld => ?_)
      clear hK K
      try simp only [Act.put, List.getElem_toArray, List.getElem_cons_succ, List.getElem_cons_zero, List.setIfInBounds_toArray, List.set_cons_zero, List.set_cons_succ]
      refine wpAnyH_ready (rs := [4]) (by kernel_rfl) (by simp) ?_
      refine AllReadyH.cons rfl (fun K hK => ?_) AllReadyH.nil
      go_simp
      go_at_call 33; with_reducible refine Calls.mono (HP1.out _) ?_; rintro e Va21 ⟨rfl, hb5⟩; have HM := hide (HM.out.later hb5); clear hb5
      go_wp2_with fail
      refine hK.out _ _ (PAt.range (HM.out.here (w.heap.size, pgO l) (List.mem_cons_of_mem _ (List.mem_cons_of_mem _ (List.mem_cons_of_mem _ (List.mem_cons_self ..)))))) (fun hHeld => ?_)
      clear hK K
      try simp only [Act.put, List.getElem_toArray, List.getElem_cons_succ, List.getElem_cons_zero, List.setIfInBounds_toArray, List.set_cons_zero, List.set_cons_succ]
      refine wpAnyH_ready (rs := [5]) (by kernel_rfl) (by simp) ?_
      refine AllReadyH.cons rfl (fun K hK => ?_) AllReadyH.nil
      have HMn := HM.out.new (.cells #[.string a0, .string b0] 64)
      go_simp
      refine hK.out _ _ (PAt.range (HMn.here (w.heap.size, pgO l) (List.mem_cons_of_mem _ (List.mem_cons_of_mem _ (List.mem_cons_of_mem _ (List.mem_cons_of_mem _ (List.mem_cons_self ..))))))) ?_
      clear hK K
      try simp only [Act.put, List.getElem_toArray, List.getElem_cons_succ, List.getElem_cons_zero, List.setIfInBounds_toArray, List.set_cons_zero, List.set_cons_succ]
      generalize World.alloc Va21 (Obj.cells #[.string a0, .string b0] 64) = Va22 at HMn ⊢
      intro hHeld
      have HM := hide HMn
      clear HMn
      refine wpAnyH_ready (rs := [6]) (by kernel_rfl) (by simp) ?_
      refine AllReadyH.cons rfl (fun K hK => ?_) AllReadyH.nil
      go_simp
      go_at_call 37; with_reducible refine Calls.mono (HJ1.out _ _ (HM.out.here (Va21.heap.size, .cells #[.string a0, .string b0] 64) (List.mem_cons_self ..))) ?_; rintro e Va23 ⟨rfl, hb5⟩; have HM := hide (HM.out.later hb5); clear hb5
      go_wp2_with fail
      refine hK.out _ _ (PAt.range (HM.out.here (w.heap.size, pgO l) (List.mem_cons_of_mem _ (List.mem_cons_of_mem _ (List.mem_cons_of_mem _ (List.mem_cons_of_mem _ (List.mem_cons_self ..))))))) (fun hHeld => ?_)
      clear hK K
      try simp only [Act.put, List.getElem_toArray, List.getElem_cons_succ, List.getElem_cons_zero, List.setIfInBounds_toArray, List.set_cons_zero, List.set_cons_succ]
      refine wpAnyH_take (i := 7) (v := .tuple #[.agg (bcl l1).toArray, .int .i64 x1]) rfl (by kernel_rfl) (by kernel_rfl) (by kernel_rfl) (fun _ _ _ h => h) (Or.inl ⟨by rfl, fun V hV => by (dsimp only at hV; go_simp)⟩) hHeld ?_
      try simp only [Act.put, List.getElem_toArray, List.getElem_cons_succ, List.getElem_cons_zero, List.setIfInBounds_toArray, List.set_cons_zero, List.set_cons_succ]
      refine wpAnyH_take (i := 8) (v := .agg (bcl l1).toArray) rfl (by kernel_rfl) (by kernel_rfl) (by kernel_rfl) (fun _ _ _ h => h) (Or.inl ⟨by rfl, fun V hV => by (dsimp only at hV; go_simp)⟩) hHeld ?_
      try simp only [Act.put, List.getElem_toArray, List.getElem_cons_succ, List.getElem_cons_zero, List.setIfInBounds_toArray, List.set_cons_zero, List.set_cons_succ]
      refine wpAnyH_take (i := 9) (v := .int .i64 x1) rfl (by kernel_rfl) (by kernel_rfl) (by kernel_rfl) (fun _ _ _ h => h) (Or.inl ⟨by rfl, fun V hV => by (dsimp only at hV; go_simp)⟩) hHeld ?_
      try simp only [Act.put, List.getElem_toArray, List.getElem_cons_succ, List.getElem_cons_zero, List.setIfInBounds_toArray, List.set_cons_zero, List.set_cons_succ]
      have HMs := HM.out.sub (.cons _ (.cons_cons _ (.cons_cons _ (.cons_cons _ (.cons_cons _ .slnil)))))
      refine wpAnyH_ready (rs := [11]) (by kernel_rfl) (by simp) ?_
      refine AllReadyH.cons rfl (fun K hK => ?_) AllReadyH.nil
      refine step_storeP HL1.out zs_length (HMs.here (_, pgO zs) (.head _)) _ _ (by rfl) (by rfl) (by rfl) (by rfl) ?_
      intro Va24 hp hb hk
      have HM := hide (HMs.put hp hb hk)
      clear hp hb hk HMs
      refine hK.out _ _ (PAt.range (HM.out.here (w.heap.size, pgO l) (List.mem_cons_of_mem _ (List.mem_cons_of_mem _ (List.mem_cons_of_mem _ (List.mem_cons_self ..)))))) (fun hHeld => ?_)
      clear hK K
      try simp only [Act.put, List.getElem_toArray, List.getElem_cons_succ, List.getElem_cons_zero]
      refine wpAnyH_take (i := 12) (v := .int .i64 x1) rfl (by kernel_rfl) (by kernel_rfl) (by kernel_rfl) (fun _ _ _ h => h) (Or.inl ⟨by rfl, fun V hV => by (dsimp only at hV; go_simp)⟩) hHeld ?_
      try simp only [Act.put, List.getElem_toArray, List.getElem_cons_succ, List.getElem_cons_zero, List.setIfInBounds_toArray, List.set_cons_zero, List.set_cons_succ]
      refine wpAnyH_done (by kernel_rfl) ?_ _
      go_wp2_with fail
      go_meet
      exact ⟨_, rfl, rfl, HM.out⟩
  case rest =>
    obtain ⟨g9, rfl, rfl, hm⟩ := hcut
    have HM := hide hm
    clear hm
    obtain ⟨X5, hX5⟩ : ∃ v, v = wc := ⟨_, rfl⟩
    subst hX5
    go_upto_region 6 with fail
    go_cut [11, 12] from 34 to 46 (fun v11 v12 V => ∃ g, v11 = .pointer (some ⟨g, 0, none⟩) ∧ v12 = .int .i64 x2 ∧ Pg w V [(g, pgO l2), (g9, pgO l1), (w.heap.size + 1 + 1, pgO zs), (w.heap.size + 1, pgO zs), (w.heap.size, pgO l)])
    case first =>
      have HMd := HM.out.later (Below.refl _ X5).drew
      refine wp_region_held_drew (S := fun V => V.rangeAt w.heap.size 0 (bcl l)) (by kernel_rfl) (PAt.range (HMd.here (w.heap.size, pgO l) (List.mem_cons_of_mem _ (List.mem_cons_of_mem _ (List.mem_cons_of_mem _ (List.mem_cons_self ..)))))) ?_
      generalize World.drew X5 = V0 at HMd ⊢
      intro hHeld
      have HM := hide HMd
      clear HMd
      refine wpAnyH_take (i := 0) (v := .agg (bcl l).toArray) rfl (by kernel_rfl) (by kernel_rfl) (by kernel_rfl) (fun _ _ _ h => h) (yieldsIf_load_mid (by rfl) _ _ rfl _ _ rfl _ _ (fun V hV => hV) hu rfl hi) hHeld ?_
      try simp only [Act.put, List.getElem_toArray, List.getElem_cons_zero, List.setIfInBounds_toArray, List.set_cons_zero, List.set_cons_succ]
      refine wpAnyH_take (i := 2) (v := .agg (bcl l).toArray) rfl (by kernel_rfl) (by kernel_rfl) (by kernel_rfl) (fun _ _ _ h => h) (yieldsIf_load_mid (by rfl) _ _ rfl _ _ rfl _ _ (fun V hV => hV) hu rfl hi) hHeld ?_
      try simp only [Act.put, List.getElem_toArray, List.getElem_cons_succ, List.getElem_cons_zero, List.setIfInBounds_toArray, List.set_cons_zero, List.set_cons_succ]
      refine wpAnyH_take (i := 4) (v := .agg (bcl l).toArray) rfl (by kernel_rfl) (by kernel_rfl) (by kernel_rfl) (fun _ _ _ h => h) (yieldsIf_load_mid (by rfl) _ _ rfl _ _ rfl _ _ (fun V hV => hV) hu rfl hi) hHeld ?_
      try simp only [Act.put, List.getElem_toArray, List.getElem_cons_succ, List.getElem_cons_zero, List.setIfInBounds_toArray, List.set_cons_zero, List.set_cons_succ]
      refine wpAnyH_take (i := 5) (v := .int .i64 (i : Int)) rfl (by kernel_rfl) (by kernel_rfl) (by kernel_rfl) (fun _ _ _ h => h) (Or.inl ⟨by rfl, fun V hV => by (dsimp only at hV; go_simp)⟩) hHeld ?_
      try simp only [Act.put, List.getElem_toArray, List.getElem_cons_succ, List.getElem_cons_zero, List.setIfInBounds_toArray, List.set_cons_zero, List.set_cons_succ]
      refine wpAnyH_take (i := 6) (v := .int .i64 (byt l 1 : Int)) rfl (by kernel_rfl) (by kernel_rfl) (by kernel_rfl) (fun _ _ _ h => h) (Or.inl ⟨by rfl, fun V hV => by (dsimp only at hV; go_simp)⟩) hHeld ?_
      try simp only [Act.put, List.getElem_toArray, List.getElem_cons_succ, List.getElem_cons_zero, List.setIfInBounds_toArray, List.set_cons_zero, List.set_cons_succ]
      refine wpAnyH_ready (rs := [1, 13]) (by kernel_rfl) (by simp) ?_
      refine AllReadyH.cons rfl (fun K hK => ?_) (AllReadyH.cons rfl (fun K hK => ?_) AllReadyH.nil)
      · go_simp
        go_at_call 11; with_reducible refine Calls.mono (HKd.out _) ?_; rintro e Vb1 ⟨rfl, hb5⟩; have HM := hide (HM.out.later hb5); clear hb5
        go_wp2_with fail
        refine hK.out _ _ (PAt.range (HM.out.here (w.heap.size, pgO l) (List.mem_cons_of_mem _ (List.mem_cons_of_mem _ (List.mem_cons_of_mem _ (List.mem_cons_self ..)))))) (fun hHeld => ?_)
        clear hK K
        try simp only [Act.put, List.getElem_toArray, List.getElem_cons_succ, List.getElem_cons_zero, List.setIfInBounds_toArray, List.set_cons_zero, List.set_cons_succ]
        refine wpAnyH_ready (rs := [3, 13]) (by kernel_rfl) (by simp) ?_
        refine AllReadyH.cons rfl (fun K hK => ?_) (AllReadyH.cons rfl (fun K hK => ?_) AllReadyH.nil)
        · go_simp
          go_at_call 31; with_reducible refine Calls.mono (HLk.out _) ?_; rintro e Vb2 ⟨rfl, hb5⟩; have HM := hide (HM.out.later hb5); clear hb5
          go_wp2_with fail
          refine hK.out _ _ (PAt.range (HM.out.here (w.heap.size, pgO l) (List.mem_cons_of_mem _ (List.mem_cons_of_mem _ (List.mem_cons_of_mem _ (List.mem_cons_self ..)))))) (fun hHeld => ?_)
          clear hK K
          try simp only [Act.put, List.getElem_toArray, List.getElem_cons_succ, List.getElem_cons_zero, List.setIfInBounds_toArray, List.set_cons_zero, List.set_cons_succ]
          refine wpAnyH_ready (rs := [7, 13]) (by kernel_rfl) (by simp) ?_
          refine AllReadyH.cons rfl (fun K hK => ?_) (AllReadyH.cons rfl (fun K hK => ?_) AllReadyH.nil)
          · go_simp
            go_at_call 33; with_reducible refine Calls.mono (HP2.out _) ?_; rintro e Vb3 ⟨rfl, hb5⟩; have HM := hide (HM.out.later hb5); clear hb5
            go_wp2_with fail
            refine hK.out _ _ (PAt.range (HM.out.here (w.heap.size, pgO l) (List.mem_cons_of_mem _ (List.mem_cons_of_mem _ (List.mem_cons_of_mem _ (List.mem_cons_self ..)))))) (fun hHeld => ?_)
            clear hK K
            try simp only [Act.put, List.getElem_toArray, List.getElem_cons_succ, List.getElem_cons_zero, List.setIfInBounds_toArray, List.set_cons_zero, List.set_cons_succ]
            refine wpAnyH_ready (rs := [8, 13]) (by kernel_rfl) (by simp) ?_
            refine AllReadyH.cons rfl (fun K hK => ?_) (AllReadyH.cons rfl (fun K hK => ?_) AllReadyH.nil)
            · have HMn := HM.out.new (.cells #[.string a1, .string b1] 64)
              go_simp
              refine hK.out _ _ (PAt.range (HMn.here (w.heap.size, pgO l) (List.mem_cons_of_mem _ (List.mem_cons_of_mem _ (List.mem_cons_of_mem _ (List.mem_cons_of_mem _ (List.mem_cons_self ..))))))) ?_
              clear hK K
              try simp only [Act.put, List.getElem_toArray, List.getElem_cons_succ, List.getElem_cons_zero, List.setIfInBounds_toArray, List.set_cons_zero, List.set_cons_succ]
              generalize World.alloc Vb3 (Obj.cells #[.string a1, .string b1] 64) = Vb4 at HMn ⊢
              intro hHeld
              have HM := hide HMn
              clear HMn
              refine wpAnyH_ready (rs := [9, 13]) (by kernel_rfl) (by simp) ?_
              refine AllReadyH.cons rfl (fun K hK => ?_) (AllReadyH.cons rfl (fun K hK => ?_) AllReadyH.nil)
              · go_simp
                go_at_call 37; with_reducible refine Calls.mono (HJ2.out _ _ (HM.out.here (Vb3.heap.size, .cells #[.string a1, .string b1] 64) (List.mem_cons_self ..))) ?_; rintro e Vb5 ⟨rfl, hb5⟩; have HM := hide (HM.out.later hb5); clear hb5
                go_wp2_with fail
                refine hK.out _ _ (PAt.range (HM.out.here (w.heap.size, pgO l) (List.mem_cons_of_mem _ (List.mem_cons_of_mem _ (List.mem_cons_of_mem _ (List.mem_cons_of_mem _ (List.mem_cons_self ..))))))) (fun hHeld => ?_)
                clear hK K
                try simp only [Act.put, List.getElem_toArray, List.getElem_cons_succ, List.getElem_cons_zero, List.setIfInBounds_toArray, List.set_cons_zero, List.set_cons_succ]
                refine wpAnyH_take (i := 10) (v := .tuple #[.agg (bcl l2).toArray, .int .i64 x2]) rfl (by kernel_rfl) (by kernel_rfl) (by kernel_rfl) (fun _ _ _ h => h) (Or.inl ⟨by rfl, fun V hV => by (dsimp only at hV; go_simp)⟩) hHeld ?_
                try simp only [Act.put, List.getElem_toArray, List.getElem_cons_succ, List.getElem_cons_zero, List.setIfInBounds_toArray, List.set_cons_zero, List.set_cons_succ]
                refine wpAnyH_take (i := 11) (v := .agg (bcl l2).toArray) rfl (by kernel_rfl) (by kernel_rfl) (by kernel_rfl) (fun _ _ _ h => h) (Or.inl ⟨by rfl, fun V hV => by (dsimp only at hV; go_simp)⟩) hHeld ?_
                try simp only [Act.put, List.getElem_toArray, List.getElem_cons_succ, List.getElem_cons_zero, List.setIfInBounds_toArray, List.set_cons_zero, List.set_cons_succ]
                refine wpAnyH_take (i := 12) (v := .int .i64 x2) rfl (by kernel_rfl) (by kernel_rfl) (by kernel_rfl) (fun _ _ _ h => h) (Or.inl ⟨by rfl, fun V hV => by (dsimp only at hV; go_simp)⟩) hHeld ?_
                try simp only [Act.put, List.getElem_toArray, List.getElem_cons_succ, List.getElem_cons_zero, List.setIfInBounds_toArray, List.set_cons_zero, List.set_cons_succ]
                refine wpAnyH_ready (rs := [13]) (by kernel_rfl) (by simp) ?_
                refine AllReadyH.cons rfl (fun K hK => ?_) AllReadyH.nil
                have HMn := HM.out.new (.cells (bc zs) 23)
                go_simp
                refine hK.out _ _ (PAt.range (HMn.here (w.heap.size, pgO l) (List.mem_cons_of_mem _ (List.mem_cons_of_mem _ (List.mem_cons_of_mem _ (List.mem_cons_of_mem _ (List.mem_cons_of_mem _ (List.mem_cons_self ..)))))))) ?_
                clear hK K
                try simp only [Act.put, List.getElem_toArray, List.getElem_cons_succ, List.getElem_cons_zero, List.setIfInBounds_toArray, List.set_cons_zero, List.set_cons_succ]
                generalize World.alloc Vb5 (Obj.cells (bc zs) 23) = Vb6 at HMn ⊢
                intro hHeld
                have HM := hide HMn
                clear HMn
                have HMs := HM.out.sub (.cons_cons _ (.cons _ (.cons_cons _ (.cons_cons _ (.cons_cons _ (.cons_cons _ .slnil))))))
                refine wpAnyH_ready (rs := [14]) (by kernel_rfl) (by simp) ?_
                refine AllReadyH.cons rfl (fun K hK => ?_) AllReadyH.nil
                refine step_storeP HL2.out zs_length (HMs.here (_, pgO zs) (.head _)) _ _ (by rfl) (by rfl) (by rfl) (by rfl) ?_
                intro Vb7 hp hb hk
                have HM := hide (HMs.put hp hb hk)
                clear hp hb hk HMs
                refine hK.out _ _ (PAt.range (HM.out.here (w.heap.size, pgO l) (List.mem_cons_of_mem _ (List.mem_cons_of_mem _ (List.mem_cons_of_mem _ (List.mem_cons_of_mem _ (List.mem_cons_self ..))))))) (fun hHeld => ?_)
                clear hK K
                try simp only [Act.put, List.getElem_toArray, List.getElem_cons_succ, List.getElem_cons_zero]
                refine wpAnyH_take (i := 15) (v := .int .i64 x2) rfl (by kernel_rfl) (by kernel_rfl) (by kernel_rfl) (fun _ _ _ h => h) (Or.inl ⟨by rfl, fun V hV => by (dsimp only at hV; go_simp)⟩) hHeld ?_
                try simp only [Act.put, List.getElem_toArray, List.getElem_cons_succ, List.getElem_cons_zero, List.setIfInBounds_toArray, List.set_cons_zero, List.set_cons_succ]
                refine wpAnyH_done (by kernel_rfl) ?_ _
                go_wp2_with fail
                go_meet
                exact ⟨_, rfl, rfl, HM.out⟩
              · have HMn := HM.out.new (.cells (bc zs) 23)
                go_simp
                refine hK.out _ _ (PAt.range (HMn.here (w.heap.size, pgO l) (List.mem_cons_of_mem _ (List.mem_cons_of_mem _ (List.mem_cons_of_mem _ (List.mem_cons_of_mem _ (List.mem_cons_of_mem _ (List.mem_cons_self ..)))))))) ?_
                clear hK K
                try simp only [Act.put, List.getElem_toArray, List.getElem_cons_succ, List.getElem_cons_zero, List.setIfInBounds_toArray, List.set_cons_zero, List.set_cons_succ]
                generalize World.alloc Vb4 (Obj.cells (bc zs) 23) = Vb8 at HMn ⊢
                intro hHeld
                have HM := hide HMn
                clear HMn
                refine wpAnyH_ready (rs := [9]) (by kernel_rfl) (by simp) ?_
                refine AllReadyH.cons rfl (fun K hK => ?_) AllReadyH.nil
                go_simp
                go_at_call 37; with_reducible refine Calls.mono (HJ2.out _ _ (HM.out.here (Vb3.heap.size, .cells #[.string a1, .string b1] 64) (List.mem_cons_of_mem _ (List.mem_cons_self ..)))) ?_; rintro e Vb9 ⟨rfl, hb5⟩; have HM := hide (HM.out.later hb5); clear hb5
                go_wp2_with fail
                refine hK.out _ _ (PAt.range (HM.out.here (w.heap.size, pgO l) (List.mem_cons_of_mem _ (List.mem_cons_of_mem _ (List.mem_cons_of_mem _ (List.mem_cons_of_mem _ (List.mem_cons_of_mem _ (List.mem_cons_self ..)))))))) (fun hHeld => ?_)
                clear hK K
                try simp only [Act.put, List.getElem_toArray, List.getElem_cons_succ, List.getElem_cons_zero, List.setIfInBounds_toArray, List.set_cons_zero, List.set_cons_succ]
                refine wpAnyH_take (i := 10) (v := .tuple #[.agg (bcl l2).toArray, .int .i64 x2]) rfl (by kernel_rfl) (by kernel_rfl) (by kernel_rfl) (fun _ _ _ h => h) (Or.inl ⟨by rfl, fun V hV => by (dsimp only at hV; go_simp)⟩) hHeld ?_
                try simp only [Act.put, List.getElem_toArray, List.getElem_cons_succ, List.getElem_cons_zero, List.setIfInBounds_toArray, List.set_cons_zero, List.set_cons_succ]
                refine wpAnyH_take (i := 11) (v := .agg (bcl l2).toArray) rfl (by kernel_rfl) (by kernel_rfl) (by kernel_rfl) (fun _ _ _ h => h) (Or.inl ⟨by rfl, fun V hV => by (dsimp only at hV; go_simp)⟩) hHeld ?_
                try simp only [Act.put, List.getElem_toArray, List.getElem_cons_succ, List.getElem_cons_zero, List.setIfInBounds_toArray, List.set_cons_zero, List.set_cons_succ]
                refine wpAnyH_take (i := 12) (v := .int .i64 x2) rfl (by kernel_rfl) (by kernel_rfl) (by kernel_rfl) (fun _ _ _ h => h) (Or.inl ⟨by rfl, fun V hV => by (dsimp only at hV; go_simp)⟩) hHeld ?_
                try simp only [Act.put, List.getElem_toArray, List.getElem_cons_succ, List.getElem_cons_zero, List.setIfInBounds_toArray, List.set_cons_zero, List.set_cons_succ]
                have HMs := HM.out.sub (.cons_cons _ (.cons _ (.cons_cons _ (.cons_cons _ (.cons_cons _ (.cons_cons _ .slnil))))))
                refine wpAnyH_ready (rs := [14]) (by kernel_rfl) (by simp) ?_
                refine AllReadyH.cons rfl (fun K hK => ?_) AllReadyH.nil
                refine step_storeP HL2.out zs_length (HMs.here (_, pgO zs) (.head _)) _ _ (by rfl) (by rfl) (by rfl) (by rfl) ?_
                intro Vb10 hp hb hk
                have HM := hide (HMs.put hp hb hk)
                clear hp hb hk HMs
                refine hK.out _ _ (PAt.range (HM.out.here (w.heap.size, pgO l) (List.mem_cons_of_mem _ (List.mem_cons_of_mem _ (List.mem_cons_of_mem _ (List.mem_cons_of_mem _ (List.mem_cons_self ..))))))) (fun hHeld => ?_)
                clear hK K
                try simp only [Act.put, List.getElem_toArray, List.getElem_cons_succ, List.getElem_cons_zero]
                refine wpAnyH_take (i := 15) (v := .int .i64 x2) rfl (by kernel_rfl) (by kernel_rfl) (by kernel_rfl) (fun _ _ _ h => h) (Or.inl ⟨by rfl, fun V hV => by (dsimp only at hV; go_simp)⟩) hHeld ?_
                try simp only [Act.put, List.getElem_toArray, List.getElem_cons_succ, List.getElem_cons_zero, List.setIfInBounds_toArray, List.set_cons_zero, List.set_cons_succ]
                refine wpAnyH_done (by kernel_rfl) ?_ _
                go_wp2_with fail
                go_meet
                exact ⟨_, rfl, rfl, HM.out⟩
            · have HMn := HM.out.new (.cells (bc zs) 23)
              go_simp
              refine hK.out _ _ (PAt.range (HMn.here (w.heap.size, pgO l) (List.mem_cons_of_mem _ (List.mem_cons_of_mem _ (List.mem_cons_of_mem _ (List.mem_cons_of_mem _ (List.mem_cons_self ..))))))) ?_
              clear hK K
              try simp only [Act.put, List.getElem_toArray, List.getElem_cons_succ, List.getElem_cons_zero, List.setIfInBounds_toArray, List.set_cons_zero, List.set_cons_succ]
              generalize World.alloc Vb3 (Obj.cells (bc zs) 23) = Vb11 at HMn ⊢
              intro hHeld
              have HM := hide HMn
              clear HMn
              refine wpAnyH_ready (rs := [8]) (by kernel_rfl) (by simp) ?_
              refine AllReadyH.cons rfl (fun K hK => ?_) AllReadyH.nil
              have HMn := HM.out.new (.cells #[.string a1, .string b1] 64)
              go_simp
              refine hK.out _ _ (PAt.range (HMn.here (w.heap.size, pgO l) (List.mem_cons_of_mem _ (List.mem_cons_of_mem _ (List.mem_cons_of_mem _ (List.mem_cons_of_mem _ (List.mem_cons_of_mem _ (List.mem_cons_self ..)))))))) ?_
              clear hK K
              try simp only [Act.put, List.getElem_toArray, List.getElem_cons_succ, List.getElem_cons_zero, List.setIfInBounds_toArray, List.set_cons_zero, List.set_cons_succ]
              generalize World.alloc Vb11 (Obj.cells #[.string a1, .string b1] 64) = Vb12 at HMn ⊢
              intro hHeld
              have HM := hide HMn
              clear HMn
              refine wpAnyH_ready (rs := [9]) (by kernel_rfl) (by simp) ?_
              refine AllReadyH.cons rfl (fun K hK => ?_) AllReadyH.nil
              go_simp
              go_at_call 37; with_reducible refine Calls.mono (HJ2.out _ _ (HM.out.here (Vb11.heap.size, .cells #[.string a1, .string b1] 64) (List.mem_cons_self ..))) ?_; rintro e Vb13 ⟨rfl, hb5⟩; have HM := hide (HM.out.later hb5); clear hb5
              go_wp2_with fail
              refine hK.out _ _ (PAt.range (HM.out.here (w.heap.size, pgO l) (List.mem_cons_of_mem _ (List.mem_cons_of_mem _ (List.mem_cons_of_mem _ (List.mem_cons_of_mem _ (List.mem_cons_of_mem _ (List.mem_cons_self ..)))))))) (fun hHeld => ?_)
              clear hK K
              try simp only [Act.put, List.getElem_toArray, List.getElem_cons_succ, List.getElem_cons_zero, List.setIfInBounds_toArray, List.set_cons_zero, List.set_cons_succ]
              refine wpAnyH_take (i := 10) (v := .tuple #[.agg (bcl l2).toArray, .int .i64 x2]) rfl (by kernel_rfl) (by kernel_rfl) (by kernel_rfl) (fun _ _ _ h => h) (Or.inl ⟨by rfl, fun V hV => by (dsimp only at hV; go_simp)⟩) hHeld ?_
              try simp only [Act.put, List.getElem_toArray, List.getElem_cons_succ, List.getElem_cons_zero, List.setIfInBounds_toArray, List.set_cons_zero, List.set_cons_succ]
              refine wpAnyH_take (i := 11) (v := .agg (bcl l2).toArray) rfl (by kernel_rfl) (by kernel_rfl) (by kernel_rfl) (fun _ _ _ h => h) (Or.inl ⟨by rfl, fun V hV => by (dsimp only at hV; go_simp)⟩) hHeld ?_
              try simp only [Act.put, List.getElem_toArray, List.getElem_cons_succ, List.getElem_cons_zero, List.setIfInBounds_toArray, List.set_cons_zero, List.set_cons_succ]
              refine wpAnyH_take (i := 12) (v := .int .i64 x2) rfl (by kernel_rfl) (by kernel_rfl) (by kernel_rfl) (fun _ _ _ h => h) (Or.inl ⟨by rfl, fun V hV => by (dsimp only at hV; go_simp)⟩) hHeld ?_
              try simp only [Act.put, List.getElem_toArray, List.getElem_cons_succ, List.getElem_cons_zero, List.setIfInBounds_toArray, List.set_cons_zero, List.set_cons_succ]
              have HMs := HM.out.sub (.cons _ (.cons_cons _ (.cons_cons _ (.cons_cons _ (.cons_cons _ (.cons_cons _ .slnil))))))
              refine wpAnyH_ready (rs := [14]) (by kernel_rfl) (by simp) ?_
              refine AllReadyH.cons rfl (fun K hK => ?_) AllReadyH.nil
              refine step_storeP HL2.out zs_length (HMs.here (_, pgO zs) (.head _)) _ _ (by rfl) (by rfl) (by rfl) (by rfl) ?_
              intro Vb14 hp hb hk
              have HM := hide (HMs.put hp hb hk)
              clear hp hb hk HMs
              refine hK.out _ _ (PAt.range (HM.out.here (w.heap.size, pgO l) (List.mem_cons_of_mem _ (List.mem_cons_of_mem _ (List.mem_cons_of_mem _ (List.mem_cons_of_mem _ (List.mem_cons_self ..))))))) (fun hHeld => ?_)
              clear hK K
              try simp only [Act.put, List.getElem_toArray, List.getElem_cons_succ, List.getElem_cons_zero]
              refine wpAnyH_take (i := 15) (v := .int .i64 x2) rfl (by kernel_rfl) (by kernel_rfl) (by kernel_rfl) (fun _ _ _ h => h) (Or.inl ⟨by rfl, fun V hV => by (dsimp only at hV; go_simp)⟩) hHeld ?_
              try simp only [Act.put, List.getElem_toArray, List.getElem_cons_succ, List.getElem_cons_zero, List.setIfInBounds_toArray, List.set_cons_zero, List.set_cons_succ]
              refine wpAnyH_done (by kernel_rfl) ?_ _
              go_wp2_with fail
              go_meet
              exact ⟨_, rfl, rfl, HM.out⟩
          · have HMn := HM.out.new (.cells (bc zs) 23)
            go_simp
            refine hK.out _ _ (PAt.range (HMn.here (w.heap.size, pgO l) (List.mem_cons_of_mem _ (List.mem_cons_of_mem _ (List.mem_cons_of_mem _ (List.mem_cons_of_mem _ (List.mem_cons_self ..))))))) ?_
            clear hK K
            try simp only [Act.put, List.getElem_toArray, List.getElem_cons_succ, List.getElem_cons_zero, List.setIfInBounds_toArray, List.set_cons_zero, List.set_cons_succ]
            generalize World.alloc Vb2 (Obj.cells (bc zs) 23) = Vb15 at HMn ⊢
            intro hHeld
            have HM := hide HMn
            clear HMn
            refine wpAnyH_ready (rs := [7]) (by kernel_rfl) (by simp) ?_
            refine AllReadyH.cons rfl (fun K hK => ?_) AllReadyH.nil
            go_simp
            go_at_call 33; with_reducible refine Calls.mono (HP2.out _) ?_; rintro e Vb16 ⟨rfl, hb5⟩; have HM := hide (HM.out.later hb5); clear hb5
            go_wp2_with fail
            refine hK.out _ _ (PAt.range (HM.out.here (w.heap.size, pgO l) (List.mem_cons_of_mem _ (List.mem_cons_of_mem _ (List.mem_cons_of_mem _ (List.mem_cons_of_mem _ (List.mem_cons_self ..))))))) (fun hHeld => ?_)
            clear hK K
            try simp only [Act.put, List.getElem_toArray, List.getElem_cons_succ, List.getElem_cons_zero, List.setIfInBounds_toArray, List.set_cons_zero, List.set_cons_succ]
            refine wpAnyH_ready (rs := [8]) (by kernel_rfl) (by simp) ?_
            refine AllReadyH.cons rfl (fun K hK => ?_) AllReadyH.nil
            have HMn := HM.out.new (.cells #[.string a1, .string b1] 64)
            go_simp
            refine hK.out _ _ (PAt.range (HMn.here (w.heap.size, pgO l) (List.mem_cons_of_mem _ (List.mem_cons_of_mem _ (List.mem_cons_of_mem _ (List.mem_cons_of_mem _ (List.mem_cons_of_mem _ (List.mem_cons_self ..)))))))) ?_
            clear hK K
            try simp only [Act.put, List.getElem_toArray, List.getElem_cons_succ, List.getElem_cons_zero, List.setIfInBounds_toArray, List.set_cons_zero, List.set_cons_succ]
            generalize World.alloc Vb16 (Obj.cells #[.string a1, .string b1] 64) = Vb17 at HMn ⊢
            intro hHeld
            have HM := hide HMn
            clear HMn
            refine wpAnyH_ready (rs := [9]) (by kernel_rfl) (by simp) ?_
            refine AllReadyH.cons rfl (fun K hK => ?_) AllReadyH.nil
            go_simp
            go_at_call 37; with_reducible refine Calls.mono (HJ2.out _ _ (HM.out.here (Vb16.heap.size, .cells #[.string a1, .string b1] 64) (List.mem_cons_self ..))) ?_; rintro e Vb18 ⟨rfl, hb5⟩; have HM := hide (HM.out.later hb5); clear hb5
            go_wp2_with fail
            refine hK.out _ _ (PAt.range (HM.out.here (w.heap.size, pgO l) (List.mem_cons_of_mem _ (List.mem_cons_of_mem _ (List.mem_cons_of_mem _ (List.mem_cons_of_mem _ (List.mem_cons_of_mem _ (List.mem_cons_self ..)))))))) (fun hHeld => ?_)
            clear hK K
            try simp only [Act.put, List.getElem_toArray, List.getElem_cons_succ, List.getElem_cons_zero, List.setIfInBounds_toArray, List.set_cons_zero, List.set_cons_succ]
            refine wpAnyH_take (i := 10) (v := .tuple #[.agg (bcl l2).toArray, .int .i64 x2]) rfl (by kernel_rfl) (by kernel_rfl) (by kernel_rfl) (fun _ _ _ h => h) (Or.inl ⟨by rfl, fun V hV => by (dsimp only at hV; go_simp)⟩) hHeld ?_
            try simp only [Act.put, List.getElem_toArray, List.getElem_cons_succ, List.getElem_cons_zero, List.setIfInBounds_toArray, List.set_cons_zero, List.set_cons_succ]
            refine wpAnyH_take (i := 11) (v := .agg (bcl l2).toArray) rfl (by kernel_rfl) (by kernel_rfl) (by kernel_rfl) (fun _ _ _ h => h) (Or.inl ⟨by rfl, fun V hV => by (dsimp only at hV; go_simp)⟩) hHeld ?_
            try simp only [Act.put, List.getElem_toArray, List.getElem_cons_succ, List.getElem_cons_zero, List.setIfInBounds_toArray, List.set_cons_zero, List.set_cons_succ]
            refine wpAnyH_take (i := 12) (v := .int .i64 x2) rfl (by kernel_rfl) (by kernel_rfl) (by kernel_rfl) (fun _ _ _ h => h) (Or.inl ⟨by rfl, fun V hV => by (dsimp only at hV; go_simp)⟩) hHeld ?_
            try simp only [Act.put, List.getElem_toArray, List.getElem_cons_succ, List.getElem_cons_zero, List.setIfInBounds_toArray, List.set_cons_zero, List.set_cons_succ]
            have HMs := HM.out.sub (.cons _ (.cons_cons _ (.cons_cons _ (.cons_cons _ (.cons_cons _ (.cons_cons _ .slnil))))))
            refine wpAnyH_ready (rs := [14]) (by kernel_rfl) (by simp) ?_
            refine AllReadyH.cons rfl (fun K hK => ?_) AllReadyH.nil
            refine step_storeP HL2.out zs_length (HMs.here (_, pgO zs) (.head _)) _ _ (by rfl) (by rfl) (by rfl) (by rfl) ?_
            intro Vb19 hp hb hk
            have HM := hide (HMs.put hp hb hk)
            clear hp hb hk HMs
            refine hK.out _ _ (PAt.range (HM.out.here (w.heap.size, pgO l) (List.mem_cons_of_mem _ (List.mem_cons_of_mem _ (List.mem_cons_of_mem _ (List.mem_cons_of_mem _ (List.mem_cons_self ..))))))) (fun hHeld => ?_)
            clear hK K
            try simp only [Act.put, List.getElem_toArray, List.getElem_cons_succ, List.getElem_cons_zero]
            refine wpAnyH_take (i := 15) (v := .int .i64 x2) rfl (by kernel_rfl) (by kernel_rfl) (by kernel_rfl) (fun _ _ _ h => h) (Or.inl ⟨by rfl, fun V hV => by (dsimp only at hV; go_simp)⟩) hHeld ?_
            try simp only [Act.put, List.getElem_toArray, List.getElem_cons_succ, List.getElem_cons_zero, List.setIfInBounds_toArray, List.set_cons_zero, List.set_cons_succ]
            refine wpAnyH_done (by kernel_rfl) ?_ _
            go_wp2_with fail
            go_meet
            exact ⟨_, rfl, rfl, HM.out⟩
        · have HMn := HM.out.new (.cells (bc zs) 23)
          go_simp
          refine hK.out _ _ (PAt.range (HMn.here (w.heap.size, pgO l) (List.mem_cons_of_mem _ (List.mem_cons_of_mem _ (List.mem_cons_of_mem _ (List.mem_cons_of_mem _ (List.mem_cons_self ..))))))) ?_
          clear hK K
          try simp only [Act.put, List.getElem_toArray, List.getElem_cons_succ, List.getElem_cons_zero, List.setIfInBounds_toArray, List.set_cons_zero, List.set_cons_succ]
          generalize World.alloc Vb1 (Obj.cells (bc zs) 23) = Vb20 at HMn ⊢
          intro hHeld
          have HM := hide HMn
          clear HMn
          refine wpAnyH_ready (rs := [3]) (by kernel_rfl) (by simp) ?_
          refine AllReadyH.cons rfl (fun K hK => ?_) AllReadyH.nil
          go_simp
          go_at_call 31; with_reducible refine Calls.mono (HLk.out _) ?_; rintro e Vb21 ⟨rfl, hb5⟩; have HM := hide (HM.out.later hb5); clear hb5
          go_wp2_with fail
          refine hK.out _ _ (PAt.range (HM.out.here (w.heap.size, pgO l) (List.mem_cons_of_mem _ (List.mem_cons_of_mem _ (List.mem_cons_of_mem _ (List.mem_cons_of_mem _ (List.mem_cons_self ..))))))) (fun hHeld => ?_)
          clear hK K
          try simp only [Act.put, List.getElem_toArray, List.getElem_cons_succ, List.getElem_cons_zero, List.setIfInBounds_toArray, List.set_cons_zero, List.set_cons_succ]
          refine wpAnyH_ready (rs := [7]) (by kernel_rfl) (by simp) ?_
          refine AllReadyH.cons rfl (fun K hK => ?_) AllReadyH.nil
          go_simp
          go_at_call 33; with_reducible refine Calls.mono (HP2.out _) ?_; rintro e Vb22 ⟨rfl, hb5⟩; have HM := hide (HM.out.later hb5); clear hb5
          go_wp2_with fail
          refine hK.out _ _ (PAt.range (HM.out.here (w.heap.size, pgO l) (List.mem_cons_of_mem _ (List.mem_cons_of_mem _ (List.mem_cons_of_mem _ (List.mem_cons_of_mem _ (List.mem_cons_self ..))))))) (fun hHeld => ?_)
          clear hK K
          try simp only [Act.put, List.getElem_toArray, List.getElem_cons_succ, List.getElem_cons_zero, List.setIfInBounds_toArray, List.set_cons_zero, List.set_cons_succ]
          refine wpAnyH_ready (rs := [8]) (by kernel_rfl) (by simp) ?_
          refine AllReadyH.cons rfl (fun K hK => ?_) AllReadyH.nil
          have HMn := HM.out.new (.cells #[.string a1, .string b1] 64)
          go_simp
          refine hK.out _ _ (PAt.range (HMn.here (w.heap.size, pgO l) (List.mem_cons_of_mem _ (List.mem_cons_of_mem _ (List.mem_cons_of_mem _ (List.mem_cons_of_mem _ (List.mem_cons_of_mem _ (List.mem_cons_self ..)))))))) ?_
          clear hK K
          try simp only [Act.put, List.getElem_toArray, List.getElem_cons_succ, List.getElem_cons_zero, List.setIfInBounds_toArray, List.set_cons_zero, List.set_cons_succ]
          generalize World.alloc Vb22 (Obj.cells #[.string a1, .string b1] 64) = Vb23 at HMn ⊢
          intro hHeld
          have HM := hide HMn
          clear HMn
          refine wpAnyH_ready (rs := [9]) (by kernel_rfl) (by simp) ?_
          refine AllReadyH.cons rfl (fun K hK => ?_) AllReadyH.nil
          go_simp
          go_at_call 37; with_reducible refine Calls.mono (HJ2.out _ _ (HM.out.here (Vb22.heap.size, .cells #[.string a1, .string b1] 64) (List.mem_cons_self ..))) ?_; rintro e Vb24 ⟨rfl, hb5⟩; have HM := hide (HM.out.later hb5); clear hb5
          go_wp2_with fail
          refine hK.out _ _ (PAt.range (HM.out.here (w.heap.size, pgO l) (List.mem_cons_of_mem _ (List.mem_cons_of_mem _ (List.mem_cons_of_mem _ (List.mem_cons_of_mem _ (List.mem_cons_of_mem _ (List.mem_cons_self ..)))))))) (fun hHeld => ?_)
          clear hK K
          try simp only [Act.put, List.getElem_toArray, List.getElem_cons_succ, List.getElem_cons_zero, List.setIfInBounds_toArray, List.set_cons_zero, List.set_cons_succ]
          refine wpAnyH_take (i := 10) (v := .tuple #[.agg (bcl l2).toArray, .int .i64 x2]) rfl (by kernel_rfl) (by kernel_rfl) (by kernel_rfl) (fun _ _ _ h => h) (Or.inl ⟨by rfl, fun V hV => by (dsimp only at hV; go_simp)⟩) hHeld ?_
          try simp only [Act.put, List.getElem_toArray, List.getElem_cons_succ, List.getElem_cons_zero, List.setIfInBounds_toArray, List.set_cons_zero, List.set_cons_succ]
          refine wpAnyH_take (i := 11) (v := .agg (bcl l2).toArray) rfl (by kernel_rfl) (by kernel_rfl) (by kernel_rfl) (fun _ _ _ h => h) (Or.inl ⟨by rfl, fun V hV => by (dsimp only at hV; go_simp)⟩) hHeld ?_
          try simp only [Act.put, List.getElem_toArray, List.getElem_cons_succ, List.getElem_cons_zero, List.setIfInBounds_toArray, List.set_cons_zero, List.set_cons_succ]
          refine wpAnyH_take (i := 12) (v := .int .i64 x2) rfl (by kernel_rfl) (by kernel_rfl) (by kernel_rfl) (fun _ _ _ h => h) (Or.inl ⟨by rfl, fun V hV => by (dsimp only at hV; go_simp)⟩) hHeld ?_
          try simp only [Act.put, List.getElem_toArray, List.getElem_cons_succ, List.getElem_cons_zero, List.setIfInBounds_toArray, List.set_cons_zero, List.set_cons_succ]
          have HMs := HM.out.sub (.cons _ (.cons_cons _ (.cons_cons _ (.cons_cons _ (.cons_cons _ (.cons_cons _ .slnil))))))
          refine wpAnyH_ready (rs := [14]) (by kernel_rfl) (by simp) ?_
          refine AllReadyH.cons rfl (fun K hK => ?_) AllReadyH.nil
          refine step_storeP HL2.out zs_length (HMs.here (_, pgO zs) (.head _)) _ _ (by rfl) (by rfl) (by rfl) (by rfl) ?_
          intro Vb25 hp hb hk
          have HM := hide (HMs.put hp hb hk)
          clear hp hb hk HMs
          refine hK.out _ _ (PAt.range (HM.out.here (w.heap.size, pgO l) (List.mem_cons_of_mem _ (List.mem_cons_of_mem _ (List.mem_cons_of_mem _ (List.mem_cons_of_mem _ (List.mem_cons_self ..))))))) (fun hHeld => ?_)
          clear hK K
          try simp only [Act.put, List.getElem_toArray, List.getElem_cons_succ, List.getElem_cons_zero]
          refine wpAnyH_take (i := 15) (v := .int .i64 x2) rfl (by kernel_rfl) (by kernel_rfl) (by kernel_rfl) (fun _ _ _ h => h) (Or.inl ⟨by rfl, fun V hV => by (dsimp only at hV; go_simp)⟩) hHeld ?_
          try simp only [Act.put, List.getElem_toArray, List.getElem_cons_succ, List.getElem_cons_zero, List.setIfInBounds_toArray, List.set_cons_zero, List.set_cons_succ]
          refine wpAnyH_done (by kernel_rfl) ?_ _
          go_wp2_with fail
          go_meet
          exact ⟨_, rfl, rfl, HM.out⟩
      · have HMn := HM.out.new (.cells (bc zs) 23)
        go_simp
        refine hK.out _ _ (PAt.range (HMn.here (w.heap.size, pgO l) (List.mem_cons_of_mem _ (List.mem_cons_of_mem _ (List.mem_cons_of_mem _ (List.mem_cons_of_mem _ (List.mem_cons_self ..))))))) ?_
        clear hK K
        try simp only [Act.put, List.getElem_toArray, List.getElem_cons_succ, List.getElem_cons_zero, List.setIfInBounds_toArray, List.set_cons_zero, List.set_cons_succ]
        generalize World.alloc V0 (Obj.cells (bc zs) 23) = Vb26 at HMn ⊢
        intro hHeld
        have HM := hide HMn
        clear HMn
        refine wpAnyH_ready (rs := [1]) (by kernel_rfl) (by simp) ?_
        refine AllReadyH.cons rfl (fun K hK => ?_) AllReadyH.nil
        go_simp
        go_at_call 11; with_reducible refine Calls.mono (HKd.out _) ?_; rintro e Vb27 ⟨rfl, hb5⟩; have HM := hide (HM.out.later hb5); clear hb5
        go_wp2_with fail
        refine hK.out _ _ (PAt.range (HM.out.here (w.heap.size, pgO l) (List.mem_cons_of_mem _ (List.mem_cons_of_mem _ (List.mem_cons_of_mem _ (List.mem_cons_of_mem _ (List.mem_cons_self ..))))))) (fun hHeld => ?_)
        clear hK K
        try simp only [Act.put, List.getElem_toArray, List.getElem_cons_succ, List.getElem_cons_zero, List.setIfInBounds_toArray, List.set_cons_zero, List.set_cons_succ]
        refine wpAnyH_ready (rs := [3]) (by kernel_rfl) (by simp) ?_
        refine AllReadyH.cons rfl (fun K hK => ?_) AllReadyH.nil
        go_simp
        go_at_call 31; with_reducible refine Calls.mono (HLk.out _) ?_; rintro e Vb28 ⟨rfl, hb5⟩; have HM := hide (HM.out.later hb5); clear hb5
        go_wp2_with fail
        refine hK.out _ _ (PAt.range (HM.out.here (w.heap.size, pgO l) (List.mem_cons_of_mem _ (List.mem_cons_of_mem _ (List.mem_cons_of_mem _ (List.mem_cons_of_mem _ (List.mem_cons_self ..))))))) (fun hHeld => ?_)
        clear hK K
        try simp only [Act.put, List.getElem_toArray, List.getElem_cons_succ, List.getElem_cons_zero, List.setIfInBounds_toArray, List.set_cons_zero, List.set_cons_succ]
        refine wpAnyH_ready (rs := [7]) (by kernel_rfl) (by simp) ?_
        refine AllReadyH.cons rfl (fun K hK => ?_) AllReadyH.nil
        go_simp
        go_at_call 33; with_reducible refine Calls.mono (HP2.out _) ?_; rintro e Vb29 ⟨rfl, hb5⟩; have HM := hide (HM.out.later hb5); clear hb5
        go_wp2_with fail
        refine hK.out _ _ (PAt.range (HM.out.here (w.heap.size, pgO l) (List.mem_cons_of_mem _ (List.mem_cons_of_mem _ (List.mem_cons_of_mem _ (List.mem_cons_of_mem _ (List.mem_cons_self ..))))))) (fun hHeld => ?_)
        clear hK K
        try simp only [Act.put, List.getElem_toArray, List.getElem_cons_succ, List.getElem_cons_zero, List.setIfInBounds_toArray, List.set_cons_zero, List.set_cons_succ]
        refine wpAnyH_ready (rs := [8]) (by kernel_rfl) (by simp) ?_
        refine AllReadyH.cons rfl (fun K hK => ?_) AllReadyH.nil
        have HMn := HM.out.new (.cells #[.string a1, .string b1] 64)
        go_simp
        refine hK.out _ _ (PAt.range (HMn.here (w.heap.size, pgO l) (List.mem_cons_of_mem _ (List.mem_cons_of_mem _ (List.mem_cons_of_mem _ (List.mem_cons_of_mem _ (List.mem_cons_of_mem _ (List.mem_cons_self ..)))))))) ?_
        clear hK K
        try simp only [Act.put, List.getElem_toArray, List.getElem_cons_succ, List.getElem_cons_zero, List.setIfInBounds_toArray, List.set_cons_zero, List.set_cons_succ]
        generalize World.alloc Vb29 (Obj.cells #[.string a1, .string b1] 64) = Vb30 at HMn ⊢
        intro hHeld
        have HM := hide HMn
        clear HMn
        refine wpAnyH_ready (rs := [9]) (by kernel_rfl) (by simp) ?_
        refine AllReadyH.cons rfl (fun K hK => ?_) AllReadyH.nil
        go_simp
        go_at_call 37; with_reducible refine Calls.mono (HJ2.out _ _ (HM.out.here (Vb29.heap.size, .cells #[.string a1, .string b1] 64) (List.mem_cons_self ..))) ?_; rintro e Vb31 ⟨rfl, hb5⟩; have HM := hide (HM.out.later hb5); clear hb5
        go_wp2_with fail
        refine hK.out _ _ (PAt.range (HM.out.here (w.heap.size, pgO l) (List.mem_cons_of_mem _ (List.mem_cons_of_mem _ (List.mem_cons_of_mem _ (List.mem_cons_of_mem _ (List.mem_cons_of_mem _ (List.mem_cons_self ..)))))))) (fun hHeld => ?_)
        clear hK K
        try simp only [Act.put, List.getElem_toArray, List.getElem_cons_succ, List.getElem_cons_zero, List.setIfInBounds_toArray, List.set_cons_zero, List.set_cons_succ]
        refine wpAnyH_take (i := 10) (v := .tuple #[.agg (bcl l2).toArray, .int .i64 x2]) rfl (by kernel_rfl) (by kernel_rfl) (by kernel_rfl) (fun _ _ _ h => h) (Or.inl ⟨by rfl, fun V hV => by (dsimp only at hV; go_simp)⟩) hHeld ?_
        try simp only [Act.put, List.getElem_toArray, List.getElem_cons_succ, List.getElem_cons_zero, List.setIfInBounds_toArray, List.set_cons_zero, List.set_cons_succ]
        refine wpAnyH_take (i := 11) (v := .agg (bcl l2).toArray) rfl (by kernel_rfl) (by kernel_rfl) (by kernel_rfl) (fun _ _ _ h => h) (Or.inl ⟨by rfl, fun V hV => by (dsimp only at hV; go_simp)⟩) hHeld ?_
        try simp only [Act.put, List.getElem_toArray, List.getElem_cons_succ, List.getElem_cons_zero, List.setIfInBounds_toArray, List.set_cons_zero, List.set_cons_succ]
        refine wpAnyH_take (i := 12) (v := .int .i64 x2) rfl (by kernel_rfl) (by kernel_rfl) (by kernel_rfl) (fun _ _ _ h => h) (Or.inl ⟨by rfl, fun V hV => by (dsimp only at hV; go_simp)⟩) hHeld ?_
        try simp only [Act.put, List.getElem_toArray, List.getElem_cons_succ, List.getElem_cons_zero, List.setIfInBounds_toArray, List.set_cons_zero, List.set_cons_succ]
        have HMs := HM.out.sub (.cons _ (.cons_cons _ (.cons_cons _ (.cons_cons _ (.cons_cons _ (.cons_cons _ .slnil))))))
        refine wpAnyH_ready (rs := [14]) (by kernel_rfl) (by simp) ?_
        refine AllReadyH.cons rfl (fun K hK => ?_) AllReadyH.nil
        refine step_storeP HL2.out zs_length (HMs.here (_, pgO zs) (.head _)) _ _ (by rfl) (by rfl) (by rfl) (by rfl) ?_
        intro Vb32 hp hb hk
        have HM := hide (HMs.put hp hb hk)
        clear hp hb hk HMs
        refine hK.out _ _ (PAt.range (HM.out.here (w.heap.size, pgO l) (List.mem_cons_of_mem _ (List.mem_cons_of_mem _ (List.mem_cons_of_mem _ (List.mem_cons_of_mem _ (List.mem_cons_self ..))))))) (fun hHeld => ?_)
        clear hK K
        try simp only [Act.put, List.getElem_toArray, List.getElem_cons_succ, List.getElem_cons_zero]
        refine wpAnyH_take (i := 15) (v := .int .i64 x2) rfl (by kernel_rfl) (by kernel_rfl) (by kernel_rfl) (fun _ _ _ h => h) (Or.inl ⟨by rfl, fun V hV => by (dsimp only at hV; go_simp)⟩) hHeld ?_
        try simp only [Act.put, List.getElem_toArray, List.getElem_cons_succ, List.getElem_cons_zero, List.setIfInBounds_toArray, List.set_cons_zero, List.set_cons_succ]
        refine wpAnyH_done (by kernel_rfl) ?_ _
        go_wp2_with fail
        go_meet
        exact ⟨_, rfl, rfl, HM.out⟩
    case rest =>
      obtain ⟨g11, rfl, rfl, hm⟩ := hcut
      have HM := hide hm
      clear hm
      obtain ⟨X6, hX6⟩ : ∃ v, v = wc := ⟨_, rfl⟩
      subst hX6
      go_upto_region 7 with fail
      have HMd := (HM.out.later (Below.refl _ X6).drew).sub (.cons_cons _ (.cons_cons _ (.cons_cons _ (.cons_cons _ (.cons _ .slnil)))))
      refine wp_region_held_drew (S := fun V => V.rangeAt g9 0 (bcl l1) ∧ V.rangeAt g11 0 (bcl l2)) (by kernel_rfl) ⟨PAt.range (HMd.here (g9, pgO l1) (.tail _ (.head _))), PAt.range (HMd.here (g11, pgO l2) (.head _))⟩ ?_
      generalize World.drew X6 = V0 at HMd ⊢
      intro hHeld
      have HM := hide HMd
      clear HMd
      refine wpAnyH_take (i := 0) (v := .agg (bcl l1).toArray) rfl (by kernel_rfl) (by kernel_rfl) (by kernel_rfl) (fun _ _ _ h => h) (yieldsIf_load_mid (by rfl) _ _ rfl _ _ rfl _ _ (fun V hV => hV.1) hu rfl hi1) hHeld ?_
      try simp only [Act.put, List.getElem_toArray, List.getElem_cons_zero, List.setIfInBounds_toArray, List.set_cons_zero, List.set_cons_succ]
      refine wpAnyH_take (i := 1) (v := .agg (bcl l2).toArray) rfl (by kernel_rfl) (by kernel_rfl) (by kernel_rfl) (fun _ _ _ h => h) (yieldsIf_load_mid (by rfl) _ _ rfl _ _ rfl _ _ (fun V hV => hV.2) hu rfl hi2) hHeld ?_
      try simp only [Act.put, List.getElem_toArray, List.getElem_cons_succ, List.getElem_cons_zero, List.setIfInBounds_toArray, List.set_cons_zero, List.set_cons_succ]
      have HM := hide ((HM.out.perm (List.perm_append_comm (l₁ := [(g11, pgO l2), (g9, pgO l1)]) (l₂ := [(w.heap.size + 1 + 1, pgO zs), (w.heap.size + 1, pgO zs)]))).swap : Pg w V0 [(w.heap.size + 1, pgO zs), (w.heap.size + 1 + 1, pgO zs), (g11, pgO l2), (g9, pgO l1)])
      refine wpAnyH_ready (rs := [2]) (by kernel_rfl) (by simp) ?_
      refine AllReadyH.cons rfl (fun K hK => ?_) AllReadyH.nil
      refine step_storeP HL1.out zs_length (HM.out.here (w.heap.size + 1, pgO zs) (.head _)) _ _ (by rfl) (by rfl) (by rfl) (by rfl) ?_
      intro W7 hp hb hk
      have HM := hide (HM.out.put hp hb hk).swap
      clear hp hb hk
      refine hK.out _ _ ⟨PAt.range (HM.out.here (g9, pgO l1) (.tail _ (.tail _ (.tail _ (.head _))))), PAt.range (HM.out.here (g11, pgO l2) (.tail _ (.tail _ (.head _))))⟩ (fun hHeld => ?_)
      clear hK K
      try simp only [Act.put, List.getElem_toArray, List.getElem_cons_succ, List.getElem_cons_zero]
      refine wpAnyH_ready (rs := [3]) (by kernel_rfl) (by simp) ?_
      refine AllReadyH.cons rfl (fun K hK => ?_) AllReadyH.nil
      refine step_storeP HL2.out zs_length (HM.out.here (w.heap.size + 1 + 1, pgO zs) (.head _)) _ _ (by rfl) (by rfl) (by rfl) (by rfl) ?_
      intro W8 hp hb hk
      have HM := hide (HM.out.put hp hb hk).swap
      clear hp hb hk
      refine hK.out _ _ ⟨PAt.range (HM.out.here (g9, pgO l1) (.tail _ (.tail _ (.tail _ (.head _))))), PAt.range (HM.out.here (g11, pgO l2) (.tail _ (.tail _ (.head _))))⟩ (fun hHeld => ?_)
      clear hK K
      try simp only [Act.put, List.getElem_toArray, List.getElem_cons_succ, List.getElem_cons_zero]
      refine wpAnyH_take (i := 4) (v := .int .i64 0) rfl (by kernel_rfl) (by kernel_rfl) (by kernel_rfl) (fun _ _ _ h => h) (Or.inl ⟨by rfl, fun V hV => by (dsimp only at hV; go_simp)⟩) hHeld ?_
      try simp only [Act.put, List.getElem_toArray, List.getElem_cons_succ, List.getElem_cons_zero, List.setIfInBounds_toArray, List.set_cons_zero, List.set_cons_succ]
      refine wpAnyH_done (by kernel_rfl) ?_ _
      go_wp2_with fail
      exact ret_page3 (u := .int .i64 0) Try.results26 rfl rfl rfl HL1.out HL2.out (HM.out.here (w.heap.size + 1, pgO l1) (.head _)) (HM.out.here (w.heap.size + 1 + 1, pgO l2) (.tail _ (.head _))) ⟨rfl, HM.out.below⟩
end Go.Proofs.Ythhoeabenngiiaa
