/- The document's Cmp. -/
import Derived.Test.YtfjmoiooonialaaDoorRC
import Derived.Test.YtfjmoiooonialaaDoorVC2
namespace Go.Proofs.YtfjmoiooonialaaDoor
open Go.ChangeShapes Go.WideShapes Go.ChangeAt Go.RowKit
set_option linter.unusedVariables false

set_option maxHeartbeats 1000000 in
set_option maxRecDepth 10000 in
theorem rcmp_walk (k1 n1 : Int) (t1 : ByteArray) (k2 n2 : Int) (t2 : ByteArray) (c : Int) (w : World) : Calls Tryd.prog 18 #[val k1 n1 t1, val k2 n2 t2, .int .i64 c] w fun e w' =>
    e = .returned (.int .i64 (cmpA k1 n1 t1 k2 n2 t2 c)) ∧ Below w.heap.size w w' := by
  have HW : Hid (∀ V, _ → _) := two_later w (.int .i64 k1) (.int .i64 n1) (.string t1) (.int .i64 k2) (.int .i64 n2) (.string t2) 39
  have HM1 : Hid (∀ V, Calls Tryd.prog 20 #[.agg #[.int .i64 k1, .int .i64 n1, .string t1]] V fun e w' => e = .returned (.bool (mayB k1 n1 t1)) ∧ Below V.heap.size V w') := fun V => rmay_walk k1 n1 t1 V
  have HM2 : Hid (∀ V, Calls Tryd.prog 20 #[.agg #[.int .i64 k2, .int .i64 n2, .string t2]] V fun e w' => e = .returned (.bool (mayB k2 n2 t2)) ∧ Below V.heap.size V w') := fun V => rmay_walk k2 n2 t2 V
  unfold cmpA
  by_cases hm1 : mayB k1 n1 t1 = true
  · by_cases hm2 : mayB k2 n2 t2 = true
    · rw [if_pos ⟨hm1, hm2⟩]
      rw [hm1] at HM1
      rw [hm2] at HM2
      have ml1 := of_decide_eq_true hm1
      have ml2 := of_decide_eq_true hm2
      have hl1 : t1.data.toList.length = t1.size := by simp
      have hl2 : t2.data.toList.length = t2.size := by simp
      have hr1 : k1 = 0 ∨ k1 = 1 ∨ k1 = 2 ∨ k1 = 3 := by unfold MayL at ml1; omega
      have hr2 : k2 = 0 ∨ k2 = 1 ∨ k2 = 2 ∨ k2 = 3 := by unfold MayL at ml2; omega
      have HR1 : Hid (∀ V, Calls Tryd.prog 32 #[.int .i64 k1] V fun e w' => e = .returned (.int .i64 k1) ∧ V = w') := fun V => rank_walk k1 hr1 V
      have HR2 : Hid (∀ V, Calls Tryd.prog 32 #[.int .i64 k2] V fun e w' => e = .returned (.int .i64 k2) ∧ V = w') := fun V => rank_walk k2 hr2 V
      by_cases hk : k1 = k2
      · subst hk
        have ek : (k1 != k1) = false := by simp
        unfold cmpV
        rw [if_pos rfl]
        by_cases d2 : k1 = 2
        · rw [if_pos d2]
          have e2 : (k1 == 2) = true := by simpa using d2
          obtain ⟨X, hX⟩ : ∃ X : ByteArray, X = ⟨(foldL c t1.data.toList).toArray⟩ := ⟨_, rfl⟩
          obtain ⟨Y, hY⟩ : ∃ Y : ByteArray, Y = ⟨(foldL c t2.data.toList).toArray⟩ := ⟨_, rfl⟩
          have HF1 : Hid (∀ V, Calls Tryd.prog 34 #[.string t1, .int .i64 c] V fun e w' => e = .returned (.string X) ∧ Below V.heap.size V w') := fun V => by rw [hX]; exact fold_walk t1 (by unfold MayL at ml1; omega) c V
          have HF2 : Hid (∀ V, Calls Tryd.prog 34 #[.string t2, .int .i64 c] V fun e w' => e = .returned (.string Y) ∧ Below V.heap.size V w') := fun V => by rw [hY]; exact fold_walk t2 (by unfold MayL at ml2; omega) c V
          have HT : Hid (∀ V, Calls Tryd.prog 33 #[.string X, .string Y] V fun e w' => e = .returned (.int .i64 (cmpL (foldL c t1.data.toList) (foldL c t2.data.toList))) ∧ V = w') := fun V => by have := texts_walk X Y V; rw [hX, hY] at this; rw [hX, hY]; exact this
          clear hm1 hm2 ml1 ml2 hl1 hl2 hr1 hr2 d2 hX hY
          go_enter Tryd.func18, Tryd.ntmps18
          go_wp2_with (first
            | (go_at_call 20; with_reducible refine Calls.mono (HM1.out _) ?_; rintro e w1 ⟨rfl, hb1⟩; have HX1 := hide3 hb1; obtain ⟨⟨p0, p1, p2⟩, ⟨q0, q1, q2⟩, HB1⟩ := HW.out _ hb1; clear hb1)
            | (go_at_call 20; with_reducible refine Calls.mono (HM2.out _) ?_; rintro e w2 ⟨rfl, hb2⟩; have HX2 := hide3 (below_trans HX1.out hb2); obtain ⟨⟨p0, p1, p2⟩, ⟨q0, q1, q2⟩, HB2⟩ := HW.out _ HX2.out; clear hb2))
          have HD : Hid (∀ V, Below w2.drew.heap.size w2.drew V → Below ((w.alloc (.cells #[.int .i64 k1, .int .i64 n1, .string t1] 39)).alloc (.cells #[.int .i64 k1, .int .i64 n2, .string t2] 39)).heap.size ((w.alloc (.cells #[.int .i64 k1, .int .i64 n1, .string t1] 39)).alloc (.cells #[.int .i64 k1, .int .i64 n2, .string t2] 39)) V) := fun V h => below_trans (below_trans HX2.out (Below.refl _ _).drew) h
          have HS1 : Hid (∀ V, Below ((w.alloc (.cells #[.int .i64 k1, .int .i64 n1, .string t1] 39)).alloc (.cells #[.int .i64 k1, .int .i64 n2, .string t2] 39)).heap.size ((w.alloc (.cells #[.int .i64 k1, .int .i64 n1, .string t1] 39)).alloc (.cells #[.int .i64 k1, .int .i64 n2, .string t2] 39)) V → (V.cell? ⟨w.heap.size, 0, none⟩ = some (.int .i64 k1) ∧ V.cell? ⟨w.heap.size, 1, none⟩ = some (.int .i64 n1) ∧ V.cell? ⟨w.heap.size, 2, none⟩ = some (.string t1)) ∧ (V.cell? ⟨w.heap.size + 1, 0, none⟩ = some (.int .i64 k1) ∧ V.cell? ⟨w.heap.size + 1, 1, none⟩ = some (.int .i64 n2) ∧ V.cell? ⟨w.heap.size + 1, 2, none⟩ = some (.string t2))) := fun V h => ⟨(HW.out V h).1, (HW.out V h).2.1⟩
          have HS0 : Hid ((w2.drew.cell? ⟨w.heap.size, 0, none⟩ = some (.int .i64 k1) ∧ w2.drew.cell? ⟨w.heap.size, 1, none⟩ = some (.int .i64 n1) ∧ w2.drew.cell? ⟨w.heap.size, 2, none⟩ = some (.string t1)) ∧ (w2.drew.cell? ⟨w.heap.size + 1, 0, none⟩ = some (.int .i64 k1) ∧ w2.drew.cell? ⟨w.heap.size + 1, 1, none⟩ = some (.int .i64 n2) ∧ w2.drew.cell? ⟨w.heap.size + 1, 2, none⟩ = some (.string t2))) := HS1.out _ (HD.out _ (Below.refl _ _))
          go_region_held3 (fun V => (V.cell? ⟨w.heap.size, 0, none⟩ = some (.int .i64 k1) ∧ V.cell? ⟨w.heap.size, 1, none⟩ = some (.int .i64 n1) ∧ V.cell? ⟨w.heap.size, 2, none⟩ = some (.string t1)) ∧ (V.cell? ⟨w.heap.size + 1, 0, none⟩ = some (.int .i64 k1) ∧ V.cell? ⟨w.heap.size + 1, 1, none⟩ = some (.int .i64 n2) ∧ V.cell? ⟨w.heap.size + 1, 2, none⟩ = some (.string t2))) (first | with_reducible exact HS0.out | with_reducible exact HS1.out _ HX3.out | with_reducible exact HS1.out _ HX4.out) (first
            | (go_at_call 34; with_reducible refine Calls.mono (HF1.out _) ?_; rintro e w3 ⟨rfl, hb3⟩; have HX3 := hide3 (HD.out _ hb3); clear hb3)
            | (go_at_call 34; with_reducible refine Calls.mono (HF2.out _) ?_; rintro e w4 ⟨rfl, hb4⟩; have HX4 := hide3 (below_trans HX3.out hb4); clear hb4)
            | (go_at_call 33; with_reducible refine Calls.mono (HT.out _) ?_; rintro e w5 ⟨rfl, rfl⟩))
          all_goals (try go_wp2)
          all_goals go_ret
          all_goals exact ⟨rfl, (HW.out _ HX4.out).2.2.out⟩
        · rw [if_neg d2]
          have e2 : (k1 == 2) = false := by simpa using d2
          have HT : Hid (∀ V, Calls Tryd.prog 33 #[.string t1, .string t2] V fun e w' => e = .returned (.int .i64 (cmpL t1.data.toList t2.data.toList)) ∧ V = w') := fun V => texts_walk t1 t2 V
          by_cases hlt : n1 < n2
          · have hR : (if k1 = 3 then cmpL t1.data.toList t2.data.toList else cmpI n1 n2) = -1 := by
              rw [if_neg (by unfold MayL at ml1 ml2; omega)]; unfold cmpI; rw [if_pos hlt]
            rw [hR]
            clear hm1 hm2 ml1 ml2 hl1 hl2 hr1 hr2 d2 hR
            go_enter Tryd.func18, Tryd.ntmps18
            go_wp2_with (first
              | (go_at_call 20; with_reducible refine Calls.mono (HM1.out _) ?_; rintro e w1 ⟨rfl, hb1⟩; have HX1 := hide3 hb1; obtain ⟨⟨p0, p1, p2⟩, ⟨q0, q1, q2⟩, HB1⟩ := HW.out _ hb1; clear hb1)
              | (go_at_call 20; with_reducible refine Calls.mono (HM2.out _) ?_; rintro e w2 ⟨rfl, hb2⟩; have HX2 := hide3 (below_trans HX1.out hb2); obtain ⟨⟨p0, p1, p2⟩, ⟨q0, q1, q2⟩, HB2⟩ := HW.out _ HX2.out; clear hb2)
              | (go_at_call 32; with_reducible refine Calls.mono (HR1.out _) ?_; rintro e w3 ⟨rfl, rfl⟩)
              | (go_at_call 32; with_reducible refine Calls.mono (HR2.out _) ?_; rintro e w3 ⟨rfl, rfl⟩)
              | (go_at_call 33; with_reducible refine Calls.mono (HT.out _) ?_; rintro e w3 ⟨rfl, rfl⟩))
            all_goals go_ret
            all_goals exact ⟨rfl, HB2.out⟩
          · by_cases hgt : n2 < n1
            · have hR : (if k1 = 3 then cmpL t1.data.toList t2.data.toList else cmpI n1 n2) = 1 := by
                rw [if_neg (by unfold MayL at ml1 ml2; omega)]; unfold cmpI; rw [if_neg hlt, if_pos hgt]
              rw [hR]
              clear hm1 hm2 ml1 ml2 hl1 hl2 hr1 hr2 d2 hR
              go_enter Tryd.func18, Tryd.ntmps18
              go_wp2_with (first
                | (go_at_call 20; with_reducible refine Calls.mono (HM1.out _) ?_; rintro e w1 ⟨rfl, hb1⟩; have HX1 := hide3 hb1; obtain ⟨⟨p0, p1, p2⟩, ⟨q0, q1, q2⟩, HB1⟩ := HW.out _ hb1; clear hb1)
                | (go_at_call 20; with_reducible refine Calls.mono (HM2.out _) ?_; rintro e w2 ⟨rfl, hb2⟩; have HX2 := hide3 (below_trans HX1.out hb2); obtain ⟨⟨p0, p1, p2⟩, ⟨q0, q1, q2⟩, HB2⟩ := HW.out _ HX2.out; clear hb2)
                | (go_at_call 32; with_reducible refine Calls.mono (HR1.out _) ?_; rintro e w3 ⟨rfl, rfl⟩)
                | (go_at_call 32; with_reducible refine Calls.mono (HR2.out _) ?_; rintro e w3 ⟨rfl, rfl⟩)
                | (go_at_call 33; with_reducible refine Calls.mono (HT.out _) ?_; rintro e w3 ⟨rfl, rfl⟩))
              all_goals go_ret
              all_goals exact ⟨rfl, HB2.out⟩
            · have hR : (if k1 = 3 then cmpL t1.data.toList t2.data.toList else cmpI n1 n2) = cmpL t1.data.toList t2.data.toList := by
                by_cases k3 : k1 = 3
                · rw [if_pos k3]
                · rw [if_neg k3]
                  unfold cmpI
                  rw [if_neg hlt, if_neg hgt]
                  unfold MayL at ml1 ml2
                  have z1 : t1.data.toList = [] := List.length_eq_zero_iff.1 (by rcases ml1 with h | h | h; rw [h.2.2]; rfl; rw [h.2]; rfl; omega)
                  have z2 : t2.data.toList = [] := List.length_eq_zero_iff.1 (by rcases ml2 with h | h | h; rw [h.2.2]; rfl; rw [h.2]; rfl; omega)
                  rw [z1, z2]; rfl
              rw [hR]
              clear hm1 hm2 ml1 ml2 hl1 hl2 hr1 hr2 d2 hR
              go_enter Tryd.func18, Tryd.ntmps18
              go_wp2_with (first
                | (go_at_call 20; with_reducible refine Calls.mono (HM1.out _) ?_; rintro e w1 ⟨rfl, hb1⟩; have HX1 := hide3 hb1; obtain ⟨⟨p0, p1, p2⟩, ⟨q0, q1, q2⟩, HB1⟩ := HW.out _ hb1; clear hb1)
                | (go_at_call 20; with_reducible refine Calls.mono (HM2.out _) ?_; rintro e w2 ⟨rfl, hb2⟩; have HX2 := hide3 (below_trans HX1.out hb2); obtain ⟨⟨p0, p1, p2⟩, ⟨q0, q1, q2⟩, HB2⟩ := HW.out _ HX2.out; clear hb2)
                | (go_at_call 32; with_reducible refine Calls.mono (HR1.out _) ?_; rintro e w3 ⟨rfl, rfl⟩)
                | (go_at_call 32; with_reducible refine Calls.mono (HR2.out _) ?_; rintro e w3 ⟨rfl, rfl⟩)
                | (go_at_call 33; with_reducible refine Calls.mono (HT.out _) ?_; rintro e w3 ⟨rfl, rfl⟩))
              all_goals go_ret
              all_goals exact ⟨rfl, HB2.out⟩
      · have HV : Hid (cmpV k1 n1 t1.data.toList k2 n2 t2.data.toList c = cmpI k1 k2) := by unfold cmpV; exact if_neg hk
        rw [HV.out]
        have hk1 : (k1 != k2) = true := by simp [bne, hk]
        unfold cmpI
        by_cases hlt : k1 < k2
        · rw [if_pos hlt]
          clear hm1 hm2 ml1 ml2 hl1 hl2 hr1 hr2 HV
          go_enter Tryd.func18, Tryd.ntmps18
          go_wp2_with (first
            | (go_at_call 20; with_reducible refine Calls.mono (HM1.out _) ?_; rintro e w1 ⟨rfl, hb1⟩; have HX1 := hide3 hb1; obtain ⟨⟨p0, p1, p2⟩, ⟨q0, q1, q2⟩, HB1⟩ := HW.out _ hb1; clear hb1)
            | (go_at_call 20; with_reducible refine Calls.mono (HM2.out _) ?_; rintro e w2 ⟨rfl, hb2⟩; have HX2 := hide3 (below_trans HX1.out hb2); obtain ⟨⟨p0, p1, p2⟩, ⟨q0, q1, q2⟩, HB2⟩ := HW.out _ HX2.out; clear hb2)
            | (go_at_call 32; with_reducible refine Calls.mono (HR1.out _) ?_; rintro e w3 ⟨rfl, rfl⟩)
            | (go_at_call 32; with_reducible refine Calls.mono (HR2.out _) ?_; rintro e w3 ⟨rfl, rfl⟩))
          have HD : Hid (∀ V, Below w2.drew.heap.size w2.drew V → Below ((w.alloc (.cells #[.int .i64 k1, .int .i64 n1, .string t1] 39)).alloc (.cells #[.int .i64 k2, .int .i64 n2, .string t2] 39)).heap.size ((w.alloc (.cells #[.int .i64 k1, .int .i64 n1, .string t1] 39)).alloc (.cells #[.int .i64 k2, .int .i64 n2, .string t2] 39)) V) := fun V h => below_trans (below_trans HX2.out (Below.refl _ _).drew) h
          have HS0 : Hid ((w2.drew.cell? ⟨w.heap.size, 0, none⟩ = some (.int .i64 k1) ∧ w2.drew.cell? ⟨w.heap.size, 1, none⟩ = some (.int .i64 n1) ∧ w2.drew.cell? ⟨w.heap.size, 2, none⟩ = some (.string t1)) ∧ (w2.drew.cell? ⟨w.heap.size + 1, 0, none⟩ = some (.int .i64 k2) ∧ w2.drew.cell? ⟨w.heap.size + 1, 1, none⟩ = some (.int .i64 n2) ∧ w2.drew.cell? ⟨w.heap.size + 1, 2, none⟩ = some (.string t2))) := ⟨(HW.out _ (HD.out _ (Below.refl _ _))).1, (HW.out _ (HD.out _ (Below.refl _ _))).2.1⟩
          go_region_held3 (fun V => (V.cell? ⟨w.heap.size, 0, none⟩ = some (.int .i64 k1) ∧ V.cell? ⟨w.heap.size, 1, none⟩ = some (.int .i64 n1) ∧ V.cell? ⟨w.heap.size, 2, none⟩ = some (.string t1)) ∧ (V.cell? ⟨w.heap.size + 1, 0, none⟩ = some (.int .i64 k2) ∧ V.cell? ⟨w.heap.size + 1, 1, none⟩ = some (.int .i64 n2) ∧ V.cell? ⟨w.heap.size + 1, 2, none⟩ = some (.string t2))) (first | with_reducible exact HS0.out) (first
            | (go_at_call 32; with_reducible refine Calls.mono (HR1.out _) ?_; rintro e w3 ⟨rfl, rfl⟩)
            | (go_at_call 32; with_reducible refine Calls.mono (HR2.out _) ?_; rintro e w3 ⟨rfl, rfl⟩))
          all_goals (try go_wp2)
          all_goals go_ret
          all_goals exact ⟨rfl, HB2.out.drew⟩
        · rw [if_neg hlt, if_pos (by omega)]
          clear hm1 hm2 ml1 ml2 hl1 hl2 hr1 hr2 HV
          go_enter Tryd.func18, Tryd.ntmps18
          go_wp2_with (first
            | (go_at_call 20; with_reducible refine Calls.mono (HM1.out _) ?_; rintro e w1 ⟨rfl, hb1⟩; have HX1 := hide3 hb1; obtain ⟨⟨p0, p1, p2⟩, ⟨q0, q1, q2⟩, HB1⟩ := HW.out _ hb1; clear hb1)
            | (go_at_call 20; with_reducible refine Calls.mono (HM2.out _) ?_; rintro e w2 ⟨rfl, hb2⟩; have HX2 := hide3 (below_trans HX1.out hb2); obtain ⟨⟨p0, p1, p2⟩, ⟨q0, q1, q2⟩, HB2⟩ := HW.out _ HX2.out; clear hb2)
            | (go_at_call 32; with_reducible refine Calls.mono (HR1.out _) ?_; rintro e w3 ⟨rfl, rfl⟩)
            | (go_at_call 32; with_reducible refine Calls.mono (HR2.out _) ?_; rintro e w3 ⟨rfl, rfl⟩))
          have HD : Hid (∀ V, Below w2.drew.heap.size w2.drew V → Below ((w.alloc (.cells #[.int .i64 k1, .int .i64 n1, .string t1] 39)).alloc (.cells #[.int .i64 k2, .int .i64 n2, .string t2] 39)).heap.size ((w.alloc (.cells #[.int .i64 k1, .int .i64 n1, .string t1] 39)).alloc (.cells #[.int .i64 k2, .int .i64 n2, .string t2] 39)) V) := fun V h => below_trans (below_trans HX2.out (Below.refl _ _).drew) h
          have HS0 : Hid ((w2.drew.cell? ⟨w.heap.size, 0, none⟩ = some (.int .i64 k1) ∧ w2.drew.cell? ⟨w.heap.size, 1, none⟩ = some (.int .i64 n1) ∧ w2.drew.cell? ⟨w.heap.size, 2, none⟩ = some (.string t1)) ∧ (w2.drew.cell? ⟨w.heap.size + 1, 0, none⟩ = some (.int .i64 k2) ∧ w2.drew.cell? ⟨w.heap.size + 1, 1, none⟩ = some (.int .i64 n2) ∧ w2.drew.cell? ⟨w.heap.size + 1, 2, none⟩ = some (.string t2))) := ⟨(HW.out _ (HD.out _ (Below.refl _ _))).1, (HW.out _ (HD.out _ (Below.refl _ _))).2.1⟩
          go_region_held3 (fun V => (V.cell? ⟨w.heap.size, 0, none⟩ = some (.int .i64 k1) ∧ V.cell? ⟨w.heap.size, 1, none⟩ = some (.int .i64 n1) ∧ V.cell? ⟨w.heap.size, 2, none⟩ = some (.string t1)) ∧ (V.cell? ⟨w.heap.size + 1, 0, none⟩ = some (.int .i64 k2) ∧ V.cell? ⟨w.heap.size + 1, 1, none⟩ = some (.int .i64 n2) ∧ V.cell? ⟨w.heap.size + 1, 2, none⟩ = some (.string t2))) (first | with_reducible exact HS0.out) (first
            | (go_at_call 32; with_reducible refine Calls.mono (HR1.out _) ?_; rintro e w3 ⟨rfl, rfl⟩)
            | (go_at_call 32; with_reducible refine Calls.mono (HR2.out _) ?_; rintro e w3 ⟨rfl, rfl⟩))
          all_goals (try go_wp2)
          all_goals go_ret
          all_goals exact ⟨rfl, HB2.out.drew⟩
    · rw [if_neg (fun h => hm2 h.2)]
      rw [hm1] at HM1
      have hm2' : mayB k2 n2 t2 = false := by simpa using hm2
      rw [hm2'] at HM2
      clear hm1 hm2 hm2'
      go_enter Tryd.func18, Tryd.ntmps18
      go_wp2_with (first
        | (go_at_call 20; with_reducible refine Calls.mono (HM1.out _) ?_; rintro e w1 ⟨rfl, hb1⟩; have HX1 := hide3 hb1; obtain ⟨⟨p0, p1, p2⟩, ⟨q0, q1, q2⟩, HB1⟩ := HW.out _ hb1; clear hb1)
        | (go_at_call 20; with_reducible refine Calls.mono (HM2.out _) ?_; rintro e w2 ⟨rfl, hb2⟩; have HX2 := hide3 (below_trans HX1.out hb2); obtain ⟨⟨p0, p1, p2⟩, ⟨q0, q1, q2⟩, HB2⟩ := HW.out _ HX2.out; clear hb2))
      go_ret
      exact ⟨rfl, HB2.out⟩
  · rw [if_neg (fun h => hm1 h.1)]
    have hm1' : mayB k1 n1 t1 = false := by simpa using hm1
    rw [hm1'] at HM1
    clear hm1 hm1'
    go_enter Tryd.func18, Tryd.ntmps18
    go_wp2_with (first
      | (go_at_call 20; with_reducible refine Calls.mono (HM1.out _) ?_; rintro e w1 ⟨rfl, hb1⟩; have HX1 := hide3 hb1; obtain ⟨⟨p0, p1, p2⟩, ⟨q0, q1, q2⟩, HB1⟩ := HW.out _ hb1; clear hb1))
    go_ret
    exact ⟨rfl, HB1.out⟩
end Go.Proofs.YtfjmoiooonialaaDoor
