/- The walk of DiskSeal. -/
import Derived.Test.YtefcconbpomedaaU1
namespace Go.Proofs.Ytefcconbpomedaa
open Go.ChangeShapes Go.WideShapes Go.ChangeAt Go.RowKit
set_option linter.unusedVariables false

set_option maxHeartbeats 4000000 in
set_option maxRecDepth 100000 in
theorem seal_walk (w : World) (a b c d p q r s : Nat) (ha : a < 4294967296) (hb : b < 4294967296) (hc : c < 4294967296) (hd : d < 4294967296) (hp : p < 4294967296) (hq : q < 4294967296) (hr : r < 4294967296) (hs : s < 4294967296) :
    Calls Try.prog 4 #[.agg (vec a b c d), .agg (vec p q r s)] w fun e w' => e = .returned (.bool true) ∧ Below w.heap.size w w' := by
  have SA := fun w => seal_any w a b c d ha hb hc hd
  have SB := fun w => seal_any w p q r s hp hq hr hs
  obtain ⟨xs, hX⟩ : ∃ xs : List Value, xs = bcs (sealB a b c d) := ⟨_, rfl⟩
  obtain ⟨ys, hY⟩ : ∃ ys : List Value, ys = bcs (sealB p q r s) := ⟨_, rfl⟩
  rw [← hX] at SA
  rw [← hY] at SB
  have HSA : Hid (∀ w, Calls Try.prog 23 #[.agg (vec a b c d)] w fun e w' => e = .returned (.agg xs.toArray) ∧ w.grownBy w' none) := SA
  have HSB : Hid (∀ w, Calls Try.prog 23 #[.agg (vec p q r s)] w fun e w' => e = .returned (.agg ys.toArray) ∧ w.grownBy w' none) := SB
  have lx : xs.length = 64 := by rw [hX]; simp [length_bcs, sealB, length_laid]
  have ly : ys.length = 64 := by rw [hY]; simp [length_bcs, sealB, length_laid]
  have ox : ∀ v ∈ xs, v.oneCell' = true := by rw [hX]; exact one_bcs _
  have oy : ∀ v ∈ ys, v.oneCell' = true := by rw [hY]; exact one_bcs _
  have ix : (Try.prog.info? 42).map (·.size) = some xs.length := by rw [lx]; exact info42s
  have iy : (Try.prog.info? 42).map (·.size) = some ys.length := by rw [ly]; exact info42s
  have HX : Hid (xs = bcs (sealB a b c d)) := hX
  have HY : Hid (ys = bcs (sealB p q r s)) := hY
  clear SA SB hX hY
  go_enter Try.func4, Try.ntmps4
  go_upto_region 1 with fail
  have hW := two_alloc w (.cells (vec a b c d) 40) (.cells (vec p q r s) 40)
  go_name_world W hWe
  rw [hWe] at hW
  obtain ⟨hgr, hsz, hA, hB⟩ := hW
  clear hWe
  have hbx0 : Bx w.heap.size (vec a b c d) (vec p q r s) W.drew := ⟨hA, hB⟩
  have hbx1 : Bx w.heap.size (vec a b c d) (vec p q r s) W := ⟨hA, hB⟩
  have HK : Hid (∀ V, Bx w.heap.size (vec a b c d) (vec p q r s) V → V.cell? ⟨w.heap.size, 0, none⟩ = some (.int .u32 a) ∧ V.cell? ⟨w.heap.size, 1, none⟩ = some (.int .u32 b) ∧ V.cell? ⟨w.heap.size, 2, none⟩ = some (.int .u32 c) ∧ V.cell? ⟨w.heap.size, 3, none⟩ = some (.int .u32 d) ∧
      V.cell? ⟨w.heap.size + 1, 0, none⟩ = some (.int .u32 p) ∧ V.cell? ⟨w.heap.size + 1, 1, none⟩ = some (.int .u32 q) ∧ V.cell? ⟨w.heap.size + 1, 2, none⟩ = some (.int .u32 r) ∧ V.cell? ⟨w.heap.size + 1, 3, none⟩ = some (.int .u32 s)) := fun V h =>
    ⟨h.a.cell 0, h.a.cell 1, h.a.cell 2, h.a.cell 3, h.b.cell 0, h.b.cell 1, h.b.cell 2, h.b.cell 3⟩
  have HSZ : Hid (W.heap.size = w.heap.size + 2) := hsz
  clear hA hB hsz
  have r1 := fun (U : World) => there_new U #[.int .u8 0, .int .u8 0, .int .u8 0, .int .u8 0, .int .u8 0, .int .u8 0, .int .u8 0, .int .u8 0, .int .u8 0, .int .u8 0, .int .u8 0, .int .u8 0, .int .u8 0, .int .u8 0, .int .u8 0, .int .u8 0, .int .u8 0, .int .u8 0, .int .u8 0, .int .u8 0, .int .u8 0, .int .u8 0, .int .u8 0, .int .u8 0, .int .u8 0, .int .u8 0, .int .u8 0, .int .u8 0, .int .u8 0, .int .u8 0, .int .u8 0, .int .u8 0, .int .u8 0, .int .u8 0, .int .u8 0, .int .u8 0, .int .u8 0, .int .u8 0, .int .u8 0, .int .u8 0, .int .u8 0, .int .u8 0, .int .u8 0, .int .u8 0, .int .u8 0, .int .u8 0, .int .u8 0, .int .u8 0, .int .u8 0, .int .u8 0, .int .u8 0, .int .u8 0, .int .u8 0, .int .u8 0, .int .u8 0, .int .u8 0, .int .u8 0, .int .u8 0, .int .u8 0, .int .u8 0, .int .u8 0, .int .u8 0, .int .u8 0, .int .u8 0] rfl
  have r2 := fun (U : World) (o : Obj) (g : Nat) (h : U.there g 0 64) => World.there_alloc h o
  have r3 := fun (U : World) (o : Obj) => there_new2 U o #[.int .u8 0, .int .u8 0, .int .u8 0, .int .u8 0, .int .u8 0, .int .u8 0, .int .u8 0, .int .u8 0, .int .u8 0, .int .u8 0, .int .u8 0, .int .u8 0, .int .u8 0, .int .u8 0, .int .u8 0, .int .u8 0, .int .u8 0, .int .u8 0, .int .u8 0, .int .u8 0, .int .u8 0, .int .u8 0, .int .u8 0, .int .u8 0, .int .u8 0, .int .u8 0, .int .u8 0, .int .u8 0, .int .u8 0, .int .u8 0, .int .u8 0, .int .u8 0, .int .u8 0, .int .u8 0, .int .u8 0, .int .u8 0, .int .u8 0, .int .u8 0, .int .u8 0, .int .u8 0, .int .u8 0, .int .u8 0, .int .u8 0, .int .u8 0, .int .u8 0, .int .u8 0, .int .u8 0, .int .u8 0, .int .u8 0, .int .u8 0, .int .u8 0, .int .u8 0, .int .u8 0, .int .u8 0, .int .u8 0, .int .u8 0, .int .u8 0, .int .u8 0, .int .u8 0, .int .u8 0, .int .u8 0, .int .u8 0, .int .u8 0, .int .u8 0] rfl
  have r4 := fun (U : World) (g b' : Nat) (cs : List Value) (h : U.there g 0 64) => World.there_setCells h b' 0 cs
  have r5 := fun (U : World) (g : Nat) (h : U.there g 0 64) => (World.there_drew U g 0 64).2 h
  have hbel : Below w.heap.size w W := (Only.of_grown hgr).below (Nat.le_refl _) (by simp)
  go_cut [5, 6] from 12 (fun v5 v6 V => ∃ bx b', v5 = .pointer (some ⟨bx, 0, none⟩) ∧ v6 = .pointer (some ⟨b', 0, none⟩) ∧ Below w.heap.size w V ∧ V.rangeAt bx 0 xs ∧ V.rangeAt b' 0 ys ∧ Bx w.heap.size (vec a b c d) (vec p q r s) V)
  case rest =>
    obtain ⟨bx, b', rfl, rfl, hbel2, hrx, hry, hbx⟩ := hcut
    obtain ⟨V, hV⟩ : ∃ v, v = wc := ⟨_, rfl⟩
    subst hV
    have hAok : Q4.ok ⟨a, b, c, d⟩ := ⟨ha, hb, hc, hd⟩
    have hBok : Q4.ok ⟨p, q, r, s⟩ := ⟨hp, hq, hr, hs⟩
    have hm : Mm w V bx b' ⟨a, b, c, d⟩ ⟨p, q, r, s⟩ := ⟨hbel2, by rw [HX.out] at hrx; exact hrx, by rw [HY.out] at hry; exact hry, range_of_blk hbx.a, range_of_blk hbx.b⟩
    obtain ⟨A, hA'⟩ : ∃ A : Q4, (⟨a, b, c, d⟩ : Q4) = A := ⟨_, rfl⟩
    obtain ⟨B, hB'⟩ : ∃ B : Q4, (⟨p, q, r, s⟩ : Q4) = B := ⟨_, rfl⟩
    rw [hA'] at hAok hm
    rw [hB'] at hBok hm
    have HM := hideD hm
    have HAo := hideD hAok
    have HBo := hideD hBok
    clear hA' hB' hAok hBok hm hbel2 hrx hry hbx HSA HSB lx ly ox oy ix iy HX HY hgr hbx0 hbx1 HK HSZ r1 r2 r3 r4 r5 hbel ha hb hc hd hp hq hr hs
    have HOx : Hid (∀ V, Calls Try.prog 24 #[.agg (bcs A.s).toArray] V fun e w' => e = .returned (.agg A.v) ∧ Below V.heap.size V w') := fun V => (open_any V A.s A.s_length).mono fun e w' ⟨h1, h2⟩ => ⟨by rw [h1, says_self A HAo.out], bel_grown h2⟩
    have HOy : Hid (∀ V, Calls Try.prog 24 #[.agg (bcs B.s).toArray] V fun e w' => e = .returned (.agg B.v) ∧ Below V.heap.size V w') := fun V => (open_any V B.s B.s_length).mono fun e w' ⟨h1, h2⟩ => ⟨by rw [h1, says_self B HBo.out], bel_grown h2⟩
    have hnA := neq_no A
    have hnB := neq_no B
    have iA := i42 A.s_length
    have iB := i42 B.s_length
    have jA := i40 A
    have jB := i40 B
    go_upto_region 2 with fail
    have HMd := hideD (HM.out.later ((Below.refl _ _).drew))
    refine wp_region_held_drew (S := fun V' => V'.rangeAt bx 0 (bcs A.s) ∧ V'.rangeAt b' 0 (bcs B.s) ∧ V'.rangeAt w.heap.size 0 A.v.toList ∧ V'.rangeAt (w.heap.size + 1) 0 B.v.toList) (by kernel_rfl) ⟨HMd.out.x, HMd.out.y, HMd.out.p, HMd.out.q⟩ (fun hHeld => ?_)
    refine wpAnyH_take (i := 0) (v := .agg (bcs A.s).toArray) rfl (by kernel_rfl) (by kernel_rfl) (by kernel_rfl) (fun _ _ _ h => h) (yieldsIf_load_mid (by rfl) _ _ rfl _ _ rfl _ _ (fun V hV => hV.1) ar42 rfl iA) hHeld ?_
    try simp only [Act.put, List.getElem_toArray, List.getElem_cons_zero, List.setIfInBounds_toArray, List.set_cons_zero, List.set_cons_succ]
    refine wpAnyH_take (i := 2) (v := .agg A.v) rfl (by kernel_rfl) (by kernel_rfl) (by kernel_rfl) (fun _ _ _ h => h) (yieldsIf_load_mid (by rfl) _ _ rfl _ _ rfl _ _ (fun V hV => hV.2.2.1) ar40 rfl jA) hHeld ?_
    try simp only [Act.put, List.getElem_toArray, List.getElem_cons_succ, List.getElem_cons_zero, List.setIfInBounds_toArray, List.set_cons_zero, List.set_cons_succ]
    refine wpAnyH_ready (rs := [1]) (by kernel_rfl) (by simp) ?_
    refine AllReadyH.cons rfl (fun K hK => ?_) AllReadyH.nil
    go_simp
    go_at_call 24; with_reducible refine Calls.mono (HOx.out _) ?_; rintro e w1 ⟨rfl, hb1⟩; have HM1 := hideD (HMd.out.later hb1); clear hb1
    go_wp2_with fail
    refine hK.out _ _ (⟨HM1.out.x, HM1.out.y, HM1.out.p, HM1.out.q⟩) (fun hHeld => ?_)
    clear hK K
    try simp only [Act.put, List.getElem_toArray, List.getElem_cons_succ, List.getElem_cons_zero, List.setIfInBounds_toArray, List.set_cons_zero, List.set_cons_succ]
    refine wpAnyH_take (i := 3) (v := .bool false) rfl (by kernel_rfl) (by kernel_rfl) (by kernel_rfl) (fun _ _ _ h => h) (Or.inl ⟨by rfl, fun V hV => by (dsimp only at hV; go_simp)⟩) hHeld ?_
    try simp only [Act.put, List.getElem_toArray, List.getElem_cons_succ, List.getElem_cons_zero, List.setIfInBounds_toArray, List.set_cons_zero, List.set_cons_succ]
    refine wpAnyH_take (i := 4) (v := .bool false) rfl (by kernel_rfl) (by kernel_rfl) (by kernel_rfl) (fun _ _ _ h => h) (Or.inl ⟨by rfl, fun V hV => by (dsimp only at hV; go_simp)⟩) hHeld ?_
    try simp only [Act.put, List.getElem_toArray, List.getElem_cons_succ, List.getElem_cons_zero, List.setIfInBounds_toArray, List.set_cons_zero, List.set_cons_succ]
    refine wpAnyH_take (i := 5) (v := .agg (bcs B.s).toArray) rfl (by kernel_rfl) (by kernel_rfl) (by kernel_rfl) (fun _ _ _ h => h) (yieldsIf_load_mid (by rfl) _ _ rfl _ _ rfl _ _ (fun V hV => hV.2.1) ar42 rfl iB) hHeld ?_
    try simp only [Act.put, List.getElem_toArray, List.getElem_cons_succ, List.getElem_cons_zero, List.setIfInBounds_toArray, List.set_cons_zero, List.set_cons_succ]
    refine wpAnyH_take (i := 7) (v := .agg B.v) rfl (by kernel_rfl) (by kernel_rfl) (by kernel_rfl) (fun _ _ _ h => h) (yieldsIf_load_mid (by rfl) _ _ rfl _ _ rfl _ _ (fun V hV => hV.2.2.2) ar40 rfl jB) hHeld ?_
    try simp only [Act.put, List.getElem_toArray, List.getElem_cons_succ, List.getElem_cons_zero, List.setIfInBounds_toArray, List.set_cons_zero, List.set_cons_succ]
    refine wpAnyH_ready (rs := [6]) (by kernel_rfl) (by simp) ?_
    refine AllReadyH.cons rfl (fun K hK => ?_) AllReadyH.nil
    go_simp
    go_at_call 24; with_reducible refine Calls.mono (HOy.out _) ?_; rintro e w2 ⟨rfl, hb2⟩; have HM2 := hideD (HM1.out.later hb2); clear hb2
    go_wp2_with fail
    refine hK.out _ _ (⟨HM2.out.x, HM2.out.y, HM2.out.p, HM2.out.q⟩) (fun hHeld => ?_)
    clear hK K
    try simp only [Act.put, List.getElem_toArray, List.getElem_cons_succ, List.getElem_cons_zero, List.setIfInBounds_toArray, List.set_cons_zero, List.set_cons_succ]
    refine wpAnyH_take (i := 8) (v := .bool false) rfl (by kernel_rfl) (by kernel_rfl) (by kernel_rfl) (fun _ _ _ h => h) (Or.inl ⟨by rfl, fun V hV => by (dsimp only at hV; go_simp)⟩) hHeld ?_
    try simp only [Act.put, List.getElem_toArray, List.getElem_cons_succ, List.getElem_cons_zero, List.setIfInBounds_toArray, List.set_cons_zero, List.set_cons_succ]
    refine wpAnyH_take (i := 9) (v := .bool false) rfl (by kernel_rfl) (by kernel_rfl) (by kernel_rfl) (fun _ _ _ h => h) (Or.inl ⟨by rfl, fun V hV => by (dsimp only at hV; go_simp)⟩) hHeld ?_
    try simp only [Act.put, List.getElem_toArray, List.getElem_cons_succ, List.getElem_cons_zero, List.setIfInBounds_toArray, List.set_cons_zero, List.set_cons_succ]
    refine wpAnyH_done (by kernel_rfl) ?_ _
    have HM := HM2
    clear HM1 HM2 HMd hHeld hnA hnB
    go_wp2_with fail
    go_loopw [7] (fun tv wr => ∃ t : Nat, t ≤ 65 ∧ tv = .int .i64 (t : Int) ∧ Mm w wr bx b' A B) (fun tv _ => 65 - (intOf tv).toNat)
    case atStart => exact ⟨0, by omega, rfl, HM.out⟩
    case round =>
      obtain ⟨t, ht, rfl, hm⟩ := hrel
      have HM := hideD hm
      clear hm
      by_cases hlt : t ≤ 64
      · have l1 : (t : Int) ≤ 64 := by omega
        have hw1 : IntKind.i64.wrap ((t : Int) + 1) = (t : Int) + 1 := by rw [IntKind.wrap_i64]; omega
        obtain ⟨C, hCo, hCAB, hsay, hall⟩ := says_torn A B HAo.out HBo.out t hlt
        have lO := cut_length A.s B.s t A.s_length B.s_length hlt
        have HCut : Hid (∀ V, Calls Try.prog 25 #[.agg (bcs A.s).toArray, .agg (bcs B.s).toArray, .int .i64 (t : Int)] V fun e w' => e = .returned (.agg (bcs (cutB A.s B.s t)).toArray) ∧ Below V.heap.size V w') := fun V => (cut_any V A.s B.s A.s_length B.s_length t hlt).mono fun e w' ⟨h1, h2⟩ => ⟨h1, bel_grown h2⟩
        obtain ⟨O, hO⟩ : ∃ O, cutB A.s B.s t = O := ⟨_, rfl⟩
        rw [hO] at hsay hall lO HCut
        have HOp : Hid (∀ V, Calls Try.prog 24 #[.agg (bcs O).toArray] V fun e w' => e = .returned (.agg C.v) ∧ Below V.heap.size V w') := fun V => (open_any V O lO).mono fun e w' ⟨h1, h2⟩ => ⟨by rw [h1, hsay], bel_grown h2⟩
        have HSl : Hid (∀ V, Calls Try.prog 23 #[.agg C.v] V fun e w' => e = .returned (.agg (bcs C.s).toArray) ∧ Below V.heap.size V w') := fun V => (seal_any V C.a C.b C.c C.d hCo.1 hCo.2.1 hCo.2.2.1 hCo.2.2.2).mono fun e w' ⟨h1, h2⟩ => ⟨h1, bel_grown h2⟩
        have HCk : Hid (∀ k : Nat, k ≤ 64 → ∀ V, Calls Try.prog 25 #[.agg (bcs C.s).toArray, .agg (bcs O).toArray, .int .i64 (k : Int)] V fun e w' => e = .returned (.agg (bcs (cutB C.s O k)).toArray) ∧ Below V.heap.size V w') := fun k hk V => (cut_any V C.s O C.s_length lO k hk).mono fun e w' ⟨h1, h2⟩ => ⟨h1, bel_grown h2⟩
        have HOk : Hid (∀ k : Nat, k ≤ 64 → ∀ V, Calls Try.prog 24 #[.agg (bcs (cutB C.s O k)).toArray] V fun e w' => e = .returned (.agg C.v) ∧ Below V.heap.size V w') := fun k hk V => (open_any V _ (cut_length C.s O k C.s_length lO hk)).mono fun e w' ⟨h1, h2⟩ => ⟨by rw [h1, hall k hk], bel_grown h2⟩
        have HLO := hideD lO
        have HCs := hideD C.s_length
        have iO := i42 lO
        have iC := i42 C.s_length
        have jC := i40 C
        have HCAB := hideD hCAB
        clear hCo hCAB hsay hall lO hO
        go_upto_region 9 with (first
          | ((with_reducible refine atL42 ?_); refine wp_loadS A.s_length HM.out.x _ (by rfl) (by rfl) (by rfl) ?_)
          | ((with_reducible refine atL42 ?_); refine wp_loadS B.s_length HM.out.y _ (by rfl) (by rfl) (by rfl) ?_)
          | ((with_reducible refine atL42 ?_); refine wp_loadS HLO.out HR1.out _ (by rfl) (by rfl) (by rfl) ?_)
          | (go_at_call 25; with_reducible refine Calls.mono (HCut.out _) ?_; rintro e w3 ⟨rfl, hb⟩; have HM := hideD (HM.out.later hb); clear hb)
          | (go_at_call 24; with_reducible refine Calls.mono (HOp.out _) ?_; rintro e w4 ⟨rfl, hb⟩; have HM := hideD (HM.out.later hb); have HR1 := hideD (range_later hb HR1.out); clear hb)
          | ((with_reducible refine atS42 ?_); refine wp_storeS HLO.out rfl (heap_alloc_new _ _) _ _ (by rfl) (by rfl) (by rfl) (by rfl) ?_; intro W1 hr hb; have HM := hideD (HM.out.later (hb _ _ (bel_new w3 _) (Nat.le_refl _))); have HR1 := hideD hr; clear hr hb)
          | ((with_reducible refine atS40 ?_); refine wp_storeQ (q := C) rfl (heap_alloc_new _ _) _ _ (by rfl) (by rfl) (by rfl) (by rfl) ?_; intro W2 hr hb; have HM := hideD (HM.out.later (hb _ _ (bel_new w4 _) (Nat.le_refl _))); have HR1 := hideD (range_later (hb _ _ (bel_new w4 _) (Nat.le_refl _)) HR1.out); have HR2 := hideD hr; clear hr hb))
        simp only [Act.put]
        go_cut [43] from 36 to 42 (fun v43 V => v43 = .bool false ∧ W2 = V)
        case first =>
          by_cases hCA : C = A
          · subst hCA
            have hn1 := neq_no C
            go_wp2_with (first
              | ((with_reducible refine atL40 ?_); refine wp_loadQ HR2.out _ (by rfl) (by rfl) (by rfl) ?_)
              | ((with_reducible refine atL40 ?_); refine wp_loadQ HM.out.p _ (by rfl) (by rfl) (by rfl) ?_))
            go_meet
            exact ⟨rfl, rfl⟩
          · have hCB : C = B := HCAB.out.resolve_left hCA
            subst hCB
            have hn1 := neq_yes hCA
            have hn2 := neq_no C
            go_wp2_with (first
              | ((with_reducible refine atL40 ?_); refine wp_loadQ HR2.out _ (by rfl) (by rfl) (by rfl) ?_)
              | ((with_reducible refine atL40 ?_); refine wp_loadQ HM.out.p _ (by rfl) (by rfl) (by rfl) ?_)
              | ((with_reducible refine atL40 ?_); refine wp_loadQ HM.out.q _ (by rfl) (by rfl) (by rfl) ?_))
            go_meet
            exact ⟨rfl, rfl⟩
        case' rest =>
          obtain ⟨rfl, rfl⟩ := hcut
        go_upto_region 12 with (first
          | ((with_reducible refine atL40 ?_); refine wp_loadQ HR2.out _ (by rfl) (by rfl) (by rfl) ?_)
          | (go_at_call 23; with_reducible refine Calls.mono (HSl.out _) ?_; rintro e w5 ⟨rfl, hb⟩; have HM := hideD (HM.out.later hb); have HR1 := hideD (range_later hb HR1.out); have HR2 := hideD (range_later hb HR2.out); clear hb)
          | ((with_reducible refine atS42 ?_); refine wp_storeS HCs.out rfl (heap_alloc_new _ _) _ _ (by rfl) (by rfl) (by rfl) (by rfl) ?_; intro W3 hr hb; have HM := hideD (HM.out.later (hb _ _ (bel_new w5 _) (Nat.le_refl _))); have HR1 := hideD (range_later (hb _ _ (bel_new w5 _) (Nat.le_refl _)) HR1.out); have HR2 := hideD (range_later (hb _ _ (bel_new w5 _) (Nat.le_refl _)) HR2.out); have HR3 := hideD hr; clear hr hb))
        go_wp2_with fail
        go_loopw [11] (fun kv wx => ∃ k : Nat, k ≤ 65 ∧ kv = .int .i64 (k : Int) ∧ Below W3.heap.size W3 wx) (fun kv _ => 65 - (intOf kv).toNat)
        case atStart => exact ⟨0, by omega, rfl, Below.refl _ _⟩
        case round =>
          obtain ⟨k, hk, rfl, hb⟩ := hrel
          have HBk := hideD hb
          clear hb
          by_cases hkl : k ≤ 64
          · have lk : (k : Int) ≤ 64 := by omega
            have hwk : IntKind.i64.wrap ((k : Int) + 1) = (k : Int) + 1 := by rw [IntKind.wrap_i64]; omega
            have HC1 := hideD (HCk.out k hkl)
            have HO1 := hideD (HOk.out k hkl)
            obtain ⟨T, hT⟩ : ∃ T, cutB C.s O k = T := ⟨_, rfl⟩
            rw [hT] at HC1 HO1
            have hnC := neq_no C
            have HD := hideD (bel_trans HBk.out ((Below.refl _ _).drew))
            clear hT
            go_upto_region 15 with fail
            refine wp_region_held_drew (S := fun V' => V'.rangeAt w5.heap.size 0 (bcs C.s) ∧ V'.rangeAt w3.heap.size 0 (bcs O) ∧ V'.rangeAt w4.heap.size 0 C.v.toList) (by kernel_rfl) ⟨range_later HD.out HR3.out, range_later HD.out HR1.out, range_later HD.out HR2.out⟩ (fun hHeld => ?_)
            refine wpAnyH_take (i := 0) (v := .agg (bcs C.s).toArray) rfl (by kernel_rfl) (by kernel_rfl) (by kernel_rfl) (fun _ _ _ h => h) (yieldsIf_load_mid (by rfl) _ _ rfl _ _ rfl _ _ (fun V hV => hV.1) ar42 rfl iC) hHeld ?_
            try simp only [Act.put, List.getElem_toArray, List.getElem_cons_zero, List.setIfInBounds_toArray, List.set_cons_zero, List.set_cons_succ]
            refine wpAnyH_take (i := 1) (v := .agg (bcs O).toArray) rfl (by kernel_rfl) (by kernel_rfl) (by kernel_rfl) (fun _ _ _ h => h) (yieldsIf_load_mid (by rfl) _ _ rfl _ _ rfl _ _ (fun V hV => hV.2.1) ar42 rfl iO) hHeld ?_
            try simp only [Act.put, List.getElem_toArray, List.getElem_cons_succ, List.getElem_cons_zero, List.setIfInBounds_toArray, List.set_cons_zero, List.set_cons_succ]
            refine wpAnyH_take (i := 2) (v := .int .i64 (k : Int)) rfl (by kernel_rfl) (by kernel_rfl) (by kernel_rfl) (fun _ _ _ h => h) (Or.inl ⟨by rfl, fun V hV => by (dsimp only at hV; go_simp)⟩) hHeld ?_
            try simp only [Act.put, List.getElem_toArray, List.getElem_cons_succ, List.getElem_cons_zero, List.setIfInBounds_toArray, List.set_cons_zero, List.set_cons_succ]
            refine wpAnyH_take (i := 5) (v := .agg C.v) rfl (by kernel_rfl) (by kernel_rfl) (by kernel_rfl) (fun _ _ _ h => h) (yieldsIf_load_mid (by rfl) _ _ rfl _ _ rfl _ _ (fun V hV => hV.2.2) ar40 rfl jC) hHeld ?_
            try simp only [Act.put, List.getElem_toArray, List.getElem_cons_succ, List.getElem_cons_zero, List.setIfInBounds_toArray, List.set_cons_zero, List.set_cons_succ]
            refine wpAnyH_ready (rs := [3]) (by kernel_rfl) (by simp) ?_
            refine AllReadyH.cons rfl (fun K hK => ?_) AllReadyH.nil
            go_simp
            go_at_call 25; with_reducible refine Calls.mono (HC1.out _) ?_; rintro e w6 ⟨rfl, hb⟩; have HD1 := hideD (bel_trans HD.out hb); clear hb
            go_wp2_with fail
            refine hK.out _ _ (⟨range_later HD1.out HR3.out, range_later HD1.out HR1.out, range_later HD1.out HR2.out⟩) (fun hHeld => ?_)
            clear hK K
            try simp only [Act.put, List.getElem_toArray, List.getElem_cons_succ, List.getElem_cons_zero, List.setIfInBounds_toArray, List.set_cons_zero, List.set_cons_succ]
            refine wpAnyH_ready (rs := [4]) (by kernel_rfl) (by simp) ?_
            refine AllReadyH.cons rfl (fun K hK => ?_) AllReadyH.nil
            go_simp
            go_at_call 24; with_reducible refine Calls.mono (HO1.out _) ?_; rintro e w7 ⟨rfl, hb⟩; have HD2 := hideD (bel_trans HD1.out hb); clear hb
            go_wp2_with fail
            refine hK.out _ _ (⟨range_later HD2.out HR3.out, range_later HD2.out HR1.out, range_later HD2.out HR2.out⟩) (fun hHeld => ?_)
            clear hK K
            try simp only [Act.put, List.getElem_toArray, List.getElem_cons_succ, List.getElem_cons_zero, List.setIfInBounds_toArray, List.set_cons_zero, List.set_cons_succ]
            refine wpAnyH_take (i := 6) (v := .bool false) rfl (by kernel_rfl) (by kernel_rfl) (by kernel_rfl) (fun _ _ _ h => h) (Or.inl ⟨by rfl, fun V hV => by (dsimp only at hV; go_simp)⟩) hHeld ?_
            try simp only [Act.put, List.getElem_toArray, List.getElem_cons_succ, List.getElem_cons_zero, List.setIfInBounds_toArray, List.set_cons_zero, List.set_cons_succ]
            refine wpAnyH_done (by kernel_rfl) ?_ _
            go_wp2_with fail
            refine ⟨⟨k + 1, by omega, rfl, HD2.out⟩, ?_⟩
            simp only [intOf]; omega
          · have lk : ¬ (k : Int) ≤ 64 := by omega
            go_wp2_with fail
            refine ⟨⟨t + 1, by omega, rfl, HM.out.later HBk.out⟩, ?_⟩
            simp only [intOf]; omega
      · have l1 : ¬ (t : Int) ≤ 64 := by omega
        go_wp2_with (first
          | (go_at_call 22; with_reducible refine Calls.mono (awake_any _) ?_; rintro e w8 ⟨rfl, hb⟩; have HX := hideD (bel_trans HM.out.below hb); clear hb))
        go_ret
        exact ⟨rfl, HX.out⟩
  go_region_held3 (fun V => V.cell? ⟨w.heap.size, 0, none⟩ = some (.int .u32 a) ∧ V.cell? ⟨w.heap.size, 1, none⟩ = some (.int .u32 b) ∧ V.cell? ⟨w.heap.size, 2, none⟩ = some (.int .u32 c) ∧ V.cell? ⟨w.heap.size, 3, none⟩ = some (.int .u32 d) ∧ V.cell? ⟨w.heap.size + 1, 0, none⟩ = some (.int .u32 p) ∧ V.cell? ⟨w.heap.size + 1, 1, none⟩ = some (.int .u32 q) ∧ V.cell? ⟨w.heap.size + 1, 2, none⟩ = some (.int .u32 r) ∧ V.cell? ⟨w.heap.size + 1, 3, none⟩ = some (.int .u32 s))
    ((refine HK.out _ ?_; repeat' (first | with_reducible exact hbx0 | with_reducible exact hbx1 | with_reducible apply bxDrew | with_reducible apply bxAlloc | (with_reducible refine bxGrown ?_ (by assumption)) | (with_reducible refine bxSet rfl rfl ?_ ?_) | with_reducible exact r1 _ | with_reducible exact r3 _ _ | with_reducible apply r2 | with_reducible apply r4 | with_reducible apply r5 | with_reducible apply tA | with_reducible apply tB)))
    (first | (go_at_call 23; with_reducible refine Calls.mono (HSA.out _) ?_; rintro e wA ⟨rfl, hgA⟩; have tA := there_grown hgA; have zA := hgA.size; (try with_reducible have qa1 := tA _ (r5 _ _ (r1 _))); (try with_reducible have qa2 := tA _ (r5 _ _ (r3 _ _))); (try with_reducible have qa3 := tA _ (r5 _ _ (r2 _ _ _ (r1 _))))) | (go_at_call 23; with_reducible refine Calls.mono (HSB.out _) ?_; rintro e wB ⟨rfl, hgB⟩; have tB := there_grown hgB; have zB := hgB.size; (try with_reducible have qb4 := tB _ (r1 _)); (try with_reducible have qb5 := tB _ (r3 _ _)); (try with_reducible have qb6 := tB _ (r2 _ _ _ (r1 _))); (try with_reducible have qb1a := tB _ (qa1)); (try with_reducible have qb1b := tB _ (r2 _ _ _ qa1)); (try with_reducible have qb1c := tB _ (r2 _ _ _ (r2 _ _ _ qa1))); (try with_reducible have qb2a := tB _ (qa2)); (try with_reducible have qb2b := tB _ (r2 _ _ _ qa2)); (try with_reducible have qb2c := tB _ (r2 _ _ _ (r2 _ _ _ qa2))); (try with_reducible have qb3a := tB _ (qa3)); (try with_reducible have qb3b := tB _ (r2 _ _ _ qa3)); (try with_reducible have qb3c := tB _ (r2 _ _ _ (r2 _ _ _ qa3)))))
  all_goals
    go_wp2
    go_meet
    case rel =>
      have hs0 := HSZ.out
      have lw : w.heap.size ≤ W.heap.size := by omega
      simp at zA zB
      refine ⟨_, _, rfl, rfl, ?_, fin_x lx ?_ (by omega), fin_y ly ?_, ?_⟩
      all_goals repeat' (first | with_reducible exact hbel | with_reducible exact hbx0 | with_reducible exact hbx1 | with_reducible apply Below.drew | with_reducible apply belAlloc | (with_reducible refine belGrown ?_ (by assumption)) | (with_reducible refine belSet ?_ (by omega)) | with_reducible apply bxDrew | with_reducible apply bxAlloc | (with_reducible refine bxGrown ?_ (by assumption)) | (with_reducible refine bxSet rfl rfl ?_ ?_) | with_reducible assumption | with_reducible exact r1 _ | with_reducible exact r3 _ _ | with_reducible apply r2 | with_reducible apply r4 | with_reducible apply r5)
end Go.Proofs.Ytefcconbpomedaa
