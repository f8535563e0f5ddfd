/- What is seen of a file is kept: with what it leaves alone. -/
import Derived.Test.YteocmhbllckpjaaGreatL2
import Derived.Test.YteocmhbllckpjaaGreatV8
namespace Go.Proofs.YteocmhbllckpjaaGreat
open Go.ChangeShapes Go.WideShapes Go.ChangeAt Go.RowKit
open Go.ChangeMaps (setBlock)
set_option linter.unusedVariables false

theorem World.grownBy_drew (w : World) : w.grownBy w.drew none := ⟨rfl, rfl, rfl, Nat.le_refl _, fun _ _ _ => rfl⟩
theorem Moves.fresh {w W : World} {b : Nat} {D : DS} {o : Obj} (h : Only [w.heap.size] (w.alloc o) W) : Moves b D w D W :=
  Moves.only ((Only.alloc w o [w.heap.size]).trans h) (fun k hk hl => by have e : k = w.heap.size := (by simpa using hk); omega) (fun _ _ h => h)
theorem Rep.cutM {w w4 : World} {base b : Nat} {D : DS} {who : Nat → Nat} (R : Rep w base b D who) (nm : ByteArray) (v' : Value) (ho : w4.ownsRow base 112 67 v' (others nm D.chs).length (chcells (others nm D.chs))) (hv : ∀ g, v'.ownBlock = some g → D.cv.ownBlock = some g) (hg : w.grownBy w4 D.cv.ownBlock) :
    Rep (w4.setCell ⟨b, 1, none⟩ v') base b { D with cv := v', chs := others nm D.chs } who ∧ Moves b D w { D with cv := v', chs := others nm D.chs } (w4.setCell ⟨b, 1, none⟩ v') := by
  refine ⟨(R.cutC nm v' ho hv hg).1, ?_⟩
  have hO : Only (b :: D.cv.ownBlock.toList) w (w4.setCell ⟨b, 1, none⟩ v') := ((Only.of_grown hg).mono (fun j hj => List.mem_cons_of_mem _ hj)).trans ((Only.setCell _ _ _).mono (by simp))
  refine Moves.only hO (fun k hk _ => ?_) (fun k hk hF => ?_)
  · rcases List.mem_cons.1 hk with rfl | hk
    · exact .inl rfl
    · exact .inr (.inr (.inl (by simpa using hk)))
  · rcases hF with h | h | h | h
    · exact .inl h
    · exact .inr (.inl h)
    · exact .inr (.inr (.inl (hv k h)))
    · exact .inr (.inr (.inr h))

set_option maxHeartbeats 4000000 in
set_option maxRecDepth 10000 in
theorem keepM_hit (w : World) (base b : Nat) (D : DS) (who : Nat → Nat) (R : Rep w base b D who) (S : Sane D) (nm : ByteArray) (f : FL) (hlk : look D.fs nm = some f) :
    Calls Tryz.prog 141 #[.pointer (some ⟨b, 0, none⟩), .string nm] w fun e w' => e = .returned (.tuple #[]) ∧ ∃ kv cv who', RM w D w' base b (forgetD { takeD D f kv (keepF nm f.kept D.chs) with cv := cv, chs := others nm D.chs } nm) who' := by
  have hB0 : Moves b D w D (w.alloc (.cells #[.string nm] 9)) := Moves.grown (World.grownBy_alloc w (.cells #[.string nm] 9) none)
  have hBn : Blk (w.alloc (.cells #[.string nm] 9)) w.heap.size #[.string nm] 9 := alloc_new _ _
  obtain ⟨a, cap, hcv⟩ := ownsRow_form R.ochs
  have h1c : (w.alloc (.cells #[.string nm] 9)).cell? ⟨b, 1, none⟩ = some (.slice a D.chs.length cap) := by rw [(R.alloc _).blk.cell 1, ← hcv]; rfl
  have HR0 := hide (R.alloc (.cells #[.string nm] 9))
  have HB0 := hide hB0
  have HBn := hide hBn
  have HCV := hide hcv
  have HS := hide S
  have H64 := hide R.c64
  obtain ⟨d75, hu75, hr75⟩ := u75
  have hf : f ∈ D.fs := List.mem_of_find?_eq_some hlk
  have HF := hide hf
  have HLk0 := hide hlk
  have HNd := hide R.nodup
  clear hf hlk
  clear R S hB0 hBn hcv
  go_enter Tryz.func141, Tryz.ntmps141
  go_upto_region 2 with fail
  go_loopw [11] (fun jv wr => ∃ (j : Nat) (kv : Value) (whoj : Nat → Nat), j ≤ D.chs.length ∧ jv = .int .i64 (j : Int) ∧ Rep wr base b (takeD D f kv (keepF nm f.kept (D.chs.take j))) whoj ∧ Blk wr w.heap.size #[.string nm] 9 ∧ Moves b D w (takeD D f kv (keepF nm f.kept (D.chs.take j))) wr) (fun jv _ => D.chs.length - (intOf jv).toNat)
  case atStart =>
    have e : takeD D f f.kv (keepF nm f.kept (D.chs.take 0)) = D := by
      unfold takeD
      rw [upd_self HNd.out HF.out _ rfl]
    refine ⟨0, f.kv, who, Nat.zero_le _, rfl, ?_, HBn.out, ?_⟩
    · rw [e]; exact HR0.out
    · rw [e]; exact HB0.out
  case round =>
    obtain ⟨j, kv, whoj, hj, rfl, hRj, hBj, hbj⟩ := hrel
    have HRj := hide hRj
    have HBj := hide hBj
    have Hbj := hide hbj
    clear hRj hBj hbj
    by_cases hlt : j < D.chs.length
    · obtain ⟨c, hc⟩ : ∃ c, D.chs[j]? = some c := ⟨D.chs[j], List.getElem?_eq_getElem hlt⟩
      have hcm := List.mem_of_getElem? hc
      have H6 := hide (H64.out c hcm)
      have HC := hide hc
      have HCm := hide hcm
      have hg : ∃ g, a = some ⟨g, 0, none⟩ ∧ wr.rangeAt g (j * 67) c.cells := by
        have ho : wr.ownsRow base 112 67 D.cv D.chs.length (chcells D.chs) := HRj.out.ochs
        rw [HCV.out] at ho
        rcases ho.2 with ⟨hv, hz⟩ | ⟨g, cap', cur, hv, _⟩
        · omega
        · cases hv
          exact ⟨g, rfl, chs_range ho H64.out hc⟩
      obtain ⟨g, rfl, hrg⟩ := hg
      have HRg := hide hrg
      have HZ := hide (show (wr.alloc (.cells Tryz.zeroCells112 112)).heap[wr.heap.size]? = some (.cells Tryz.zeroCells112 112 (0, 0)) from alloc_new _ _)
      have l1 : (j : Int) < (D.chs.length : Int) := by omega
      have l0 : (0 : Int) ≤ (j : Int) := by omega
      have hw1 : IntKind.i64.wrap ((j : Int) + 1) = (j : Int) + 1 := by rw [IntKind.wrap_i64]; have := HS.out.few; omega
      have HFl : Hid (∀ W2, Blk W2 wr.heap.size c.cells.toArray 112 → W2.cell? ⟨wr.heap.size, 0, none⟩ = some (.string c.name)) := fun W2 h => (h.cell 0).trans (chg_get c).2.2.1
      clear hc hcm hrg
      cases hb : isN nm c with
      | false =>
        have hne : (c.name.toList == nm.toList) = false := hb
        go_wp2_with (first
          | (refine wp_loadC H6.out HRg.out _ (by rfl) (by rfl) (by rfl) ?_)
          | (refine wp_storeC H6.out zeros75_size HZ.out _ _ (by rfl) (by rfl) (by rfl) (by rfl) ?_; intro W2 hB2 hO2; have HB2 := hide hB2; have HO2 := hide hO2; have hnm := HFl.out W2 hB2; have hnb : W2.cell? ⟨w.heap.size, 0, none⟩ = some (.string nm) := (Blk.cell (fresh_blk HBj.out hO2) 0).trans rfl; clear hB2 hO2))
        refine ⟨⟨j + 1, kv, whoj, hlt, rfl, (by rw [keepF_succ HC.out, hb]; exact HRj.out.fresh HO2.out), fresh_blk HBj.out HO2.out, (by rw [keepF_succ HC.out, hb]; exact Hbj.out.trans (Moves.fresh HO2.out))⟩, ?_⟩
        simp only [intOf]; omega

      | true =>
        have hne : (c.name.toList == nm.toList) = true := hb
        go_upto_region 5 with (first
          | (refine wp_loadC H6.out HRg.out _ (by rfl) (by rfl) (by rfl) ?_)
          | (refine wp_storeC H6.out zeros75_size HZ.out _ _ (by rfl) (by rfl) (by rfl) (by rfl) ?_; intro W2 hB2 hO2; have HB2 := hide hB2; have HO2 := hide hO2; have hnm := HFl.out W2 hB2; have hnb : W2.cell? ⟨w.heap.size, 0, none⟩ = some (.string nm) := (Blk.cell (fresh_blk HBj.out hO2) 0).trans rfl; clear hB2 hO2))
        have HR2 := hide (HRj.out.fresh HO2.out)
        have HBn2 := hide (fresh_blk HBj.out HO2.out)
        have hfj : ({ f with kv := kv, kept := keepF nm f.kept (D.chs.take j) } : FL) ∈ (takeD D f kv (keepF nm f.kept (D.chs.take j))).fs := mem_upd_self HF.out (fun x => { x with kv := kv, kept := keepF nm f.kept (D.chs.take j) })
        have HLk : Hid (look (takeD D f kv (keepF nm f.kept (D.chs.take j))).fs nm = some { f with kv := kv, kept := keepF nm f.kept (D.chs.take j) }) := look_upd HNd.out HLk0.out (fun x => { x with kv := kv, kept := keepF nm f.kept (D.chs.take j) }) (fun _ => rfl)
        have HTk : Hid (∀ V, Rep V base b (takeD D f kv (keepF nm f.kept (D.chs.take j))) whoj → Calls Tryz.prog 53 #[.pointer (some ⟨f.eb, 1, none⟩), .agg c.cells.toArray, .int .i64 1] V fun e w' => e = .returned (.tuple #[]) ∧ Only (f.eb :: kv.ownBlock.toList) V w' ∧ ∃ v' who', Moves b (takeD D f kv (keepF nm f.kept (D.chs.take j))) V (takeD D f v' (keepF nm f.kept (D.chs.take (j + 1)))) w' ∧ Rep w' base b (takeD D f v' (keepF nm f.kept (D.chs.take (j + 1)))) who') := fun V hV => by
          have hk0 : (keepF nm f.kept (D.chs.take j)).length ≤ 1048576 := length_keepF (fun d hd => HS.out.siz d (List.mem_of_mem_take hd)) (HS.out.kl f HF.out)
          refine (take_any2 V base b _ whoj hV _ hfj c H6.out (HS.out.sec c HCm.out) (HS.out.siz c HCm.out) 1 (by decide) hk0).mono ?_
          rintro e w' ⟨h1, h2, v', who', hvv, h3⟩
          have h4 := Moves.takeD (b := b) (l := takeL (keepF nm f.kept (D.chs.take j)) c 1) hfj hvv h2
          refine ⟨h1, h2, v', who', ?_⟩
          rw [keepF_succ HC.out, hb]
          unfold takeD at h3 h4 ⊢
          have e2 := upd_upd D.fs f.born (fun x => { x with kv := kv, kept := keepF nm f.kept (D.chs.take j) }) (fun x => { x with kv := v', kept := takeL (keepF nm f.kept (D.chs.take j)) c 1 }) (fun _ => rfl)
          dsimp only at h3 h4
          rw [e2] at h3 h4
          exact ⟨h4, h3⟩
        have HSt : Hid (∀ V, Only (f.eb :: kv.ownBlock.toList) W2.drew V → V.cell? ⟨b, 0, none⟩ = some (.map (some D.mb)) ∧ V.cell? ⟨w.heap.size, 0, none⟩ = some (.string nm) ∧ V.heap[D.mb]? = some (.map (ents (takeD D f kv (keepF nm f.kept (D.chs.take j))).fs) D.clock) ∧ V.rangeAt wr.heap.size 0 c.cells) := fun V hV => by
          have R2 := HR2.out.drew
          have n1 := R2.notIn hfj R2.blk (by decide) (by decide)
          have n2 := R2.notIn hfj (show Blk W2.drew w.heap.size #[.string nm] 9 from HBn2.out) (by decide) (by decide)
          have n3 := R2.mbNot hfj
          have n4 := R2.notIn hfj (show Blk W2.drew wr.heap.size c.cells.toArray 112 from HB2.out) (by decide) (by decide)
          have b1 : Blk V b _ 76 := hV.blk R2.blk n1
          have b2 : Blk V w.heap.size #[.string nm] 9 := hV.blk (show W2.drew.heap[w.heap.size]? = _ from HBn2.out) n2
          have b4 : Blk V wr.heap.size c.cells.toArray 112 := hV.blk (show W2.drew.heap[wr.heap.size]? = _ from HB2.out) n4
          exact ⟨(b1.cell 0).trans rfl, (b2.cell 0).trans rfl, hV.blk R2.map n3, b4.range⟩
        refine wp_region_held_drew (S := fun V => V.cell? ⟨b, 0, none⟩ = some (.map (some D.mb)) ∧ V.cell? ⟨w.heap.size, 0, none⟩ = some (.string nm) ∧ V.heap[D.mb]? = some (.map (ents (takeD D f kv (keepF nm f.kept (D.chs.take j))).fs) D.clock) ∧ V.rangeAt wr.heap.size 0 c.cells) (by kernel_rfl) (HSt.out _ (Only.refl _ _)) ?_
        intro hHeld
        refine wpAnyH_take (i := 0) (v := .pointer (some ⟨b, 0, none⟩)) rfl (by kernel_rfl) (by kernel_rfl) (by kernel_rfl) (fun _ _ _ h => h) (Or.inl ⟨by rfl, fun V hV => by (obtain ⟨f1, f2, f3, f4⟩ := hV; go_simp)⟩) hHeld ?_
        try simp only [Act.put, List.getElem_toArray, List.getElem_cons_zero, List.setIfInBounds_toArray, List.set_cons_zero, List.set_cons_succ]
        refine wpAnyH_take (i := 1) (v := .pointer (some ⟨b, 0, none⟩)) rfl (by kernel_rfl) (by kernel_rfl) (by kernel_rfl) (fun _ _ _ h => h) (Or.inl ⟨by rfl, fun V hV => by (obtain ⟨f1, f2, f3, f4⟩ := hV; go_simp)⟩) hHeld ?_
        try simp only [Act.put, List.getElem_toArray, List.getElem_cons_succ, List.getElem_cons_zero, List.setIfInBounds_toArray, List.set_cons_zero, List.set_cons_succ]
        refine wpAnyH_take (i := 2) (v := .pointer (some ⟨b, 0, none⟩)) rfl (by kernel_rfl) (by kernel_rfl) (by kernel_rfl) (fun _ _ _ h => h) (Or.inl ⟨by rfl, fun V hV => by (obtain ⟨f1, f2, f3, f4⟩ := hV; go_simp)⟩) hHeld ?_
        try simp only [Act.put, List.getElem_toArray, List.getElem_cons_succ, List.getElem_cons_zero, List.setIfInBounds_toArray, List.set_cons_zero, List.set_cons_succ]
        refine wpAnyH_take (i := 3) (v := .map (some D.mb)) rfl (by kernel_rfl) (by kernel_rfl) (by kernel_rfl) (fun _ _ _ h => h) (Or.inl ⟨by rfl, fun V hV => by (obtain ⟨f1, f2, f3, f4⟩ := hV; go_simp)⟩) hHeld ?_
        try simp only [Act.put, List.getElem_toArray, List.getElem_cons_succ, List.getElem_cons_zero, List.setIfInBounds_toArray, List.set_cons_zero, List.set_cons_succ]
        refine wpAnyH_take (i := 4) (v := .string nm) rfl (by kernel_rfl) (by kernel_rfl) (by kernel_rfl) (fun _ _ _ h => h) (Or.inl ⟨by rfl, fun V hV => by (obtain ⟨f1, f2, f3, f4⟩ := hV; go_simp)⟩) hHeld ?_
        try simp only [Act.put, List.getElem_toArray, List.getElem_cons_succ, List.getElem_cons_zero, List.setIfInBounds_toArray, List.set_cons_zero, List.set_cons_succ]
        refine wpAnyH_take (i := 5) (v := .pointer (some ⟨f.eb, 0, none⟩)) rfl (by kernel_rfl) (by kernel_rfl) (by kernel_rfl) (fun _ _ _ h => h) (Or.inl ⟨by rfl, fun V hV => by (obtain ⟨f1, f2, f3, f4⟩ := hV; have hlk := look_run V D.mb _ D.clock nm f3; rw [HLk.out] at hlk; simp only [Option.map_some] at hlk; go_simp)⟩) hHeld ?_
        try simp only [Act.put, List.getElem_toArray, List.getElem_cons_succ, List.getElem_cons_zero, List.setIfInBounds_toArray, List.set_cons_zero, List.set_cons_succ]
        refine wpAnyH_take (i := 6) (v := .pointer (some ⟨f.eb, 0, none⟩)) rfl (by kernel_rfl) (by kernel_rfl) (by kernel_rfl) (fun _ _ _ h => h) (Or.inl ⟨by rfl, fun V hV => by (obtain ⟨f1, f2, f3, f4⟩ := hV; go_simp)⟩) hHeld ?_
        try simp only [Act.put, List.getElem_toArray, List.getElem_cons_succ, List.getElem_cons_zero, List.setIfInBounds_toArray, List.set_cons_zero, List.set_cons_succ]
        refine wpAnyH_take (i := 7) (v := .pointer (some ⟨f.eb, 1, none⟩)) rfl (by kernel_rfl) (by kernel_rfl) (by kernel_rfl) (fun _ _ _ h => h) (Or.inl ⟨by rfl, fun V hV => by (obtain ⟨f1, f2, f3, f4⟩ := hV; go_simp)⟩) hHeld ?_
        try simp only [Act.put, List.getElem_toArray, List.getElem_cons_succ, List.getElem_cons_zero, List.setIfInBounds_toArray, List.set_cons_zero, List.set_cons_succ]
        refine wpAnyH_take (i := 8) (v := .agg c.cells.toArray) rfl (by kernel_rfl) (by kernel_rfl) (by kernel_rfl) (fun _ _ _ h => h) (yieldsIf_load_mid (by rfl) _ _ rfl _ _ rfl _ _ (fun V hV => hV.2.2.2) hu75 hr75 (i75 H6.out)) hHeld ?_
        try simp only [Act.put, List.getElem_toArray, List.getElem_cons_succ, List.getElem_cons_zero, List.setIfInBounds_toArray, List.set_cons_zero, List.set_cons_succ]
        refine wpAnyH_ready (rs := [9]) (by kernel_rfl) (by simp) ?_
        refine AllReadyH.cons rfl (fun K hK => ?_) AllReadyH.nil
        go_simp
        go_at_call 53; refine Calls.mono (HTk.out _ HR2.out.drew) ?_; rintro e w3 ⟨rfl, hO3, kv3, who3, hM3, R3⟩; have HO3 := hide hO3; have HR3 := hide R3; have HM3 := hide hM3; clear hO3 R3 hM3
        go_wp2_with fail
        refine hK.out _ _ (HSt.out w3 HO3.out) (fun hHeld => ?_)
        clear hK K
        refine wpAnyH_done (by kernel_rfl) ?_ _
        go_wp2_with fail
        have R2 := HR2.out.drew
        have hbn3 : Blk w3 w.heap.size #[.string nm] 9 := HO3.out.blk (show W2.drew.heap[w.heap.size]? = _ from HBn2.out) (R2.notIn hfj (show Blk W2.drew w.heap.size #[.string nm] 9 from HBn2.out) (by decide) (by decide))
        refine ⟨⟨j + 1, kv3, who3, hlt, rfl, HR3.out, hbn3, (Hbj.out.trans (Moves.fresh HO2.out)).trans ((Moves.grown (D := takeD D f kv (keepF nm f.kept (D.chs.take j))) (World.grownBy_drew W2)).trans HM3.out)⟩, ?_⟩
        simp only [intOf]; omega
    · obtain rfl : j = D.chs.length := by omega
      have HRk : Hid (Rep wr base b (takeD D f kv (keepF nm f.kept D.chs)) whoj) := by
        have := HRj.out
        rw [List.take_of_length_le (Nat.le_refl _)] at this
        exact this
      have HMk : Hid (Moves b D w (takeD D f kv (keepF nm f.kept D.chs)) wr) := by
        have := Hbj.out
        rw [List.take_of_length_le (Nat.le_refl _)] at this
        exact this
      have h1k : wr.cell? ⟨b, 1, none⟩ = some (.slice a D.chs.length cap) := by rw [HRk.out.blk.cell 1, ← HCV.out]; rfl
      have hnb : wr.cell? ⟨w.heap.size, 0, none⟩ = some (.string nm) := (HBj.out.cell 0).trans rfl
      have HDl : Hid (Calls Tryz.prog 147 #[.slice a D.chs.length cap, .func (.func 148) #[] #[.pointer (some ⟨w.heap.size, 0, none⟩)]] wr fun e w' => ∃ v', e = .returned v' ∧ w'.ownsRow base 112 67 v' (others nm D.chs).length (chcells (others nm D.chs)) ∧ (∀ g, v'.ownBlock = some g → D.cv.ownBlock = some g) ∧ wr.grownBy w' D.cv.ownBlock) := by
        have ho : wr.ownsRow base 112 67 D.cv D.chs.length (chcells D.chs) := HRk.out.ochs
        have := deleteF wr base D.cv D.chs nm w.heap.size ho H64.out HBj.out HS.out.few
        rw [HCV.out] at this ⊢
        exact this
      have HFr : Hid (∀ w4, wr.grownBy w4 D.cv.ownBlock → w4.frozen? ⟨b, 1, none⟩ = false ∧ (∃ v, w4.cell? ⟨b, 1, none⟩ = some v) ∧ w4.cell? ⟨w.heap.size, 0, none⟩ = some (.string nm)) := fun w4 hg => by
        have hbc : ¬ some b = D.cv.ownBlock := fun e => by have h1 := HRk.out.wc b e.symm; have h2 := HRk.out.wb; omega
        have hB : Blk w4 b _ 76 := (hg.block b HRk.out.blk.lt hbc).trans HRk.out.blk
        have hnc : ¬ some w.heap.size = D.cv.ownBlock := fun e => by
          rcases HRk.out.ochs.2 with ⟨hv, _⟩ | ⟨g, cap, cur, hv, _, hg, _⟩
          · have hv' : D.cv = .slice none 0 0 := hv
            rw [hv'] at e; cases e
          · have hv' : D.cv = .slice (some ⟨g, 0, none⟩) D.chs.length cap := hv
            rw [hv'] at e
            have e' : w.heap.size = g := by simpa [Value.ownBlock] using e
            rw [← e'] at hg
            exact absurd (HBj.out.same hg) (by decide)
        have hN : Blk w4 w.heap.size #[.string nm] 9 := (hg.block _ HBj.out.lt hnc).trans HBj.out
        exact ⟨hB.frozen 1, ⟨_, (hB.cell 1).trans rfl⟩, (hN.cell 0).trans rfl⟩
      go_upto_region 8 with (first
        | (go_at_call 147; refine Calls.mono HDl.out ?_; rintro e w4 ⟨v4, rfl, ho4, hv4, hg4⟩; obtain ⟨hf4, ⟨x4, hc4⟩, hn4⟩ := HFr.out w4 hg4; obtain ⟨a4, cap4, hv5⟩ := ownsRow_form ho4; have HV4 := hide hv4; have HO4 := hide ho4; have HG4 := hide hg4; clear hv4 ho4 hg4; subst hv5))
      obtain ⟨R5, hb5⟩ := HRk.out.cutM nm _ HO4.out HV4.out HG4.out
      have hn5 : (w4.setCell ⟨b, 1, none⟩ (.slice a4 (others nm D.chs).length cap4)).cell? ⟨w.heap.size, 0, none⟩ = some (.string nm) := by
        rw [World.cell?_of_block (w := w4) (Below.heap_setCell _ ⟨b, 1, none⟩ _ w.heap.size (fun e => by
          have e' : w.heap.size = b := e
          have h1 := HRk.out.blk
          rw [← e'] at h1
          exact absurd (HBj.out.same h1) (by decide)))]
        exact hn4
      have HFg := hide (forget_any _ base b _ whoj R5 nm)
      have HR5 := hide R5
      have Hb5 := hide hb5
      clear R5 hb5
      go_wp2_with (first
        | (go_at_call 55; refine Calls.mono HFg.out ?_; rintro e w6 ⟨rfl, hO6, hR6⟩; have HO6 := hide hO6; have HR6 := hide hR6; clear hO6 hR6))
      go_end0
      exact ⟨rfl, kv, .slice a4 (others nm D.chs).length cap4, whoj, HR6.out, (HMk.out.trans Hb5.out).trans (Moves.forget HO6.out)⟩

set_option maxHeartbeats 4000000 in
set_option maxRecDepth 10000 in
theorem keepM_miss (w : World) (base b : Nat) (D : DS) (who : Nat → Nat) (R : Rep w base b D who) (S : Sane D) (nm : ByteArray) (hlk : look D.fs nm = none) :
    Calls Tryz.prog 141 #[.pointer (some ⟨b, 0, none⟩), .string nm] w fun e w' => e = .returned (.tuple #[]) ∧ ∃ cv who', RM w D w' base b (forgetD { D with cv := cv, chs := others nm D.chs } nm) who' := by
  have hB0 : Moves b D w D (w.alloc (.cells #[.string nm] 9)) := Moves.grown (World.grownBy_alloc w (.cells #[.string nm] 9) none)
  have hBn : Blk (w.alloc (.cells #[.string nm] 9)) w.heap.size #[.string nm] 9 := alloc_new _ _
  obtain ⟨a, cap, hcv⟩ := ownsRow_form R.ochs
  have h1c : (w.alloc (.cells #[.string nm] 9)).cell? ⟨b, 1, none⟩ = some (.slice a D.chs.length cap) := by rw [(R.alloc _).blk.cell 1, ← hcv]; rfl
  have HR0 := hide (R.alloc (.cells #[.string nm] 9))
  have HB0 := hide hB0
  have HBn := hide hBn
  have HCV := hide hcv
  have HS := hide S
  have H64 := hide R.c64
  obtain ⟨d75, hu75, hr75⟩ := u75
  have HNo : Hid (∀ c ∈ D.chs, isN nm c = false) := fun c hc => by
    cases hb : isN nm c with
    | false => rfl
    | true =>
      obtain ⟨f, hf⟩ := S.nm c hc
      rw [isN_eq hb, hlk] at hf
      cases hf
  clear hlk
  clear R S hB0 hBn hcv
  go_enter Tryz.func141, Tryz.ntmps141
  go_upto_region 2 with fail
  go_loopw [11] (fun jv wr => ∃ (j : Nat) (whoj : Nat → Nat), j ≤ D.chs.length ∧ jv = .int .i64 (j : Int) ∧ Rep wr base b D whoj ∧ Blk wr w.heap.size #[.string nm] 9 ∧ Moves b D w D wr) (fun jv _ => D.chs.length - (intOf jv).toNat)
  case atStart => exact ⟨0, who, Nat.zero_le _, rfl, HR0.out, HBn.out, HB0.out⟩
  case round =>
    obtain ⟨j, whoj, hj, rfl, hRj, hBj, hbj⟩ := hrel
    have HRj := hide hRj
    have HBj := hide hBj
    have Hbj := hide hbj
    clear hRj hBj hbj
    by_cases hlt : j < D.chs.length
    · obtain ⟨c, hc⟩ : ∃ c, D.chs[j]? = some c := ⟨D.chs[j], List.getElem?_eq_getElem hlt⟩
      have hcm := List.mem_of_getElem? hc
      have H6 := hide (H64.out c hcm)
      have HC := hide hc
      have HCm := hide hcm
      have hg : ∃ g, a = some ⟨g, 0, none⟩ ∧ wr.rangeAt g (j * 67) c.cells := by
        have ho : wr.ownsRow base 112 67 D.cv D.chs.length (chcells D.chs) := HRj.out.ochs
        rw [HCV.out] at ho
        rcases ho.2 with ⟨hv, hz⟩ | ⟨g, cap', cur, hv, _⟩
        · omega
        · cases hv
          exact ⟨g, rfl, chs_range ho H64.out hc⟩
      obtain ⟨g, rfl, hrg⟩ := hg
      have HRg := hide hrg
      have HZ := hide (show (wr.alloc (.cells Tryz.zeroCells112 112)).heap[wr.heap.size]? = some (.cells Tryz.zeroCells112 112 (0, 0)) from alloc_new _ _)
      have l1 : (j : Int) < (D.chs.length : Int) := by omega
      have l0 : (0 : Int) ≤ (j : Int) := by omega
      have hw1 : IntKind.i64.wrap ((j : Int) + 1) = (j : Int) + 1 := by rw [IntKind.wrap_i64]; have := HS.out.few; omega
      have HFl : Hid (∀ W2, Blk W2 wr.heap.size c.cells.toArray 112 → W2.cell? ⟨wr.heap.size, 0, none⟩ = some (.string c.name)) := fun W2 h => (h.cell 0).trans (chg_get c).2.2.1
      clear hc hcm hrg
      have hb := HNo.out c HCm.out
      have hne : (c.name.toList == nm.toList) = false := hb
      go_wp2_with (first
          | (refine wp_loadC H6.out HRg.out _ (by rfl) (by rfl) (by rfl) ?_)
          | (refine wp_storeC H6.out zeros75_size HZ.out _ _ (by rfl) (by rfl) (by rfl) (by rfl) ?_; intro W2 hB2 hO2; have HB2 := hide hB2; have HO2 := hide hO2; have hnm := HFl.out W2 hB2; have hnb : W2.cell? ⟨w.heap.size, 0, none⟩ = some (.string nm) := (Blk.cell (fresh_blk HBj.out hO2) 0).trans rfl; clear hB2 hO2))
      refine ⟨⟨j + 1, whoj, hlt, rfl, HRj.out.fresh HO2.out, fresh_blk HBj.out HO2.out, Hbj.out.trans (Moves.fresh HO2.out)⟩, ?_⟩
      simp only [intOf]; omega
    · obtain rfl : j = D.chs.length := by omega
      have HRk := HRj
      have h1k : wr.cell? ⟨b, 1, none⟩ = some (.slice a D.chs.length cap) := by rw [HRk.out.blk.cell 1, ← HCV.out]; rfl
      have hnb : wr.cell? ⟨w.heap.size, 0, none⟩ = some (.string nm) := (HBj.out.cell 0).trans rfl
      have HDl : Hid (Calls Tryz.prog 147 #[.slice a D.chs.length cap, .func (.func 148) #[] #[.pointer (some ⟨w.heap.size, 0, none⟩)]] wr fun e w' => ∃ v', e = .returned v' ∧ w'.ownsRow base 112 67 v' (others nm D.chs).length (chcells (others nm D.chs)) ∧ (∀ g, v'.ownBlock = some g → D.cv.ownBlock = some g) ∧ wr.grownBy w' D.cv.ownBlock) := by
        have ho : wr.ownsRow base 112 67 D.cv D.chs.length (chcells D.chs) := HRk.out.ochs
        have := deleteF wr base D.cv D.chs nm w.heap.size ho H64.out HBj.out HS.out.few
        rw [HCV.out] at this ⊢
        exact this
      have HFr : Hid (∀ w4, wr.grownBy w4 D.cv.ownBlock → w4.frozen? ⟨b, 1, none⟩ = false ∧ (∃ v, w4.cell? ⟨b, 1, none⟩ = some v) ∧ w4.cell? ⟨w.heap.size, 0, none⟩ = some (.string nm)) := fun w4 hg => by
        have hbc : ¬ some b = D.cv.ownBlock := fun e => by have h1 := HRk.out.wc b e.symm; have h2 := HRk.out.wb; omega
        have hB : Blk w4 b _ 76 := (hg.block b HRk.out.blk.lt hbc).trans HRk.out.blk
        have hnc : ¬ some w.heap.size = D.cv.ownBlock := fun e => by
          rcases HRk.out.ochs.2 with ⟨hv, _⟩ | ⟨g, cap, cur, hv, _, hg, _⟩
          · have hv' : D.cv = .slice none 0 0 := hv
            rw [hv'] at e; cases e
          · have hv' : D.cv = .slice (some ⟨g, 0, none⟩) D.chs.length cap := hv
            rw [hv'] at e
            have e' : w.heap.size = g := by simpa [Value.ownBlock] using e
            rw [← e'] at hg
            exact absurd (HBj.out.same hg) (by decide)
        have hN : Blk w4 w.heap.size #[.string nm] 9 := (hg.block _ HBj.out.lt hnc).trans HBj.out
        exact ⟨hB.frozen 1, ⟨_, (hB.cell 1).trans rfl⟩, (hN.cell 0).trans rfl⟩
      go_upto_region 8 with (first
        | (go_at_call 147; refine Calls.mono HDl.out ?_; rintro e w4 ⟨v4, rfl, ho4, hv4, hg4⟩; obtain ⟨hf4, ⟨x4, hc4⟩, hn4⟩ := HFr.out w4 hg4; obtain ⟨a4, cap4, hv5⟩ := ownsRow_form ho4; have HV4 := hide hv4; have HO4 := hide ho4; have HG4 := hide hg4; clear hv4 ho4 hg4; subst hv5))
      obtain ⟨R5, hb5⟩ := HRk.out.cutM nm _ HO4.out HV4.out HG4.out
      have hn5 : (w4.setCell ⟨b, 1, none⟩ (.slice a4 (others nm D.chs).length cap4)).cell? ⟨w.heap.size, 0, none⟩ = some (.string nm) := by
        rw [World.cell?_of_block (w := w4) (Below.heap_setCell _ ⟨b, 1, none⟩ _ w.heap.size (fun e => by
          have e' : w.heap.size = b := e
          have h1 := HRk.out.blk
          rw [← e'] at h1
          exact absurd (HBj.out.same h1) (by decide)))]
        exact hn4
      have HFg := hide (forget_any _ base b _ whoj R5 nm)
      have HR5 := hide R5
      have Hb5 := hide hb5
      clear R5 hb5
      go_wp2_with (first
        | (go_at_call 55; refine Calls.mono HFg.out ?_; rintro e w6 ⟨rfl, hO6, hR6⟩; have HO6 := hide hO6; have HR6 := hide hR6; clear hO6 hR6))
      go_end0
      exact ⟨rfl, .slice a4 (others nm D.chs).length cap4, whoj, HR6.out, (Hbj.out.trans Hb5.out).trans (Moves.forget HO6.out)⟩
end Go.Proofs.YteocmhbllckpjaaGreat
