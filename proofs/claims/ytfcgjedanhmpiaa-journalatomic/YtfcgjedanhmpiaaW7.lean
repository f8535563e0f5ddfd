/- A disk is started again, with choices, and nothing else is touched. -/
import Derived.Test.YtfcgjedanhmpiaaW6
namespace Go.Proofs.Ytfcgjedanhmpiaa
open Go.ChangeShapes Go.WideShapes Go.ChangeAt Go.RowKit
open Go.ChangeMaps (setBlock)
set_option linter.unusedVariables false

theorem Moves.later {b I : Nat} {D D1 : DS} {w w1 w2 : World} (h : Moves b D w D1 w1) (h' : Only [I] w1 w2) (hI : w.heap.size ≤ I) : Moves b D w D1 w2 :=
  ⟨h'.os.trans h.os, h'.tape.trans h.tape, h'.output.trans h.output, Nat.le_trans h.size h'.size,
   fun k hk hn => (h'.block k (Nat.lt_of_lt_of_le hk h.size) (fun hm => by have e : k = I := (by simpa using hm); omega)).trans (h.keep k hk hn), h.sub⟩
theorem Moves.reset {b : Nat} {D : DS} {w w' : World} (h : Only [b] w w') : Moves b D w (restD D) w' :=
  Moves.only h (fun k hk _ => .inl (by simpa using hk)) (fun k hk hF => by
    rcases hF with h1 | h1 | h1 | h1
    · exact .inl h1
    · exact .inr (.inl h1)
    · cases h1
    · exact .inr (.inr (.inr h1)))
set_option maxHeartbeats 8000000 in
set_option maxRecDepth 100000 in
theorem restart_moves (w : World) (base b : Nat) (D : DS) (who : Nat → Nat) (R : Rep w base b D who) (S : Sane D) (hU : Uniq D.fs) (hdn : D.down = true) (hst : 0 ≤ D.starts ∧ D.starts ≤ 2000000)
    (pc : Option Addr) (pcap : Nat) (xs : List Int) (ch : Nat → Int) (hch : ∀ j, ch j = (xs[j]?).getD 0) (hX : ∀ j x, xs[j]? = some x → x ≤ 9223372036854775807 ∧ ∃ g o, pc = some ⟨g, o, none⟩ ∧ g < w.heap.size ∧ ¬ Foot b D g ∧ w.cell? ⟨g, o + j, none⟩ = some (.int .i64 x)) :
    Calls Try.prog 32 #[.pointer (some ⟨b, 0, none⟩), .slice pc xs.length pcap] w fun e w' => e = .returned (.int .i64 0) ∧ ∃ D' who', Rep w' base b D' who' ∧ Restc D D' ch ∧ Moves b D w D' w' := by
  have HM := hide (made_rep w base b D who R)
  obtain ⟨a, cap, hcv⟩ := ownsRow_form R.ochs
  have h1c : w.cell? ⟨b, 1, none⟩ = some (.slice a D.chs.length cap) := by rw [R.blk.cell 1, ← hcv]; rfl
  have h6c : w.cell? ⟨b, 6, none⟩ = some (.bool true) := by rw [R.blk.cell 6, ← hdn]; rfl
  have HR := hide R
  have HCV := hide hcv
  have HS := hide S
  have H64 := hide R.c64
  have HU := hide hU
  have HSt0 := hide hst
  have HX := hide hX
  have HCH := hide hch
  obtain ⟨d75, hu75, hr75⟩ := u75
  clear R S hcv hU hst hdn hX hch
  go_enter Try.func32, Try.ntmps32
  go_upto_region 6 with (first
    | (go_at_call 31; refine Calls.mono HM.out ?_; rintro e w1 ⟨rfl, rfl⟩))
  go_loopw [23] (fun jv wr => ∃ (j : Nat) (fsj : List FL) (whoj : Nat → Nat), j ≤ D.chs.length ∧ jv = .int .i64 (j : Int) ∧ Rep wr base b { D with fs := fsj } whoj ∧ TakeI D { D with fs := fsj } ch j ∧ Moves b D w { D with fs := fsj } wr) (fun jv _ => D.chs.length - (intOf jv).toNat)
  case atStart => exact ⟨0, D.fs, who, Nat.zero_le _, rfl, HR.out, TakeI.zero HU.out HS.out.kl, Moves.refl _ _ _⟩
  case round =>
    obtain ⟨j, fsj, whoj, hj, rfl, hRj, hTj, hBj⟩ := hrel
    have HRj := hide hRj
    have HTj := hide hTj
    have HBj := hide hBj
    clear hRj hTj hBj
    by_cases hlt : j < D.chs.length
    · obtain ⟨c, hc⟩ : ∃ c, D.chs[j]? = some c := ⟨D.chs[j], List.getElem?_eq_getElem hlt⟩
      have hcm := List.mem_of_getElem? hc
      have HC := hide hc
      have HCm := hide hcm
      have H6 := hide (H64.out c hcm)
      obtain ⟨f, hlk⟩ : ∃ f, look fsj c.name = some f := by
        obtain ⟨f0, h0⟩ := HS.out.nm c hcm
        obtain ⟨h1, h2⟩ := look_some h0
        obtain ⟨f, hf, _, h3⟩ := HTj.out.all_ f0 h1
        rw [h2, ← h3]
        exact look_mem hf
      have HLk := hide hlk
      have HF := hide (look_some hlk).1
      have hg : ∃ g, a = some ⟨g, 0, none⟩ ∧ wr.rangeAt g (j * 67) c.cells := by
        have ho : wr.ownsRow base 100 67 D.cv D.chs.length (chcells D.chs) := HRj.out.ochs
        rw [HCV.out] at ho
        rcases ho.2 with ⟨hv, hz⟩ | ⟨g, cap', cur, hv, _⟩
        · omega
        · cases hv
          exact ⟨g, rfl, chs_range ho H64.out hc⟩
      obtain ⟨g, rfl, hrg⟩ := hg
      have HRg := hide hrg
      have HZ := hide (show (wr.alloc (.cells Try.zeroCells100 100)).heap[wr.heap.size]? = some (.cells Try.zeroCells100 100 (0, 0)) from alloc_new _ _)
      have l1 : (j : Int) < (D.chs.length : Int) := by omega
      have l0 : (0 : Int) ≤ (j : Int) := by omega
      have l2 : ¬ (j : Int) < 0 := by omega
      have hw1 : IntKind.i64.wrap ((j : Int) + 1) = (j : Int) + 1 := by rw [IntKind.wrap_i64]; have := HS.out.few; omega
      have HTk : Hid (∀ V, ch j ≤ 9223372036854775807 → Rep V base b { D with fs := fsj } whoj → Calls Try.prog 48 #[.pointer (some ⟨f.eb, 1, none⟩), .agg c.cells.toArray, .int .i64 (ch j)] V fun e w' => e = .returned (.tuple #[]) ∧ Only (f.eb :: f.kv.ownBlock.toList) V w' ∧ ∃ v' who', (∀ g, v'.ownBlock = some g → f.kv.ownBlock = some g ∨ V.heap.size ≤ g) ∧ Rep w' base b (takeD { D with fs := fsj } f v' (takeL f.kept c (ch j))) who') := fun V hk hV =>
        take_any2 V base b _ whoj hV f HF.out c H6.out (HS.out.sec c HCm.out) (HS.out.siz c HCm.out) (ch j) hk (HTj.out.kl f HF.out)
      clear hc hcm hrg hlk
      by_cases hx : j < xs.length
      · have hxl : (j : Int) < (xs.length : Int) := by omega
        obtain ⟨x, hxj⟩ : ∃ x, xs[j]? = some x := ⟨xs[j], List.getElem?_eq_getElem hx⟩
        have hchj : ch j = x := by rw [HCH.out, hxj]; rfl
        obtain ⟨hx1, cg, co, rfl, hcg, hnf, hcc⟩ := HX.out j x hxj
        have HXW : Hid (∀ W, Only [wr.heap.size] (wr.alloc (.cells Try.zeroCells100 100)) W → W.cell? ⟨cg, co + j, none⟩ = some (.int .i64 (ch j))) := fun W hW => by
          rw [hchj]
          have hz := HBj.out.size
          have hb2 : W.heap[cg]? = w.heap[cg]? := ((hW.block cg (by simp; omega) (by simp; omega)).trans (Below.heap_alloc _ _ _ (by omega))).trans (HBj.out.keep cg hcg hnf)
          rw [World.cell?_of_block (a := ⟨cg, co + j, none⟩) hb2]
          exact hcc
        have hk : ch j ≤ 9223372036854775807 := by omega
        have HK := hide hk
        clear hxj hchj hx1 hcc hk hnf hcg
        go_upto_region 11 with (first
          | (refine wp_loadC H6.out HRg.out _ (by rfl) (by rfl) (by rfl) ?_)
          | (refine wp_storeC H6.out zeros75_size HZ.out _ _ (by rfl) (by rfl) (by rfl) (by rfl) ?_; intro W2 hB2 hO2; have HB2 := hide hB2; have HO2 := hide hO2; have hxw := HXW.out W2 hO2; clear hB2 hO2))
        have HR2 := hide (HRj.out.fresh HO2.out)
        have HSt : Hid (∀ V, Only (f.eb :: f.kv.ownBlock.toList) W2.drew V → V.cell? ⟨b, 0, none⟩ = some (.map (some D.mb)) ∧ V.cell? ⟨wr.heap.size, 0, none⟩ = some (.string c.name) ∧ V.heap[D.mb]? = some (.map (ents fsj) D.clock) ∧ V.rangeAt wr.heap.size 0 c.cells) := fun V hV => by
          have R2 := HR2.out.drew
          have n1 := R2.notIn HF.out R2.blk (by decide) (by decide)
          have n3 := R2.mbNot HF.out
          have n4 := R2.notIn HF.out (show Blk W2.drew wr.heap.size c.cells.toArray 100 from HB2.out) (by decide) (by decide)
          have b1 : Blk V b _ 71 := hV.blk R2.blk n1
          have b4 : Blk V wr.heap.size c.cells.toArray 100 := hV.blk (show W2.drew.heap[wr.heap.size]? = _ from HB2.out) n4
          exact ⟨(b1.cell 0).trans rfl, (b4.cell 0).trans (chg_get c).2.2.1, hV.blk R2.map n3, b4.range⟩
        refine wp_region_held_drew (S := fun V => V.cell? ⟨b, 0, none⟩ = some (.map (some D.mb)) ∧ V.cell? ⟨wr.heap.size, 0, none⟩ = some (.string c.name) ∧ V.heap[D.mb]? = some (.map (ents fsj) D.clock) ∧ V.rangeAt wr.heap.size 0 c.cells) (by kernel_rfl) (HSt.out _ (Only.refl _ _)) ?_
        intro hHeld
        refine wpAnyH_take (i := 0) (v := .pointer (some ⟨b, 0, none⟩)) rfl (by kernel_rfl) (by kernel_rfl) (by kernel_rfl) (fun _ _ _ h => h) (Or.inl ⟨by rfl, fun V hV => by (obtain ⟨f1, f2, f3, f4⟩ := hV; go_simp)⟩) hHeld ?_
        try simp only [Act.put, List.getElem_toArray, List.getElem_cons_zero, List.setIfInBounds_toArray, List.set_cons_zero, List.set_cons_succ]
        refine wpAnyH_take (i := 1) (v := .pointer (some ⟨b, 0, none⟩)) rfl (by kernel_rfl) (by kernel_rfl) (by kernel_rfl) (fun _ _ _ h => h) (Or.inl ⟨by rfl, fun V hV => by (obtain ⟨f1, f2, f3, f4⟩ := hV; go_simp)⟩) hHeld ?_
        try simp only [Act.put, List.getElem_toArray, List.getElem_cons_succ, List.getElem_cons_zero, List.setIfInBounds_toArray, List.set_cons_zero, List.set_cons_succ]
        refine wpAnyH_take (i := 2) (v := .pointer (some ⟨b, 0, none⟩)) rfl (by kernel_rfl) (by kernel_rfl) (by kernel_rfl) (fun _ _ _ h => h) (Or.inl ⟨by rfl, fun V hV => by (obtain ⟨f1, f2, f3, f4⟩ := hV; go_simp)⟩) hHeld ?_
        try simp only [Act.put, List.getElem_toArray, List.getElem_cons_succ, List.getElem_cons_zero, List.setIfInBounds_toArray, List.set_cons_zero, List.set_cons_succ]
        refine wpAnyH_take (i := 3) (v := .map (some D.mb)) rfl (by kernel_rfl) (by kernel_rfl) (by kernel_rfl) (fun _ _ _ h => h) (Or.inl ⟨by rfl, fun V hV => by (obtain ⟨f1, f2, f3, f4⟩ := hV; go_simp)⟩) hHeld ?_
        try simp only [Act.put, List.getElem_toArray, List.getElem_cons_succ, List.getElem_cons_zero, List.setIfInBounds_toArray, List.set_cons_zero, List.set_cons_succ]
        refine wpAnyH_take (i := 4) (v := .pointer (some ⟨wr.heap.size, 0, none⟩)) rfl (by kernel_rfl) (by kernel_rfl) (by kernel_rfl) (fun _ _ _ h => h) (Or.inl ⟨by rfl, fun V hV => by (obtain ⟨f1, f2, f3, f4⟩ := hV; go_simp)⟩) hHeld ?_
        try simp only [Act.put, List.getElem_toArray, List.getElem_cons_succ, List.getElem_cons_zero, List.setIfInBounds_toArray, List.set_cons_zero, List.set_cons_succ]
        refine wpAnyH_take (i := 5) (v := .string c.name) rfl (by kernel_rfl) (by kernel_rfl) (by kernel_rfl) (fun _ _ _ h => h) (Or.inl ⟨by rfl, fun V hV => by (obtain ⟨f1, f2, f3, f4⟩ := hV; go_simp)⟩) hHeld ?_
        try simp only [Act.put, List.getElem_toArray, List.getElem_cons_succ, List.getElem_cons_zero, List.setIfInBounds_toArray, List.set_cons_zero, List.set_cons_succ]
        refine wpAnyH_take (i := 6) (v := .pointer (some ⟨f.eb, 0, none⟩)) rfl (by kernel_rfl) (by kernel_rfl) (by kernel_rfl) (fun _ _ _ h => h) (Or.inl ⟨by rfl, fun V hV => by (obtain ⟨f1, f2, f3, f4⟩ := hV; have hlk := look_run V D.mb _ D.clock c.name f3; rw [HLk.out] at hlk; simp only [Option.map_some] at hlk; go_simp)⟩) hHeld ?_
        try simp only [Act.put, List.getElem_toArray, List.getElem_cons_succ, List.getElem_cons_zero, List.setIfInBounds_toArray, List.set_cons_zero, List.set_cons_succ]
        refine wpAnyH_take (i := 7) (v := .pointer (some ⟨f.eb, 0, none⟩)) rfl (by kernel_rfl) (by kernel_rfl) (by kernel_rfl) (fun _ _ _ h => h) (Or.inl ⟨by rfl, fun V hV => by (obtain ⟨f1, f2, f3, f4⟩ := hV; go_simp)⟩) hHeld ?_
        try simp only [Act.put, List.getElem_toArray, List.getElem_cons_succ, List.getElem_cons_zero, List.setIfInBounds_toArray, List.set_cons_zero, List.set_cons_succ]
        refine wpAnyH_take (i := 8) (v := .pointer (some ⟨f.eb, 1, none⟩)) rfl (by kernel_rfl) (by kernel_rfl) (by kernel_rfl) (fun _ _ _ h => h) (Or.inl ⟨by rfl, fun V hV => by (obtain ⟨f1, f2, f3, f4⟩ := hV; go_simp)⟩) hHeld ?_
        try simp only [Act.put, List.getElem_toArray, List.getElem_cons_succ, List.getElem_cons_zero, List.setIfInBounds_toArray, List.set_cons_zero, List.set_cons_succ]
        refine wpAnyH_take (i := 9) (v := .agg c.cells.toArray) rfl (by kernel_rfl) (by kernel_rfl) (by kernel_rfl) (fun _ _ _ h => h) (yieldsIf_load_mid (by rfl) _ _ rfl _ _ rfl _ _ (fun V hV => hV.2.2.2) hu75 hr75 (i75 H6.out)) hHeld ?_
        try simp only [Act.put, List.getElem_toArray, List.getElem_cons_succ, List.getElem_cons_zero, List.setIfInBounds_toArray, List.set_cons_zero, List.set_cons_succ]
        refine wpAnyH_take (i := 10) (v := .int .i64 (ch j)) rfl (by kernel_rfl) (by kernel_rfl) (by kernel_rfl) (fun _ _ _ h => h) (Or.inl ⟨by rfl, fun V hV => by (obtain ⟨f1, f2, f3, f4⟩ := hV; go_simp)⟩) hHeld ?_
        try simp only [Act.put, List.getElem_toArray, List.getElem_cons_succ, List.getElem_cons_zero, List.setIfInBounds_toArray, List.set_cons_zero, List.set_cons_succ]
        refine wpAnyH_ready (rs := [11]) (by kernel_rfl) (by simp) ?_
        refine AllReadyH.cons rfl (fun K hK => ?_) AllReadyH.nil
        go_simp
        go_at_call 48; refine Calls.mono (HTk.out _ HK.out HR2.out.drew) ?_; rintro e w3 ⟨rfl, hO3, kv3, who3, hv3, R3⟩; have HO3 := hide hO3; have HR3 := hide R3; have HV3 := hide hv3; clear hO3 R3 hv3
        go_wp2_with fail
        refine hK.out _ _ (HSt.out w3 HO3.out) (fun hHeld => ?_)
        clear hK K
        refine wpAnyH_done (by kernel_rfl) ?_ _
        go_wp2_with fail
        refine ⟨⟨j + 1, _, who3, hlt, rfl, HR3.out, HTj.out.step HRj.out.nodup HC.out (HS.out.siz c HCm.out) HLk.out kv3, ?_⟩, ?_⟩
        · exact (HBj.out.trans (Moves.only ((Only.alloc wr (.cells Try.zeroCells100 100) [wr.heap.size]).trans HO2.out) (fun k hk hl => by have e : k = wr.heap.size := (by simpa using hk); omega) (fun _ _ h => h))).trans (Moves.trans (Moves.grown (grown_drew ⟨rfl, rfl, rfl, Nat.le_refl _, fun _ _ _ => rfl⟩)) (Moves.takeD HF.out HV3.out HO3.out))
        · simp only [intOf]; omega
      · have hxl : ¬ (j : Int) < (xs.length : Int) := by omega
        have hchj : ch j = 0 := by rw [HCH.out, List.getElem?_eq_none (by omega)]; rfl
        have HCJ := hide hchj
        have HK := hide (show ch j ≤ 9223372036854775807 by omega)
        have HTk0 := hide (fun V => hchj ▸ HTk.out V HK.out)
        clear hchj
        go_upto_region 11 with (first
          | (refine wp_loadC H6.out HRg.out _ (by rfl) (by rfl) (by rfl) ?_)
          | (refine wp_storeC H6.out zeros75_size HZ.out _ _ (by rfl) (by rfl) (by rfl) (by rfl) ?_; intro W2 hB2 hO2; have HB2 := hide hB2; have HO2 := hide hO2; clear hB2 hO2))
        have HR2 := hide (HRj.out.fresh HO2.out)
        have HSt : Hid (∀ V, Only (f.eb :: f.kv.ownBlock.toList) W2.drew V → V.cell? ⟨b, 0, none⟩ = some (.map (some D.mb)) ∧ V.cell? ⟨wr.heap.size, 0, none⟩ = some (.string c.name) ∧ V.heap[D.mb]? = some (.map (ents fsj) D.clock) ∧ V.rangeAt wr.heap.size 0 c.cells) := fun V hV => by
          have R2 := HR2.out.drew
          have n1 := R2.notIn HF.out R2.blk (by decide) (by decide)
          have n3 := R2.mbNot HF.out
          have n4 := R2.notIn HF.out (show Blk W2.drew wr.heap.size c.cells.toArray 100 from HB2.out) (by decide) (by decide)
          have b1 : Blk V b _ 71 := hV.blk R2.blk n1
          have b4 : Blk V wr.heap.size c.cells.toArray 100 := hV.blk (show W2.drew.heap[wr.heap.size]? = _ from HB2.out) n4
          exact ⟨(b1.cell 0).trans rfl, (b4.cell 0).trans (chg_get c).2.2.1, hV.blk R2.map n3, b4.range⟩
        refine wp_region_held_drew (S := fun V => V.cell? ⟨b, 0, none⟩ = some (.map (some D.mb)) ∧ V.cell? ⟨wr.heap.size, 0, none⟩ = some (.string c.name) ∧ V.heap[D.mb]? = some (.map (ents fsj) D.clock) ∧ V.rangeAt wr.heap.size 0 c.cells) (by kernel_rfl) (HSt.out _ (Only.refl _ _)) ?_
        intro hHeld
        refine wpAnyH_take (i := 0) (v := .pointer (some ⟨b, 0, none⟩)) rfl (by kernel_rfl) (by kernel_rfl) (by kernel_rfl) (fun _ _ _ h => h) (Or.inl ⟨by rfl, fun V hV => by (obtain ⟨f1, f2, f3, f4⟩ := hV; go_simp)⟩) hHeld ?_
        try simp only [Act.put, List.getElem_toArray, List.getElem_cons_zero, List.setIfInBounds_toArray, List.set_cons_zero, List.set_cons_succ]
        refine wpAnyH_take (i := 1) (v := .pointer (some ⟨b, 0, none⟩)) rfl (by kernel_rfl) (by kernel_rfl) (by kernel_rfl) (fun _ _ _ h => h) (Or.inl ⟨by rfl, fun V hV => by (obtain ⟨f1, f2, f3, f4⟩ := hV; go_simp)⟩) hHeld ?_
        try simp only [Act.put, List.getElem_toArray, List.getElem_cons_succ, List.getElem_cons_zero, List.setIfInBounds_toArray, List.set_cons_zero, List.set_cons_succ]
        refine wpAnyH_take (i := 2) (v := .pointer (some ⟨b, 0, none⟩)) rfl (by kernel_rfl) (by kernel_rfl) (by kernel_rfl) (fun _ _ _ h => h) (Or.inl ⟨by rfl, fun V hV => by (obtain ⟨f1, f2, f3, f4⟩ := hV; go_simp)⟩) hHeld ?_
        try simp only [Act.put, List.getElem_toArray, List.getElem_cons_succ, List.getElem_cons_zero, List.setIfInBounds_toArray, List.set_cons_zero, List.set_cons_succ]
        refine wpAnyH_take (i := 3) (v := .map (some D.mb)) rfl (by kernel_rfl) (by kernel_rfl) (by kernel_rfl) (fun _ _ _ h => h) (Or.inl ⟨by rfl, fun V hV => by (obtain ⟨f1, f2, f3, f4⟩ := hV; go_simp)⟩) hHeld ?_
        try simp only [Act.put, List.getElem_toArray, List.getElem_cons_succ, List.getElem_cons_zero, List.setIfInBounds_toArray, List.set_cons_zero, List.set_cons_succ]
        refine wpAnyH_take (i := 4) (v := .pointer (some ⟨wr.heap.size, 0, none⟩)) rfl (by kernel_rfl) (by kernel_rfl) (by kernel_rfl) (fun _ _ _ h => h) (Or.inl ⟨by rfl, fun V hV => by (obtain ⟨f1, f2, f3, f4⟩ := hV; go_simp)⟩) hHeld ?_
        try simp only [Act.put, List.getElem_toArray, List.getElem_cons_succ, List.getElem_cons_zero, List.setIfInBounds_toArray, List.set_cons_zero, List.set_cons_succ]
        refine wpAnyH_take (i := 5) (v := .string c.name) rfl (by kernel_rfl) (by kernel_rfl) (by kernel_rfl) (fun _ _ _ h => h) (Or.inl ⟨by rfl, fun V hV => by (obtain ⟨f1, f2, f3, f4⟩ := hV; go_simp)⟩) hHeld ?_
        try simp only [Act.put, List.getElem_toArray, List.getElem_cons_succ, List.getElem_cons_zero, List.setIfInBounds_toArray, List.set_cons_zero, List.set_cons_succ]
        refine wpAnyH_take (i := 6) (v := .pointer (some ⟨f.eb, 0, none⟩)) rfl (by kernel_rfl) (by kernel_rfl) (by kernel_rfl) (fun _ _ _ h => h) (Or.inl ⟨by rfl, fun V hV => by (obtain ⟨f1, f2, f3, f4⟩ := hV; have hlk := look_run V D.mb _ D.clock c.name f3; rw [HLk.out] at hlk; simp only [Option.map_some] at hlk; go_simp)⟩) hHeld ?_
        try simp only [Act.put, List.getElem_toArray, List.getElem_cons_succ, List.getElem_cons_zero, List.setIfInBounds_toArray, List.set_cons_zero, List.set_cons_succ]
        refine wpAnyH_take (i := 7) (v := .pointer (some ⟨f.eb, 0, none⟩)) rfl (by kernel_rfl) (by kernel_rfl) (by kernel_rfl) (fun _ _ _ h => h) (Or.inl ⟨by rfl, fun V hV => by (obtain ⟨f1, f2, f3, f4⟩ := hV; go_simp)⟩) hHeld ?_
        try simp only [Act.put, List.getElem_toArray, List.getElem_cons_succ, List.getElem_cons_zero, List.setIfInBounds_toArray, List.set_cons_zero, List.set_cons_succ]
        refine wpAnyH_take (i := 8) (v := .pointer (some ⟨f.eb, 1, none⟩)) rfl (by kernel_rfl) (by kernel_rfl) (by kernel_rfl) (fun _ _ _ h => h) (Or.inl ⟨by rfl, fun V hV => by (obtain ⟨f1, f2, f3, f4⟩ := hV; go_simp)⟩) hHeld ?_
        try simp only [Act.put, List.getElem_toArray, List.getElem_cons_succ, List.getElem_cons_zero, List.setIfInBounds_toArray, List.set_cons_zero, List.set_cons_succ]
        refine wpAnyH_take (i := 9) (v := .agg c.cells.toArray) rfl (by kernel_rfl) (by kernel_rfl) (by kernel_rfl) (fun _ _ _ h => h) (yieldsIf_load_mid (by rfl) _ _ rfl _ _ rfl _ _ (fun V hV => hV.2.2.2) hu75 hr75 (i75 H6.out)) hHeld ?_
        try simp only [Act.put, List.getElem_toArray, List.getElem_cons_succ, List.getElem_cons_zero, List.setIfInBounds_toArray, List.set_cons_zero, List.set_cons_succ]
        refine wpAnyH_take (i := 10) (v := .int .i64 0) rfl (by kernel_rfl) (by kernel_rfl) (by kernel_rfl) (fun _ _ _ h => h) (Or.inl ⟨by rfl, fun V hV => by (obtain ⟨f1, f2, f3, f4⟩ := hV; go_simp)⟩) hHeld ?_
        try simp only [Act.put, List.getElem_toArray, List.getElem_cons_succ, List.getElem_cons_zero, List.setIfInBounds_toArray, List.set_cons_zero, List.set_cons_succ]
        refine wpAnyH_ready (rs := [11]) (by kernel_rfl) (by simp) ?_
        refine AllReadyH.cons rfl (fun K hK => ?_) AllReadyH.nil
        go_simp
        go_at_call 48; refine Calls.mono (HTk0.out _ HR2.out.drew) ?_; rintro e w3 ⟨rfl, hO3, kv3, who3, hv3, R3⟩; have HO3 := hide hO3; have HR3 := hide R3; have HV3 := hide hv3; clear hO3 R3 hv3
        go_wp2_with fail
        refine hK.out _ _ (HSt.out w3 HO3.out) (fun hHeld => ?_)
        clear hK K
        refine wpAnyH_done (by kernel_rfl) ?_ _
        go_wp2_with fail
        refine ⟨⟨j + 1, _, who3, hlt, rfl, HR3.out, (by rw [← HCJ.out]; exact HTj.out.step HRj.out.nodup HC.out (HS.out.siz c HCm.out) HLk.out kv3), ?_⟩, ?_⟩
        · exact (HBj.out.trans (Moves.only ((Only.alloc wr (.cells Try.zeroCells100 100) [wr.heap.size]).trans HO2.out) (fun k hk hl => by have e : k = wr.heap.size := (by simpa using hk); omega) (fun _ _ h => h))).trans (Moves.trans (Moves.grown (grown_drew ⟨rfl, rfl, rfl, Nat.le_refl _, fun _ _ _ => rfl⟩)) (Moves.takeD HF.out HV3.out HO3.out))
        · simp only [intOf]; omega
    · obtain rfl : j = D.chs.length := by omega
      have h0c : wr.cell? ⟨b, 0, none⟩ = some (.map (some D.mb)) := (HRj.out.blk.cell 0).trans rfl
      have hrg := run_range_map (P := Try.prog) wr 68 9 104 D.mb (ents fsj) D.clock Try.underlying68 HRj.out.map
      have HB0 := HBj
      have HA0 := hide (show (wr.alloc (.mapIter (some D.mb) D.clock #[] D.clock)).heap[wr.heap.size]? = some (.mapIter (some D.mb) D.clock #[] D.clock) from alloc_new _ _)
      have HRA := hide (HRj.out.alloc (.mapIter (some D.mb) D.clock #[] D.clock))
      have HBA := hide (HB0.out.trans (Moves.grown (World.grownBy_alloc wr (.mapIter (some D.mb) D.clock #[] D.clock) none)))
      have HIw := hide (show w.heap.size ≤ wr.heap.size from HB0.out.size)
      have HI0 : Hid (RestI { D with fs := fsj } { D with fs := fsj } #[]) := ⟨⟨rfl, rfl, rfl, rfl, rfl, rfl, rfl, rfl, rfl⟩, fun f hf => ⟨f, hf, rfl, rfl, rfl⟩, fun f _ h => by simp at h, fun f0 h0 _ => ⟨f0, h0, rfl⟩, HTj.out.uniq⟩
      go_upto_region 14 with fail
      obtain ⟨I, hI⟩ : ∃ I, I = wr.heap.size := ⟨_, rfl⟩
      rw [← hI] at HA0 ⊢
      go_loopw [8] (fun _ w2 => ∃ (seen : Array Nat) (Dk : DS) (whok : Nat → Nat), w2.heap[I]? = some (.mapIter (some D.mb) D.clock seen D.clock) ∧ Rep w2 base b Dk whok ∧ RestI { D with fs := fsj } Dk seen ∧ Moves b D w Dk w2) (fun _ w2 => (leftOf (ents fsj) (w2.iterSeen I)).size)
      case atStart => exact ⟨#[], _, whoj, HA0.out, HRA.out, HI0.out, HBA.out⟩
      case round =>
        obtain ⟨seen, Dk, whok, hit, hRk, hIk, hBk⟩ := hrel
        obtain ⟨s1, s2, s3, s4, s5, s6, s7, s8, s9⟩ := hIk.same
        have hm1 : wr.heap[D.mb]? = some (.map (ents Dk.fs) D.clock) := by have := hRk.map; rw [s1, s2] at this; exact this
        have hold : ∀ x ∈ (ents Dk.fs).toList, x.born < D.clock := fun x hx => by obtain ⟨f, hf, rfl⟩ := mem_ents hx; rw [← s2]; exact hRk.born f hf
        have hnd' : ((ents Dk.fs).toList.map (·.born)).Nodup := by simpa [ents, Function.comp_def] using hRk.nodup
        have HRk := hide hRk
        have HIk := hide hIk
        have HBk := hide hBk
        have law := run_next_at (P := Try.prog) wr 0 I D.mb D.clock D.clock seen (ents Dk.fs) D.clock hit hm1 hold (Nat.le_refl _)
        clear hRk hIk hBk h0c hrg h1c h6c hlt hj
        rcases law with ⟨h00, hrun⟩ | ⟨e, he, w1, hw1, hrun⟩
        · have hnx : ∀ ty, (Instr.next (.pointer (some ⟨I, 0, none⟩)) false ty).run Try.prog wr = _ := fun _ => hrun
          rw [hI] at hnx
          have HA : Hid (∀ x ∈ Dk.fs, seen.contains x.born = true) := fun x hx => all_seen (ents Dk.fs) seen h00 x.ent (by simp only [ents, List.toList_toArray, List.mem_map]; exact ⟨x, hx, rfl⟩)
          have hB := HRk.out.blk
          have k1 := hB.cell 1
          have k3 := hB.cell 3
          have k4 := hB.cell 4
          have k6 := hB.cell 6
          have f1 := hB.frozen 1
          have B1 := hB.set 1 (.slice none 0 0)
          have f3 := B1.frozen 3
          have j3 := B1.cell 3
          have B3 := B1.set 3 (.int .i64 0)
          have f4 := B3.frozen 4
          have j4 := B3.cell 4
          have B4 := B3.set 4 (.int .i64 0)
          have f6 := B4.frozen 6
          have j6 := B4.cell 6
          have B6 := B4.set 6 (.bool false)
          have f5 := B6.frozen 5
          have j5 := B6.cell 5
          have B5 := B6.set 5 (.int .i64 (D.starts + 1))
          simp at k1 k3 k4 k6 j3 j4 j6 j5
          rw [s8] at j5
          have hO : Only [b] wr (((((wr.setCell ⟨b, 1, none⟩ (.slice none 0 0)).setCell ⟨b, 3, none⟩ (.int .i64 0)).setCell ⟨b, 4, none⟩ (.int .i64 0)).setCell ⟨b, 6, none⟩ (.bool false)).setCell ⟨b, 5, none⟩ (.int .i64 (D.starts + 1))) := ((((Only.cellAt _ _ _ _).trans (Only.cellAt _ _ _ _)).trans (Only.cellAt _ _ _ _)).trans (Only.cellAt _ _ _ _)).trans (Only.cellAt _ _ _ _)
          have HO := hide hO
          have HB5 : Hid (Blk (((((wr.setCell ⟨b, 1, none⟩ (.slice none 0 0)).setCell ⟨b, 3, none⟩ (.int .i64 0)).setCell ⟨b, 4, none⟩ (.int .i64 0)).setCell ⟨b, 6, none⟩ (.bool false)).setCell ⟨b, 5, none⟩ (.int .i64 (D.starts + 1))) b (restD Dk).cells 71) := by
            have e : (restD Dk).cells = (((((Dk.cells.setIfInBounds 1 (.slice none 0 0)).setIfInBounds 3 (.int .i64 0)).setIfInBounds 4 (.int .i64 0)).setIfInBounds 6 (.bool false)).setIfInBounds 5 (.int .i64 (D.starts + 1))) := by
              simp [restD, s8]
            rw [e]
            exact B5
          have hws : IntKind.i64.wrap (D.starts + 1) = D.starts + 1 := by rw [IntKind.wrap_i64]; have := HSt0.out; omega
          have HSame := hide (And.intro s5 s8)
          clear hrun hit hm1 hB B1 B3 B4 B6 B5 hO h00 s1 s2 s3 s4 s5 s6 s7 s8 s9
          go_wp2
          go_ret
          have R' := HRk.out.reset HO.out HB5.out
          refine ⟨rfl, restD Dk, ⟨whok, R'⟩, ?_, HBk.out.trans (Moves.reset HO.out)⟩
          refine ⟨rfl, rfl, rfl, rfl, by show Dk.starts + 1 = _; rw [HSame.out.2], HSame.out.1, fun f hf => ⟨(HIk.out.done_ f hf (HA.out f hf)).1, (HIk.out.done_ f hf (HA.out f hf)).2, ?_⟩, fun f0 h0 hk0 => ?_, HIk.out.uniq⟩
          · obtain ⟨f1, h1, e1, e2, e3⟩ := HIk.out.from_ f hf
            obtain ⟨f0, h0, g1, g2, g3⟩ := HTj.out.from_ f1 h1
            exact ⟨f0, h0, g1.trans e1, g2.trans e2, by rw [← e3]; exact g3⟩
          · obtain ⟨f1, h1, e1, e2⟩ := HTj.out.all_ f0 h0
            obtain ⟨f0', h0', g1, g2, g3⟩ := HTj.out.from_ f1 h1
            obtain rfl : f0' = f0 := FL.inj HR.out.nodup h0' h0 (g1.trans e1)
            obtain ⟨f, hf, e3⟩ := HIk.out.all_ f1 h1 (by rw [g3]; exact hk0)
            obtain ⟨f1', h1', i1, i2, _⟩ := HIk.out.from_ f hf
            obtain rfl : f1' = f1 := FL.inj HRj.out.nodup h1' h1 (i1.trans e3)
            exact ⟨f, hf, e3.trans e1, i2.symm.trans e2⟩
        · obtain ⟨f, hf, rfl⟩ := mem_ents (mem_left he).1
          have hseen : seen.contains f.born = false := (mem_left he).2
          have hO1 : Only [I] wr (setBlock w1 I (.mapIter (some D.mb) D.clock (seen.push f.born) D.clock)) := by
            rcases hw1 with rfl | rfl
            · exact Only.setBlock _ _ _
            · exact (Only.drew wr [I]).trans (Only.setBlock _ _ _)
          have hit1 : (setBlock w1 I (.mapIter (some D.mb) D.clock (seen.push f.born) D.clock)).heap[I]? = some (.mapIter (some D.mb) D.clock (seen.push f.born) D.clock) := by
            rcases hw1 with rfl | rfl <;> exact setBlock_same hit
          generalize setBlock w1 I (.mapIter (some D.mb) D.clock (seen.push f.born) D.clock) = W at hO1 hit1 hrun
          have hnx : ∀ ty, (Instr.next (.pointer (some ⟨I, 0, none⟩)) false ty).run Try.prog wr = _ := fun _ => hrun
          rw [hI] at hnx
          have hRW := HRk.out.iter hit hO1
          have hm2 : W.heap[D.mb]? = some (.map (ents Dk.fs) D.clock) := by have := hRW.map; rw [s1, s2] at this; exact this
          have hen := run_entry_at (P := Try.prog) W I D.mb D.clock seen (ents Dk.fs) D.clock f.ent hit1 hm2 (mem_left he).1 hnd'
          rw [hI] at hen
          obtain ⟨ka, kc, hkv⟩ := ownsRow_form (hRW.okv f hf)
          have hk1 : W.cell? ⟨f.eb, 1, none⟩ = some (.slice ka f.kept.length kc) := by rw [(hRW.ent f hf).cell 1, ← hkv]; rfl
          have hkl : f.kept.length ≤ 1048576 := by
            obtain ⟨f0, h0, _, _, h3⟩ := HIk.out.from_ f hf
            rw [← h3]; exact HTj.out.kl f0 h0
          have HCl : Hid (Calls Try.prog 49 #[.slice ka f.kept.length kc] W fun e w' => ∃ v', e = .returned v' ∧ Own w' base v' f.kept ∧ (∀ g, v'.ownBlock = some g → W.heap.size ≤ g) ∧ W.grownBy w' none) := by
            have := clone_any W base f.kv f.kept (hRW.okv f hf) hkl hRW.base_le
            rw [hkv] at this
            exact this
          have HF3 : Hid (∀ w3, W.grownBy w3 none → w3.frozen? ⟨f.eb, 0, none⟩ = false ∧ ∃ v, w3.cell? ⟨f.eb, 0, none⟩ = some v) := fun w3 hg => ⟨((hRW.keep hg).ent f hf).frozen 0, _, (((hRW.keep hg).ent f hf).cell 0).trans rfl⟩
          have HRW := hide hRW
          have HHit := hide hit1
          have HHit0 := hide hit
          have HF := hide hf
          have HSeen := hide hseen
          have HbW := hide (HBk.out.later hO1 (by rw [hI]; exact HIw.out))
          have HSM := hide (And.intro s1 s2)
          clear hrun hit hit1 hm1 hm2 he hO1 hf hseen hRW hkl hw1 s1 s2 s3 s4 s5 s6 s7 s8 s9 hold
          go_upto_region 17 with (first
            | (go_at_call 49; refine Calls.mono HCl.out ?_; rintro e w3 ⟨v3, rfl, ho3, hv3, hg3⟩; obtain ⟨hf3, ⟨x3, hc3⟩⟩ := HF3.out w3 hg3; obtain ⟨a3, cp3, hv3'⟩ := ownsRow_form ho3; have HO3 := hide ho3; have HV3 := hide hv3; have HG3 := hide hg3; clear ho3 hv3 hg3; subst hv3'))
          have R3 := HRW.out.keep HG3.out
          have hO4 : Only (f.eb :: f.sv.ownBlock.toList) w3 (w3.setCell ⟨f.eb, 0, none⟩ (.slice a3 f.kept.length cp3)) := (Only.setCell w3 ⟨f.eb, 0, none⟩ _).mono (by simp)
          have hnb : ∀ g, (Value.slice a3 f.kept.length cp3).ownBlock = some g → g ≠ f.eb := fun g hg e => by
            have h1 := HV3.out g hg
            have h2 := (HRW.out.ent f HF.out).lt
            omega
          have hlt3 : W.heap.size ≤ w3.heap.size := HG3.out.size
          have hB4 : Blk (w3.setCell ⟨f.eb, 0, none⟩ (.slice a3 f.kept.length cp3)) f.eb #[.slice a3 f.kept.length cp3, f.kv] 103 := (R3.ent f HF.out).set 0 _
          have ho4 : Own (w3.setCell ⟨f.eb, 0, none⟩ (.slice a3 f.kept.length cp3)) base (.slice a3 f.kept.length cp3) f.kept := ownsRow_only HO3.out (Only.setCell w3 ⟨f.eb, 0, none⟩ _) (fun k hk => by have := hnb k hk; simp; exact this)
          have R4 := (Rep.setS3 HRW.out HG3.out HF.out (.slice a3 f.kept.length cp3) f.kept HV3.out hB4 ho4)
          obtain ⟨who4, R4⟩ := R4
          have hit4 : (w3.setCell ⟨f.eb, 0, none⟩ (.slice a3 f.kept.length cp3)).heap[I]? = some (.mapIter (some D.mb) D.clock (seen.push f.born) D.clock) := by
            rw [Below.heap_setCell _ ⟨f.eb, 0, none⟩ _ I (HRW.out.iterKept HHit.out HF.out).1]
            rw [HG3.out.block I (Array.getElem?_eq_some_iff.1 HHit.out).1 (by simp)]
            exact HHit.out
          have hbe4 := HbW.out.trans (Moves.seenD (l := f.kept) HF.out (fun g hg => .inr (HV3.out g hg)) (((Only.of_grown HG3.out).mono (by simp)).trans hO4))
          have HFg := hide (forget_any _ base b _ who4 R4 f.name)
          have HR4 := hide R4
          have HHit4 := hide hit4
          have Hbe4 := hide hbe4
          have HI5 := hide (HIk.out.step HRj.out.nodup HRk.out.nodup HF.out (.slice a3 f.kept.length cp3))
          clear R3 hO4 hnb hB4 ho4 R4 hit4 hbe4
          go_wp2_with (first
            | (go_at_call 50; refine Calls.mono HFg.out ?_; rintro e w6 ⟨rfl, hO6, hR6⟩; have HO6 := hide hO6; have HR6 := hide hR6; clear hO6 hR6))
          go_roundw
          case rel =>
            have hmI : I ≠ Dk.mb := (HRW.out.iterKept HHit.out HF.out).2
            have hit6 : w6.heap[I]? = some (.mapIter (some D.mb) D.clock (seen.push f.born) D.clock) := HO6.out.blk HHit4.out (by
              show I ∉ [Dk.mb]
              simp; exact hmI)
            have hb6 := Hbe4.out.trans (Moves.forget (nm := f.name) HO6.out)
            subst hI
            exact ⟨_, _, _, _, _, _, _, _, _, _, _, _, _, _, _, _, _, _, _, _, _, _, ⟨seen.push f.born, _, who4, hit6, HR6.out, HI5.out, hb6⟩, rfl⟩
          case measure =>
            have hmI : I ≠ Dk.mb := (HRW.out.iterKept HHit.out HF.out).2
            have hit6 : w6.heap[I]? = some (.mapIter (some D.mb) D.clock (seen.push f.born) D.clock) := HO6.out.blk HHit4.out (by
              show I ∉ [Dk.mb]
              simp; exact hmI)
            simp only [World.iterSeen, hit6, HHit0.out]
            obtain ⟨f0, h0, h1, _, _⟩ := HIk.out.from_ f HF.out
            have hs0 : seen.contains f0.born = false := by rw [h1]; exact HSeen.out
            have := left_shrinks (ents fsj) seen f0.ent (left_mem (by simp only [ents, List.toList_toArray, List.mem_map]; exact ⟨f0, h0, rfl⟩) hs0)
            rw [show f0.ent.born = f.born from h1] at this
            exact this
end Go.Proofs.Ytfcgjedanhmpiaa
