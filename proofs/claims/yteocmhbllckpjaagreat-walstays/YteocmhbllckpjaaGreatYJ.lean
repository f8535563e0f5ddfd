/- A disk is started again, with choices, and nothing else is touched. -/
/- Rows that are appended to. -/
/- Rows of pages: all pages at a mark are told; two rows are held against each other. -/
/- The pages of a change. -/
/- Pages, changed, as a row. -/
/- The pages of a change: pages. -/
/- All marks of a log. -/
/- The frames of a log by their pages' numbers. -/
/- Where maps.Keys, slices.Sorted and slices.Sort lie in this program. -/
/- The numbers of a map of frames, sorted. -/
/- What brings pages home: pieces. -/
import Derived.Test.YteocmhbllckpjaaGreatW6
import Derived.Test.YteocmhbllckpjaaGreatXM
import Derived.Test.YteocmhbllckpjaaGreatXG
import Derived.RangeFuncBox
import Derived.Maps.AppendAt
import Derived.Maps.OwnIn
import Derived.Maps.Views
import Derived.Lib.SlKeysI
import Derived.Shelf.SlIterI.Nil
import Derived.Shelf.SortM.Plain
import Derived.Shelf.SortM.SortNone
import Derived.Test.YteocmhbllckpjaaGreatProg
namespace Go.Proofs.YteocmhbllckpjaaGreat
open Go.ChangeShapes Go.WideShapes Go.ChangeAt Go.RowKit
open Go.ChangeMaps (setBlock)
set_option linter.unusedVariables false

theorem Moves.later {b I : Nat} {D D1 : DS} {w w1 w2 : World} (h : Moves b D w D1 w1) (h' : Only [I] w1 w2) (hI : w.heap.size ≤ I) : Moves b D w D1 w2 :=
  ⟨h'.os.trans h.os, h'.tape.trans h.tape, h'.output.trans h.output, Nat.le_trans h.size h'.size,
   fun k hk hn => (h'.block k (Nat.lt_of_lt_of_le hk h.size) (fun hm => by have e : k = I := (by simpa using hm); omega)).trans (h.keep k hk hn), h.sub⟩
theorem Moves.reset {b : Nat} {D : DS} {w w' : World} (h : Only [b] w w') : Moves b D w (restD D) w' :=
  Moves.only h (fun k hk _ => .inl (by simpa using hk)) (fun k hk hF => by
    rcases hF with h1 | h1 | h1 | h1
    · exact .inl h1
    · exact .inr (.inl h1)
    · cases h1
    · exact .inr (.inr (.inr h1)))
set_option maxHeartbeats 8000000 in
set_option maxRecDepth 100000 in
theorem restart_moves (w : World) (base b : Nat) (D : DS) (who : Nat → Nat) (R : Rep w base b D who) (S : Sane D) (hU : Uniq D.fs) (hdn : D.down = true) (hst : 0 ≤ D.starts ∧ D.starts ≤ 2000000)
    (pc : Option Addr) (pcap : Nat) (xs : List Int) (ch : Nat → Int) (hch : ∀ j, ch j = (xs[j]?).getD 0) (hX : ∀ j x, xs[j]? = some x → x ≤ 9223372036854775807 ∧ ∃ g o, pc = some ⟨g, o, none⟩ ∧ g < w.heap.size ∧ ¬ Foot b D g ∧ w.cell? ⟨g, o + j, none⟩ = some (.int .i64 x)) :
    Calls Tryz.prog 26 #[.pointer (some ⟨b, 0, none⟩), .slice pc xs.length pcap] w fun e w' => e = .returned (.int .i64 0) ∧ ∃ D' who', Rep w' base b D' who' ∧ Restc D D' ch ∧ Moves b D w D' w' := by
  have HM := hide (made_rep w base b D who R)
  obtain ⟨a, cap, hcv⟩ := ownsRow_form R.ochs
  have h1c : w.cell? ⟨b, 1, none⟩ = some (.slice a D.chs.length cap) := by rw [R.blk.cell 1, ← hcv]; rfl
  have h6c : w.cell? ⟨b, 6, none⟩ = some (.bool true) := by rw [R.blk.cell 6, ← hdn]; rfl
  have HR := hide R
  have HCV := hide hcv
  have HS := hide S
  have H64 := hide R.c64
  have HU := hide hU
  have HSt0 := hide hst
  have HX := hide hX
  have HCH := hide hch
  obtain ⟨d75, hu75, hr75⟩ := u75
  clear R S hcv hU hst hdn hX hch
  go_enter Tryz.func26, Tryz.ntmps26
  go_upto_region 6 with (first
    | (go_at_call 37; refine Calls.mono HM.out ?_; rintro e w1 ⟨rfl, rfl⟩))
  go_loopw [23] (fun jv wr => ∃ (j : Nat) (fsj : List FL) (whoj : Nat → Nat), j ≤ D.chs.length ∧ jv = .int .i64 (j : Int) ∧ Rep wr base b { D with fs := fsj } whoj ∧ TakeI D { D with fs := fsj } ch j ∧ Moves b D w { D with fs := fsj } wr) (fun jv _ => D.chs.length - (intOf jv).toNat)
  case atStart => exact ⟨0, D.fs, who, Nat.zero_le _, rfl, HR.out, TakeI.zero HU.out HS.out.kl, Moves.refl _ _ _⟩
  case round =>
    obtain ⟨j, fsj, whoj, hj, rfl, hRj, hTj, hBj⟩ := hrel
    have HRj := hide hRj
    have HTj := hide hTj
    have HBj := hide hBj
    clear hRj hTj hBj
    by_cases hlt : j < D.chs.length
    · obtain ⟨c, hc⟩ : ∃ c, D.chs[j]? = some c := ⟨D.chs[j], List.getElem?_eq_getElem hlt⟩
      have hcm := List.mem_of_getElem? hc
      have HC := hide hc
      have HCm := hide hcm
      have H6 := hide (H64.out c hcm)
      obtain ⟨f, hlk⟩ : ∃ f, look fsj c.name = some f := by
        obtain ⟨f0, h0⟩ := HS.out.nm c hcm
        obtain ⟨h1, h2⟩ := look_some h0
        obtain ⟨f, hf, _, h3⟩ := HTj.out.all_ f0 h1
        rw [h2, ← h3]
        exact look_mem hf
      have HLk := hide hlk
      have HF := hide (look_some hlk).1
      have hg : ∃ g, a = some ⟨g, 0, none⟩ ∧ wr.rangeAt g (j * 67) c.cells := by
        have ho : wr.ownsRow base 112 67 D.cv D.chs.length (chcells D.chs) := HRj.out.ochs
        rw [HCV.out] at ho
        rcases ho.2 with ⟨hv, hz⟩ | ⟨g, cap', cur, hv, _⟩
        · omega
        · cases hv
          exact ⟨g, rfl, chs_range ho H64.out hc⟩
      obtain ⟨g, rfl, hrg⟩ := hg
      have HRg := hide hrg
      have HZ := hide (show (wr.alloc (.cells Tryz.zeroCells112 112)).heap[wr.heap.size]? = some (.cells Tryz.zeroCells112 112 (0, 0)) from alloc_new _ _)
      have l1 : (j : Int) < (D.chs.length : Int) := by omega
      have l0 : (0 : Int) ≤ (j : Int) := by omega
      have l2 : ¬ (j : Int) < 0 := by omega
      have hw1 : IntKind.i64.wrap ((j : Int) + 1) = (j : Int) + 1 := by rw [IntKind.wrap_i64]; have := HS.out.few; omega
      have HTk : Hid (∀ V, ch j ≤ 9223372036854775807 → Rep V base b { D with fs := fsj } whoj → Calls Tryz.prog 53 #[.pointer (some ⟨f.eb, 1, none⟩), .agg c.cells.toArray, .int .i64 (ch j)] V fun e w' => e = .returned (.tuple #[]) ∧ Only (f.eb :: f.kv.ownBlock.toList) V w' ∧ ∃ v' who', (∀ g, v'.ownBlock = some g → f.kv.ownBlock = some g ∨ V.heap.size ≤ g) ∧ Rep w' base b (takeD { D with fs := fsj } f v' (takeL f.kept c (ch j))) who') := fun V hk hV =>
        take_any2 V base b _ whoj hV f HF.out c H6.out (HS.out.sec c HCm.out) (HS.out.siz c HCm.out) (ch j) hk (HTj.out.kl f HF.out)
      clear hc hcm hrg hlk
      by_cases hx : j < xs.length
      · have hxl : (j : Int) < (xs.length : Int) := by omega
        obtain ⟨x, hxj⟩ : ∃ x, xs[j]? = some x := ⟨xs[j], List.getElem?_eq_getElem hx⟩
        have hchj : ch j = x := by rw [HCH.out, hxj]; rfl
        obtain ⟨hx1, cg, co, rfl, hcg, hnf, hcc⟩ := HX.out j x hxj
        have HXW : Hid (∀ W, Only [wr.heap.size] (wr.alloc (.cells Tryz.zeroCells112 112)) W → W.cell? ⟨cg, co + j, none⟩ = some (.int .i64 (ch j))) := fun W hW => by
          rw [hchj]
          have hz := HBj.out.size
          have hb2 : W.heap[cg]? = w.heap[cg]? := ((hW.block cg (by simp; omega) (by simp; omega)).trans (Below.heap_alloc _ _ _ (by omega))).trans (HBj.out.keep cg hcg hnf)
          rw [World.cell?_of_block (a := ⟨cg, co + j, none⟩) hb2]
          exact hcc
        have hk : ch j ≤ 9223372036854775807 := by omega
        have HK := hide hk
        clear hxj hchj hx1 hcc hk hnf hcg
        go_upto_region 11 with (first
          | (refine wp_loadC H6.out HRg.out _ (by rfl) (by rfl) (by rfl) ?_)
          | (refine wp_storeC H6.out zeros75_size HZ.out _ _ (by rfl) (by rfl) (by rfl) (by rfl) ?_; intro W2 hB2 hO2; have HB2 := hide hB2; have HO2 := hide hO2; have hxw := HXW.out W2 hO2; clear hB2 hO2))
        have HR2 := hide (HRj.out.fresh HO2.out)
        have HSt : Hid (∀ V, Only (f.eb :: f.kv.ownBlock.toList) W2.drew V → V.cell? ⟨b, 0, none⟩ = some (.map (some D.mb)) ∧ V.cell? ⟨wr.heap.size, 0, none⟩ = some (.string c.name) ∧ V.heap[D.mb]? = some (.map (ents fsj) D.clock) ∧ V.rangeAt wr.heap.size 0 c.cells) := fun V hV => by
          have R2 := HR2.out.drew
          have n1 := R2.notIn HF.out R2.blk (by decide) (by decide)
          have n3 := R2.mbNot HF.out
          have n4 := R2.notIn HF.out (show Blk W2.drew wr.heap.size c.cells.toArray 112 from HB2.out) (by decide) (by decide)
          have b1 : Blk V b _ 76 := hV.blk R2.blk n1
          have b4 : Blk V wr.heap.size c.cells.toArray 112 := hV.blk (show W2.drew.heap[wr.heap.size]? = _ from HB2.out) n4
          exact ⟨(b1.cell 0).trans rfl, (b4.cell 0).trans (chg_get c).2.2.1, hV.blk R2.map n3, b4.range⟩
        refine wp_region_held_drew (S := fun V => V.cell? ⟨b, 0, none⟩ = some (.map (some D.mb)) ∧ V.cell? ⟨wr.heap.size, 0, none⟩ = some (.string c.name) ∧ V.heap[D.mb]? = some (.map (ents fsj) D.clock) ∧ V.rangeAt wr.heap.size 0 c.cells) (by kernel_rfl) (HSt.out _ (Only.refl _ _)) ?_
        intro hHeld
        refine wpAnyH_take (i := 0) (v := .pointer (some ⟨b, 0, none⟩)) rfl (by kernel_rfl) (by kernel_rfl) (by kernel_rfl) (fun _ _ _ h => h) (Or.inl ⟨by rfl, fun V hV => by (obtain ⟨f1, f2, f3, f4⟩ := hV; go_simp)⟩) hHeld ?_
        try simp only [Act.put, List.getElem_toArray, List.getElem_cons_zero, List.setIfInBounds_toArray, List.set_cons_zero, List.set_cons_succ]
        refine wpAnyH_take (i := 1) (v := .pointer (some ⟨b, 0, none⟩)) rfl (by kernel_rfl) (by kernel_rfl) (by kernel_rfl) (fun _ _ _ h => h) (Or.inl ⟨by rfl, fun V hV => by (obtain ⟨f1, f2, f3, f4⟩ := hV; go_simp)⟩) hHeld ?_
        try simp only [Act.put, List.getElem_toArray, List.getElem_cons_succ, List.getElem_cons_zero, List.setIfInBounds_toArray, List.set_cons_zero, List.set_cons_succ]
        refine wpAnyH_take (i := 2) (v := .pointer (some ⟨b, 0, none⟩)) rfl (by kernel_rfl) (by kernel_rfl) (by kernel_rfl) (fun _ _ _ h => h) (Or.inl ⟨by rfl, fun V hV => by (obtain ⟨f1, f2, f3, f4⟩ := hV; go_simp)⟩) hHeld ?_
        try simp only [Act.put, List.getElem_toArray, List.getElem_cons_succ, List.getElem_cons_zero, List.setIfInBounds_toArray, List.set_cons_zero, List.set_cons_succ]
        refine wpAnyH_take (i := 3) (v := .map (some D.mb)) rfl (by kernel_rfl) (by kernel_rfl) (by kernel_rfl) (fun _ _ _ h => h) (Or.inl ⟨by rfl, fun V hV => by (obtain ⟨f1, f2, f3, f4⟩ := hV; go_simp)⟩) hHeld ?_
        try simp only [Act.put, List.getElem_toArray, List.getElem_cons_succ, List.getElem_cons_zero, List.setIfInBounds_toArray, List.set_cons_zero, List.set_cons_succ]
        refine wpAnyH_take (i := 4) (v := .pointer (some ⟨wr.heap.size, 0, none⟩)) rfl (by kernel_rfl) (by kernel_rfl) (by kernel_rfl) (fun _ _ _ h => h) (Or.inl ⟨by rfl, fun V hV => by (obtain ⟨f1, f2, f3, f4⟩ := hV; go_simp)⟩) hHeld ?_
        try simp only [Act.put, List.getElem_toArray, List.getElem_cons_succ, List.getElem_cons_zero, List.setIfInBounds_toArray, List.set_cons_zero, List.set_cons_succ]
        refine wpAnyH_take (i := 5) (v := .string c.name) rfl (by kernel_rfl) (by kernel_rfl) (by kernel_rfl) (fun _ _ _ h => h) (Or.inl ⟨by rfl, fun V hV => by (obtain ⟨f1, f2, f3, f4⟩ := hV; go_simp)⟩) hHeld ?_
        try simp only [Act.put, List.getElem_toArray, List.getElem_cons_succ, List.getElem_cons_zero, List.setIfInBounds_toArray, List.set_cons_zero, List.set_cons_succ]
        refine wpAnyH_take (i := 6) (v := .pointer (some ⟨f.eb, 0, none⟩)) rfl (by kernel_rfl) (by kernel_rfl) (by kernel_rfl) (fun _ _ _ h => h) (Or.inl ⟨by rfl, fun V hV => by (obtain ⟨f1, f2, f3, f4⟩ := hV; have hlk := look_run V D.mb _ D.clock c.name f3; rw [HLk.out] at hlk; simp only [Option.map_some] at hlk; go_simp)⟩) hHeld ?_
        try simp only [Act.put, List.getElem_toArray, List.getElem_cons_succ, List.getElem_cons_zero, List.setIfInBounds_toArray, List.set_cons_zero, List.set_cons_succ]
        refine wpAnyH_take (i := 7) (v := .pointer (some ⟨f.eb, 0, none⟩)) rfl (by kernel_rfl) (by kernel_rfl) (by kernel_rfl) (fun _ _ _ h => h) (Or.inl ⟨by rfl, fun V hV => by (obtain ⟨f1, f2, f3, f4⟩ := hV; go_simp)⟩) hHeld ?_
        try simp only [Act.put, List.getElem_toArray, List.getElem_cons_succ, List.getElem_cons_zero, List.setIfInBounds_toArray, List.set_cons_zero, List.set_cons_succ]
        refine wpAnyH_take (i := 8) (v := .pointer (some ⟨f.eb, 1, none⟩)) rfl (by kernel_rfl) (by kernel_rfl) (by kernel_rfl) (fun _ _ _ h => h) (Or.inl ⟨by rfl, fun V hV => by (obtain ⟨f1, f2, f3, f4⟩ := hV; go_simp)⟩) hHeld ?_
        try simp only [Act.put, List.getElem_toArray, List.getElem_cons_succ, List.getElem_cons_zero, List.setIfInBounds_toArray, List.set_cons_zero, List.set_cons_succ]
        refine wpAnyH_take (i := 9) (v := .agg c.cells.toArray) rfl (by kernel_rfl) (by kernel_rfl) (by kernel_rfl) (fun _ _ _ h => h) (yieldsIf_load_mid (by rfl) _ _ rfl _ _ rfl _ _ (fun V hV => hV.2.2.2) hu75 hr75 (i75 H6.out)) hHeld ?_
        try simp only [Act.put, List.getElem_toArray, List.getElem_cons_succ, List.getElem_cons_zero, List.setIfInBounds_toArray, List.set_cons_zero, List.set_cons_succ]
        refine wpAnyH_take (i := 10) (v := .int .i64 (ch j)) rfl (by kernel_rfl) (by kernel_rfl) (by kernel_rfl) (fun _ _ _ h => h) (Or.inl ⟨by rfl, fun V hV => by (obtain ⟨f1, f2, f3, f4⟩ := hV; go_simp)⟩) hHeld ?_
        try simp only [Act.put, List.getElem_toArray, List.getElem_cons_succ, List.getElem_cons_zero, List.setIfInBounds_toArray, List.set_cons_zero, List.set_cons_succ]
        refine wpAnyH_ready (rs := [11]) (by kernel_rfl) (by simp) ?_
        refine AllReadyH.cons rfl (fun K hK => ?_) AllReadyH.nil
        go_simp
        go_at_call 53; refine Calls.mono (HTk.out _ HK.out HR2.out.drew) ?_; rintro e w3 ⟨rfl, hO3, kv3, who3, hv3, R3⟩; have HO3 := hide hO3; have HR3 := hide R3; have HV3 := hide hv3; clear hO3 R3 hv3
        go_wp2_with fail
        refine hK.out _ _ (HSt.out w3 HO3.out) (fun hHeld => ?_)
        clear hK K
        refine wpAnyH_done (by kernel_rfl) ?_ _
        go_wp2_with fail
        refine ⟨⟨j + 1, _, who3, hlt, rfl, HR3.out, HTj.out.step HRj.out.nodup HC.out (HS.out.siz c HCm.out) HLk.out kv3, ?_⟩, ?_⟩
        · exact (HBj.out.trans (Moves.only ((Only.alloc wr (.cells Tryz.zeroCells112 112) [wr.heap.size]).trans HO2.out) (fun k hk hl => by have e : k = wr.heap.size := (by simpa using hk); omega) (fun _ _ h => h))).trans (Moves.trans (Moves.grown (grown_drew ⟨rfl, rfl, rfl, Nat.le_refl _, fun _ _ _ => rfl⟩)) (Moves.takeD HF.out HV3.out HO3.out))
        · simp only [intOf]; omega
      · have hxl : ¬ (j : Int) < (xs.length : Int) := by omega
        have hchj : ch j = 0 := by rw [HCH.out, List.getElem?_eq_none (by omega)]; rfl
        have HCJ := hide hchj
        have HK := hide (show ch j ≤ 9223372036854775807 by omega)
        have HTk0 := hide (fun V => hchj ▸ HTk.out V HK.out)
        clear hchj
        go_upto_region 11 with (first
          | (refine wp_loadC H6.out HRg.out _ (by rfl) (by rfl) (by rfl) ?_)
          | (refine wp_storeC H6.out zeros75_size HZ.out _ _ (by rfl) (by rfl) (by rfl) (by rfl) ?_; intro W2 hB2 hO2; have HB2 := hide hB2; have HO2 := hide hO2; clear hB2 hO2))
        have HR2 := hide (HRj.out.fresh HO2.out)
        have HSt : Hid (∀ V, Only (f.eb :: f.kv.ownBlock.toList) W2.drew V → V.cell? ⟨b, 0, none⟩ = some (.map (some D.mb)) ∧ V.cell? ⟨wr.heap.size, 0, none⟩ = some (.string c.name) ∧ V.heap[D.mb]? = some (.map (ents fsj) D.clock) ∧ V.rangeAt wr.heap.size 0 c.cells) := fun V hV => by
          have R2 := HR2.out.drew
          have n1 := R2.notIn HF.out R2.blk (by decide) (by decide)
          have n3 := R2.mbNot HF.out
          have n4 := R2.notIn HF.out (show Blk W2.drew wr.heap.size c.cells.toArray 112 from HB2.out) (by decide) (by decide)
          have b1 : Blk V b _ 76 := hV.blk R2.blk n1
          have b4 : Blk V wr.heap.size c.cells.toArray 112 := hV.blk (show W2.drew.heap[wr.heap.size]? = _ from HB2.out) n4
          exact ⟨(b1.cell 0).trans rfl, (b4.cell 0).trans (chg_get c).2.2.1, hV.blk R2.map n3, b4.range⟩
        refine wp_region_held_drew (S := fun V => V.cell? ⟨b, 0, none⟩ = some (.map (some D.mb)) ∧ V.cell? ⟨wr.heap.size, 0, none⟩ = some (.string c.name) ∧ V.heap[D.mb]? = some (.map (ents fsj) D.clock) ∧ V.rangeAt wr.heap.size 0 c.cells) (by kernel_rfl) (HSt.out _ (Only.refl _ _)) ?_
        intro hHeld
        refine wpAnyH_take (i := 0) (v := .pointer (some ⟨b, 0, none⟩)) rfl (by kernel_rfl) (by kernel_rfl) (by kernel_rfl) (fun _ _ _ h => h) (Or.inl ⟨by rfl, fun V hV => by (obtain ⟨f1, f2, f3, f4⟩ := hV; go_simp)⟩) hHeld ?_
        try simp only [Act.put, List.getElem_toArray, List.getElem_cons_zero, List.setIfInBounds_toArray, List.set_cons_zero, List.set_cons_succ]
        refine wpAnyH_take (i := 1) (v := .pointer (some ⟨b, 0, none⟩)) rfl (by kernel_rfl) (by kernel_rfl) (by kernel_rfl) (fun _ _ _ h => h) (Or.inl ⟨by rfl, fun V hV => by (obtain ⟨f1, f2, f3, f4⟩ := hV; go_simp)⟩) hHeld ?_
        try simp only [Act.put, List.getElem_toArray, List.getElem_cons_succ, List.getElem_cons_zero, List.setIfInBounds_toArray, List.set_cons_zero, List.set_cons_succ]
        refine wpAnyH_take (i := 2) (v := .pointer (some ⟨b, 0, none⟩)) rfl (by kernel_rfl) (by kernel_rfl) (by kernel_rfl) (fun _ _ _ h => h) (Or.inl ⟨by rfl, fun V hV => by (obtain ⟨f1, f2, f3, f4⟩ := hV; go_simp)⟩) hHeld ?_
        try simp only [Act.put, List.getElem_toArray, List.getElem_cons_succ, List.getElem_cons_zero, List.setIfInBounds_toArray, List.set_cons_zero, List.set_cons_succ]
        refine wpAnyH_take (i := 3) (v := .map (some D.mb)) rfl (by kernel_rfl) (by kernel_rfl) (by kernel_rfl) (fun _ _ _ h => h) (Or.inl ⟨by rfl, fun V hV => by (obtain ⟨f1, f2, f3, f4⟩ := hV; go_simp)⟩) hHeld ?_
        try simp only [Act.put, List.getElem_toArray, List.getElem_cons_succ, List.getElem_cons_zero, List.setIfInBounds_toArray, List.set_cons_zero, List.set_cons_succ]
        refine wpAnyH_take (i := 4) (v := .pointer (some ⟨wr.heap.size, 0, none⟩)) rfl (by kernel_rfl) (by kernel_rfl) (by kernel_rfl) (fun _ _ _ h => h) (Or.inl ⟨by rfl, fun V hV => by (obtain ⟨f1, f2, f3, f4⟩ := hV; go_simp)⟩) hHeld ?_
        try simp only [Act.put, List.getElem_toArray, List.getElem_cons_succ, List.getElem_cons_zero, List.setIfInBounds_toArray, List.set_cons_zero, List.set_cons_succ]
        refine wpAnyH_take (i := 5) (v := .string c.name) rfl (by kernel_rfl) (by kernel_rfl) (by kernel_rfl) (fun _ _ _ h => h) (Or.inl ⟨by rfl, fun V hV => by (obtain ⟨f1, f2, f3, f4⟩ := hV; go_simp)⟩) hHeld ?_
        try simp only [Act.put, List.getElem_toArray, List.getElem_cons_succ, List.getElem_cons_zero, List.setIfInBounds_toArray, List.set_cons_zero, List.set_cons_succ]
        refine wpAnyH_take (i := 6) (v := .pointer (some ⟨f.eb, 0, none⟩)) rfl (by kernel_rfl) (by kernel_rfl) (by kernel_rfl) (fun _ _ _ h => h) (Or.inl ⟨by rfl, fun V hV => by (obtain ⟨f1, f2, f3, f4⟩ := hV; have hlk := look_run V D.mb _ D.clock c.name f3; rw [HLk.out] at hlk; simp only [Option.map_some] at hlk; go_simp)⟩) hHeld ?_
        try simp only [Act.put, List.getElem_toArray, List.getElem_cons_succ, List.getElem_cons_zero, List.setIfInBounds_toArray, List.set_cons_zero, List.set_cons_succ]
        refine wpAnyH_take (i := 7) (v := .pointer (some ⟨f.eb, 0, none⟩)) rfl (by kernel_rfl) (by kernel_rfl) (by kernel_rfl) (fun _ _ _ h => h) (Or.inl ⟨by rfl, fun V hV => by (obtain ⟨f1, f2, f3, f4⟩ := hV; go_simp)⟩) hHeld ?_
        try simp only [Act.put, List.getElem_toArray, List.getElem_cons_succ, List.getElem_cons_zero, List.setIfInBounds_toArray, List.set_cons_zero, List.set_cons_succ]
        refine wpAnyH_take (i := 8) (v := .pointer (some ⟨f.eb, 1, none⟩)) rfl (by kernel_rfl) (by kernel_rfl) (by kernel_rfl) (fun _ _ _ h => h) (Or.inl ⟨by rfl, fun V hV => by (obtain ⟨f1, f2, f3, f4⟩ := hV; go_simp)⟩) hHeld ?_
        try simp only [Act.put, List.getElem_toArray, List.getElem_cons_succ, List.getElem_cons_zero, List.setIfInBounds_toArray, List.set_cons_zero, List.set_cons_succ]
        refine wpAnyH_take (i := 9) (v := .agg c.cells.toArray) rfl (by kernel_rfl) (by kernel_rfl) (by kernel_rfl) (fun _ _ _ h => h) (yieldsIf_load_mid (by rfl) _ _ rfl _ _ rfl _ _ (fun V hV => hV.2.2.2) hu75 hr75 (i75 H6.out)) hHeld ?_
        try simp only [Act.put, List.getElem_toArray, List.getElem_cons_succ, List.getElem_cons_zero, List.setIfInBounds_toArray, List.set_cons_zero, List.set_cons_succ]
        refine wpAnyH_take (i := 10) (v := .int .i64 0) rfl (by kernel_rfl) (by kernel_rfl) (by kernel_rfl) (fun _ _ _ h => h) (Or.inl ⟨by rfl, fun V hV => by (obtain ⟨f1, f2, f3, f4⟩ := hV; go_simp)⟩) hHeld ?_
        try simp only [Act.put, List.getElem_toArray, List.getElem_cons_succ, List.getElem_cons_zero, List.setIfInBounds_toArray, List.set_cons_zero, List.set_cons_succ]
        refine wpAnyH_ready (rs := [11]) (by kernel_rfl) (by simp) ?_
        refine AllReadyH.cons rfl (fun K hK => ?_) AllReadyH.nil
        go_simp
        go_at_call 53; refine Calls.mono (HTk0.out _ HR2.out.drew) ?_; rintro e w3 ⟨rfl, hO3, kv3, who3, hv3, R3⟩; have HO3 := hide hO3; have HR3 := hide R3; have HV3 := hide hv3; clear hO3 R3 hv3
        go_wp2_with fail
        refine hK.out _ _ (HSt.out w3 HO3.out) (fun hHeld => ?_)
        clear hK K
        refine wpAnyH_done (by kernel_rfl) ?_ _
        go_wp2_with fail
        refine ⟨⟨j + 1, _, who3, hlt, rfl, HR3.out, (by rw [← HCJ.out]; exact HTj.out.step HRj.out.nodup HC.out (HS.out.siz c HCm.out) HLk.out kv3), ?_⟩, ?_⟩
        · exact (HBj.out.trans (Moves.only ((Only.alloc wr (.cells Tryz.zeroCells112 112) [wr.heap.size]).trans HO2.out) (fun k hk hl => by have e : k = wr.heap.size := (by simpa using hk); omega) (fun _ _ h => h))).trans (Moves.trans (Moves.grown (grown_drew ⟨rfl, rfl, rfl, Nat.le_refl _, fun _ _ _ => rfl⟩)) (Moves.takeD HF.out HV3.out HO3.out))
        · simp only [intOf]; omega
    · obtain rfl : j = D.chs.length := by omega
      have h0c : wr.cell? ⟨b, 0, none⟩ = some (.map (some D.mb)) := (HRj.out.blk.cell 0).trans rfl
      have hrg := run_range_map (P := Tryz.prog) wr 73 9 120 D.mb (ents fsj) D.clock Tryz.underlying73 HRj.out.map
      have HB0 := HBj
      have HA0 := hide (show (wr.alloc (.mapIter (some D.mb) D.clock #[] D.clock)).heap[wr.heap.size]? = some (.mapIter (some D.mb) D.clock #[] D.clock) from alloc_new _ _)
      have HRA := hide (HRj.out.alloc (.mapIter (some D.mb) D.clock #[] D.clock))
      have HBA := hide (HB0.out.trans (Moves.grown (World.grownBy_alloc wr (.mapIter (some D.mb) D.clock #[] D.clock) none)))
      have HIw := hide (show w.heap.size ≤ wr.heap.size from HB0.out.size)
      have HI0 : Hid (RestI { D with fs := fsj } { D with fs := fsj } #[]) := ⟨⟨rfl, rfl, rfl, rfl, rfl, rfl, rfl, rfl, rfl⟩, fun f hf => ⟨f, hf, rfl, rfl, rfl⟩, fun f _ h => by simp at h, fun f0 h0 _ => ⟨f0, h0, rfl⟩, HTj.out.uniq⟩
      go_upto_region 14 with fail
      obtain ⟨I, hI⟩ : ∃ I, I = wr.heap.size := ⟨_, rfl⟩
      rw [← hI] at HA0 ⊢
      go_loopw [8] (fun _ w2 => ∃ (seen : Array Nat) (Dk : DS) (whok : Nat → Nat), w2.heap[I]? = some (.mapIter (some D.mb) D.clock seen D.clock) ∧ Rep w2 base b Dk whok ∧ RestI { D with fs := fsj } Dk seen ∧ Moves b D w Dk w2) (fun _ w2 => (leftOf (ents fsj) (w2.iterSeen I)).size)
      case atStart => exact ⟨#[], _, whoj, HA0.out, HRA.out, HI0.out, HBA.out⟩
      case round =>
        obtain ⟨seen, Dk, whok, hit, hRk, hIk, hBk⟩ := hrel
        obtain ⟨s1, s2, s3, s4, s5, s6, s7, s8, s9⟩ := hIk.same
        have hm1 : wr.heap[D.mb]? = some (.map (ents Dk.fs) D.clock) := by have := hRk.map; rw [s1, s2] at this; exact this
        have hold : ∀ x ∈ (ents Dk.fs).toList, x.born < D.clock := fun x hx => by obtain ⟨f, hf, rfl⟩ := mem_ents hx; rw [← s2]; exact hRk.born f hf
        have hnd' : ((ents Dk.fs).toList.map (·.born)).Nodup := by simpa [ents, Function.comp_def] using hRk.nodup
        have HRk := hide hRk
        have HIk := hide hIk
        have HBk := hide hBk
        have law := run_next_at (P := Tryz.prog) wr 0 I D.mb D.clock D.clock seen (ents Dk.fs) D.clock hit hm1 hold (Nat.le_refl _)
        clear hRk hIk hBk h0c hrg h1c h6c hlt hj
        rcases law with ⟨h00, hrun⟩ | ⟨e, he, w1, hw1, hrun⟩
        · have hnx : ∀ ty, (Instr.next (.pointer (some ⟨I, 0, none⟩)) false ty).run Tryz.prog wr = _ := fun _ => hrun
          rw [hI] at hnx
          have HA : Hid (∀ x ∈ Dk.fs, seen.contains x.born = true) := fun x hx => all_seen (ents Dk.fs) seen h00 x.ent (by simp only [ents, List.toList_toArray, List.mem_map]; exact ⟨x, hx, rfl⟩)
          have hB := HRk.out.blk
          have k1 := hB.cell 1
          have k3 := hB.cell 3
          have k4 := hB.cell 4
          have k6 := hB.cell 6
          have f1 := hB.frozen 1
          have B1 := hB.set 1 (.slice none 0 0)
          have f3 := B1.frozen 3
          have j3 := B1.cell 3
          have B3 := B1.set 3 (.int .i64 0)
          have f4 := B3.frozen 4
          have j4 := B3.cell 4
          have B4 := B3.set 4 (.int .i64 0)
          have f6 := B4.frozen 6
          have j6 := B4.cell 6
          have B6 := B4.set 6 (.bool false)
          have f5 := B6.frozen 5
          have j5 := B6.cell 5
          have B5 := B6.set 5 (.int .i64 (D.starts + 1))
          simp at k1 k3 k4 k6 j3 j4 j6 j5
          rw [s8] at j5
          have hO : Only [b] wr (((((wr.setCell ⟨b, 1, none⟩ (.slice none 0 0)).setCell ⟨b, 3, none⟩ (.int .i64 0)).setCell ⟨b, 4, none⟩ (.int .i64 0)).setCell ⟨b, 6, none⟩ (.bool false)).setCell ⟨b, 5, none⟩ (.int .i64 (D.starts + 1))) := ((((Only.cellAt _ _ _ _).trans (Only.cellAt _ _ _ _)).trans (Only.cellAt _ _ _ _)).trans (Only.cellAt _ _ _ _)).trans (Only.cellAt _ _ _ _)
          have HO := hide hO
          have HB5 : Hid (Blk (((((wr.setCell ⟨b, 1, none⟩ (.slice none 0 0)).setCell ⟨b, 3, none⟩ (.int .i64 0)).setCell ⟨b, 4, none⟩ (.int .i64 0)).setCell ⟨b, 6, none⟩ (.bool false)).setCell ⟨b, 5, none⟩ (.int .i64 (D.starts + 1))) b (restD Dk).cells 76) := by
            have e : (restD Dk).cells = (((((Dk.cells.setIfInBounds 1 (.slice none 0 0)).setIfInBounds 3 (.int .i64 0)).setIfInBounds 4 (.int .i64 0)).setIfInBounds 6 (.bool false)).setIfInBounds 5 (.int .i64 (D.starts + 1))) := by
              simp [restD, s8]
            rw [e]
            exact B5
          have hws : IntKind.i64.wrap (D.starts + 1) = D.starts + 1 := by rw [IntKind.wrap_i64]; have := HSt0.out; omega
          have HSame := hide (And.intro s5 s8)
          clear hrun hit hm1 hB B1 B3 B4 B6 B5 hO h00 s1 s2 s3 s4 s5 s6 s7 s8 s9
          go_wp2
          go_ret
          have R' := HRk.out.reset HO.out HB5.out
          refine ⟨rfl, restD Dk, ⟨whok, R'⟩, ?_, HBk.out.trans (Moves.reset HO.out)⟩
          refine ⟨rfl, rfl, rfl, rfl, by show Dk.starts + 1 = _; rw [HSame.out.2], HSame.out.1, fun f hf => ⟨(HIk.out.done_ f hf (HA.out f hf)).1, (HIk.out.done_ f hf (HA.out f hf)).2, ?_⟩, fun f0 h0 hk0 => ?_, HIk.out.uniq⟩
          · obtain ⟨f1, h1, e1, e2, e3⟩ := HIk.out.from_ f hf
            obtain ⟨f0, h0, g1, g2, g3⟩ := HTj.out.from_ f1 h1
            exact ⟨f0, h0, g1.trans e1, g2.trans e2, by rw [← e3]; exact g3⟩
          · obtain ⟨f1, h1, e1, e2⟩ := HTj.out.all_ f0 h0
            obtain ⟨f0', h0', g1, g2, g3⟩ := HTj.out.from_ f1 h1
            obtain rfl : f0' = f0 := FL.inj HR.out.nodup h0' h0 (g1.trans e1)
            obtain ⟨f, hf, e3⟩ := HIk.out.all_ f1 h1 (by rw [g3]; exact hk0)
            obtain ⟨f1', h1', i1, i2, _⟩ := HIk.out.from_ f hf
            obtain rfl : f1' = f1 := FL.inj HRj.out.nodup h1' h1 (i1.trans e3)
            exact ⟨f, hf, e3.trans e1, i2.symm.trans e2⟩
        · obtain ⟨f, hf, rfl⟩ := mem_ents (mem_left he).1
          have hseen : seen.contains f.born = false := (mem_left he).2
          have hO1 : Only [I] wr (setBlock w1 I (.mapIter (some D.mb) D.clock (seen.push f.born) D.clock)) := by
            rcases hw1 with rfl | rfl
            · exact Only.setBlock _ _ _
            · exact (Only.drew wr [I]).trans (Only.setBlock _ _ _)
          have hit1 : (setBlock w1 I (.mapIter (some D.mb) D.clock (seen.push f.born) D.clock)).heap[I]? = some (.mapIter (some D.mb) D.clock (seen.push f.born) D.clock) := by
            rcases hw1 with rfl | rfl <;> exact setBlock_same hit
          generalize setBlock w1 I (.mapIter (some D.mb) D.clock (seen.push f.born) D.clock) = W at hO1 hit1 hrun
          have hnx : ∀ ty, (Instr.next (.pointer (some ⟨I, 0, none⟩)) false ty).run Tryz.prog wr = _ := fun _ => hrun
          rw [hI] at hnx
          have hRW := HRk.out.iter hit hO1
          have hm2 : W.heap[D.mb]? = some (.map (ents Dk.fs) D.clock) := by have := hRW.map; rw [s1, s2] at this; exact this
          have hen := run_entry_at (P := Tryz.prog) W I D.mb D.clock seen (ents Dk.fs) D.clock f.ent hit1 hm2 (mem_left he).1 hnd'
          rw [hI] at hen
          obtain ⟨ka, kc, hkv⟩ := ownsRow_form (hRW.okv f hf)
          have hk1 : W.cell? ⟨f.eb, 1, none⟩ = some (.slice ka f.kept.length kc) := by rw [(hRW.ent f hf).cell 1, ← hkv]; rfl
          have hkl : f.kept.length ≤ 1048576 := by
            obtain ⟨f0, h0, _, _, h3⟩ := HIk.out.from_ f hf
            rw [← h3]; exact HTj.out.kl f0 h0
          have HCl : Hid (Calls Tryz.prog 54 #[.slice ka f.kept.length kc] W fun e w' => ∃ v', e = .returned v' ∧ Own w' base v' f.kept ∧ (∀ g, v'.ownBlock = some g → W.heap.size ≤ g) ∧ W.grownBy w' none) := by
            have := clone_any W base f.kv f.kept (hRW.okv f hf) hkl hRW.base_le
            rw [hkv] at this
            exact this
          have HF3 : Hid (∀ w3, W.grownBy w3 none → w3.frozen? ⟨f.eb, 0, none⟩ = false ∧ ∃ v, w3.cell? ⟨f.eb, 0, none⟩ = some v) := fun w3 hg => ⟨((hRW.keep hg).ent f hf).frozen 0, _, (((hRW.keep hg).ent f hf).cell 0).trans rfl⟩
          have HRW := hide hRW
          have HHit := hide hit1
          have HHit0 := hide hit
          have HF := hide hf
          have HSeen := hide hseen
          have HbW := hide (HBk.out.later hO1 (by rw [hI]; exact HIw.out))
          have HSM := hide (And.intro s1 s2)
          clear hrun hit hit1 hm1 hm2 he hO1 hf hseen hRW hkl hw1 s1 s2 s3 s4 s5 s6 s7 s8 s9 hold
          go_upto_region 17 with (first
            | (go_at_call 54; refine Calls.mono HCl.out ?_; rintro e w3 ⟨v3, rfl, ho3, hv3, hg3⟩; obtain ⟨hf3, ⟨x3, hc3⟩⟩ := HF3.out w3 hg3; obtain ⟨a3, cp3, hv3'⟩ := ownsRow_form ho3; have HO3 := hide ho3; have HV3 := hide hv3; have HG3 := hide hg3; clear ho3 hv3 hg3; subst hv3'))
          have R3 := HRW.out.keep HG3.out
          have hO4 : Only (f.eb :: f.sv.ownBlock.toList) w3 (w3.setCell ⟨f.eb, 0, none⟩ (.slice a3 f.kept.length cp3)) := (Only.setCell w3 ⟨f.eb, 0, none⟩ _).mono (by simp)
          have hnb : ∀ g, (Value.slice a3 f.kept.length cp3).ownBlock = some g → g ≠ f.eb := fun g hg e => by
            have h1 := HV3.out g hg
            have h2 := (HRW.out.ent f HF.out).lt
            omega
          have hlt3 : W.heap.size ≤ w3.heap.size := HG3.out.size
          have hB4 : Blk (w3.setCell ⟨f.eb, 0, none⟩ (.slice a3 f.kept.length cp3)) f.eb #[.slice a3 f.kept.length cp3, f.kv] 119 := (R3.ent f HF.out).set 0 _
          have ho4 : Own (w3.setCell ⟨f.eb, 0, none⟩ (.slice a3 f.kept.length cp3)) base (.slice a3 f.kept.length cp3) f.kept := ownsRow_only HO3.out (Only.setCell w3 ⟨f.eb, 0, none⟩ _) (fun k hk => by have := hnb k hk; simp; exact this)
          have R4 := (Rep.setS3 HRW.out HG3.out HF.out (.slice a3 f.kept.length cp3) f.kept HV3.out hB4 ho4)
          obtain ⟨who4, R4⟩ := R4
          have hit4 : (w3.setCell ⟨f.eb, 0, none⟩ (.slice a3 f.kept.length cp3)).heap[I]? = some (.mapIter (some D.mb) D.clock (seen.push f.born) D.clock) := by
            rw [Below.heap_setCell _ ⟨f.eb, 0, none⟩ _ I (HRW.out.iterKept HHit.out HF.out).1]
            rw [HG3.out.block I (Array.getElem?_eq_some_iff.1 HHit.out).1 (by simp)]
            exact HHit.out
          have hbe4 := HbW.out.trans (Moves.seenD (l := f.kept) HF.out (fun g hg => .inr (HV3.out g hg)) (((Only.of_grown HG3.out).mono (by simp)).trans hO4))
          have HFg := hide (forget_any _ base b _ who4 R4 f.name)
          have HR4 := hide R4
          have HHit4 := hide hit4
          have Hbe4 := hide hbe4
          have HI5 := hide (HIk.out.step HRj.out.nodup HRk.out.nodup HF.out (.slice a3 f.kept.length cp3))
          clear R3 hO4 hnb hB4 ho4 R4 hit4 hbe4
          go_wp2_with (first
            | (go_at_call 55; refine Calls.mono HFg.out ?_; rintro e w6 ⟨rfl, hO6, hR6⟩; have HO6 := hide hO6; have HR6 := hide hR6; clear hO6 hR6))
          go_roundw
          case rel =>
            have hmI : I ≠ Dk.mb := (HRW.out.iterKept HHit.out HF.out).2
            have hit6 : w6.heap[I]? = some (.mapIter (some D.mb) D.clock (seen.push f.born) D.clock) := HO6.out.blk HHit4.out (by
              show I ∉ [Dk.mb]
              simp; exact hmI)
            have hb6 := Hbe4.out.trans (Moves.forget (nm := f.name) HO6.out)
            subst hI
            exact ⟨_, _, _, _, _, _, _, _, _, _, _, _, _, _, _, _, _, _, _, _, _, _, ⟨seen.push f.born, _, who4, hit6, HR6.out, HI5.out, hb6⟩, rfl⟩
          case measure =>
            have hmI : I ≠ Dk.mb := (HRW.out.iterKept HHit.out HF.out).2
            have hit6 : w6.heap[I]? = some (.mapIter (some D.mb) D.clock (seen.push f.born) D.clock) := HO6.out.blk HHit4.out (by
              show I ∉ [Dk.mb]
              simp; exact hmI)
            simp only [World.iterSeen, hit6, HHit0.out]
            obtain ⟨f0, h0, h1, _, _⟩ := HIk.out.from_ f HF.out
            have hs0 : seen.contains f0.born = false := by rw [h1]; exact HSeen.out
            have := left_shrinks (ents fsj) seen f0.ent (left_mem (by simp only [ents, List.toList_toArray, List.mem_map]; exact ⟨f0, h0, rfl⟩) hs0)
            rw [show f0.ent.born = f.born from h1] at this
            exact this
end Go.Proofs.YteocmhbllckpjaaGreat

namespace Go.Proofs.YteocmhbllckpjaaGreat
open Go.ChangeShapes Go.WideShapes Go.ChangeAt Go.RowKit
open Go.ChangeMaps (setBlock)
set_option linter.unusedVariables false

/-- What an append to a row of that type leaves alone. -/
structure AppE (e : TypeId) (base : Nat) (v : Value) (W w' : World) : Prop where
  grown : ∀ w0 : World, w0.heap.size ≤ base → w0.grownBy W none → w0.grownBy w' none
  blk : ∀ k c t, t ≠ e → Blk W k c t → Blk w' k c t
  size : W.heap.size ≤ w'.heap.size
  other : ∀ k c t, v.ownBlock ≠ some k → Blk W k c t → Blk w' k c t
theorem own_ne {w : World} {base e size n k : Nat} {v : Value} {xs : List Value} (h : w.ownsRow base e size v n xs) (hk : w.heap.size ≤ k) : v.ownBlock ≠ some k := fun e => by have := (h.lt k e).2; omega
theorem AppE.grownB {e : TypeId} {base : Nat} {v : Value} {W w' : World} (h : AppE e base v W w') {w0 : World} (h0 : w0.heap.size = base) (hg : w0.grownBy W none) : w0.grownBy w' none := h.grown w0 (Nat.le_of_eq h0) hg
def InfoE (e size bytes : Nat) : Prop := ∃ i z, Tryz.prog.info? e = some i ∧ i.zero = some z ∧ i.size = size ∧ i.bytes = bytes ∧ z.cells.size = size
theorem infoE_of {e size bytes : Nat} (h : (Tryz.prog.info? e).map (fun i => (i.zero.map (fun z => z.cells.size), i.size, i.bytes)) = some (some size, size, bytes)) : InfoE e size bytes := by
  obtain ⟨i, h1, h2⟩ := Option.map_eq_some_iff.1 h
  simp only [Prod.mk.injEq] at h2
  obtain ⟨z, h3, h4⟩ := Option.map_eq_some_iff.1 h2.1
  exact ⟨i, z, h1, h3, h2.2.1, h2.2.2, h4⟩
theorem infoE3 : InfoE 3 1 8 := infoE_of (by kernel_rfl)
theorem infoE67 : InfoE 72 257 264 := infoE_of (by kernel_rfl)
theorem infoE24 : InfoE 49 256 256 := infoE_of (by kernel_rfl)
theorem wp_appE {ops : Array Oper} {rest : List Oper} {o : Oper} {a : Act} {Q : Exit → Act → World → Prop} {W : World} {t e size bytes base n m : Nat} {v : Value} {xs : List Value} (hu : Tryz.prog.underlying t = some (.slice e)) (hinf : InfoE e size bytes) (hpos : 0 < size) (hb : bytes ≤ 300)
    (news : List Value) (hl : news.length = m * size) (hm : 0 < m) (hone : ∀ u ∈ news, u.oneCell' = true) (hown : W.ownsRow base e size v n xs) (hn : n + m ≤ 100000) (hbase : base ≤ W.heap.size) (s x : Operand)
    (hgd : o.guard = none) (ho : o.op = .call { callee := .builtin .append, args := #[s, x], argTypes := #[t, t] }) (hs : a.eval s = v) (hx : a.eval x = .slice (some ⟨W.heap.size, 0, none⟩) m m)
    (hk : ∀ g cap w', w'.ownsRow base e size (.slice (some ⟨g, 0, none⟩) (n + m) cap) (n + m) (xs ++ news) → AppE e base v W w' → wpList Tryz.prog ops Q rest (a.put o.dst (.slice (some ⟨g, 0, none⟩) (n + m) cap)) w') :
    wpList Tryz.prog ops Q (o :: rest) a (W.alloc (.cells news.toArray e)) := by
  obtain ⟨i, z, hi, hz0, hz1, hz2, hz3⟩ := hinf
  have hmul : (n + m) * bytes ≤ 100000 * 300 := Nat.mul_le_mul hn hb
  have hu2 := hown.alloc (.cells news.toArray e)
  refine wpList_append_lies _ hgd s x t ho base e i z size bytes hu hi hz0 hz1 hz2 hz3 hpos v n xs hs hu2 ⟨W.heap.size, 0, none⟩ m m news hx hl (World.news_of_block (cs := news.toArray) (t := e) (fr := (0, 0)) (heap_alloc_new W _)) hone hm (by simp only [maxLen]; omega) (by omega) (by simp; omega) _ rfl ?_
  intro g cap w' hown' hgr hgg hlt
  refine hk g cap w' hown' ⟨fun w0 h0 hW => ?_, fun k c t ht hb => ?_, Nat.le_trans (by simp) hgr.size, fun k c t hn hb => (hgr.block k (by have := hb.lt; simp; omega) (fun e => hn e.symm)).trans ((Below.heap_alloc _ _ _ hb.lt).trans hb)⟩
  · refine ⟨hgr.os.trans hW.os, hgr.tape.trans hW.tape, hgr.output.trans hW.output, Nat.le_trans hW.size (Nat.le_trans (by simp) hgr.size), fun k hk hn => ?_⟩
    have hkW : k < W.heap.size := Nat.lt_of_lt_of_le hk hW.size
    refine (hgr.block k (by simp; omega) (fun e => ?_)).trans ((Below.heap_alloc _ _ _ hkW).trans (hW.block k hk hn))
    have := (hown.lt k e.symm).1
    omega
  · refine (hgr.block k (by have := hb.lt; simp; omega) (fun e => ?_)).trans ((Below.heap_alloc _ _ _ hb.lt).trans hb)
    exact ht (own_type hown e.symm hb)
theorem atApp73 {P : Program} {ops : Array Oper} {Q : Exit → Act → World → Prop} {d : Option Tmp} {x y : Operand} {ty : TypeId} {pos : String} {af : Array Edge} {gd : Option (Nat × Bool)} {rest : List Oper} {a : Act} {w : World} (h : wpList P ops Q ({ dst := d, op := .call { callee := .builtin .append, args := #[x, y], argTypes := #[32, 32] }, type := ty, pos := pos, after := af, guard := gd } :: rest) a w) : wpList P ops Q ({ dst := d, op := .call { callee := .builtin .append, args := #[x, y], argTypes := #[32, 32] }, type := ty, pos := pos, after := af, guard := gd } :: rest) a w := h
/-- Numbers, as cells. -/
def ivs (l : List Nat) : List Value := l.map fun (t : Nat) => Value.int .i64 (t : Int)
theorem ivs_length (l : List Nat) : (ivs l).length = l.length := by simp [ivs]
theorem ivs_append (l r : List Nat) : ivs (l ++ r) = ivs l ++ ivs r := by simp [ivs]
theorem ivs_one (x : Nat) : ivs [x] = [Value.int .i64 (x : Int)] := rfl
theorem one_ivs (x : Nat) : ∀ u ∈ ivs [x], u.oneCell' = true := by intro u hu; simp [ivs] at hu; rw [hu]; rfl
/-- A row of numbers of one's own. -/
def IntO (w : World) (base : Nat) (v : Value) (l : List Nat) : Prop := ∃ q c, v = .slice q l.length c ∧ w.ownsRow base 3 1 v l.length (ivs l)
theorem IntO.step {w : World} {base g cap n : Nat} {l r : List Nat} (hn : n = l.length) (h : w.ownsRow base 3 1 (.slice (some ⟨g, 0, none⟩) (n + r.length) cap) (n + r.length) (ivs l ++ ivs r)) : IntO w base (.slice (some ⟨g, 0, none⟩) (n + r.length) cap) (l ++ r) := by
  subst hn
  refine ⟨some ⟨g, 0, none⟩, cap, by simp, ?_⟩
  rw [ivs_append]
  simpa using h
theorem own_grown {w w' : World} {base e size n : Nat} {v : Value} {xs : List Value} (h : w.ownsRow base e size v n xs) (hg : w.grownBy w' none) : w'.ownsRow base e size v n xs := ownsRow_only h (Only.of_grown hg) (by simp)

/-- Numbers in memory. -/
def IntA (w : World) (q : Option Addr) (m : Nat) (T : Nat → Nat) : Prop := 0 < m → ∃ g, ∃ cur : Array Value, q = some ⟨g, 0, none⟩ ∧ Blk w g cur 3 ∧ ∀ k, k < m → cur[k]? = some (.int .i64 (T k : Int))
theorem IntA.grown {w w' : World} {q : Option Addr} {m : Nat} {T : Nat → Nat} (h : IntA w q m T) (hg : w.grownBy w' none) : IntA w' q m T := fun h0 => by
  obtain ⟨g, cur, e, hb, hc⟩ := h h0
  exact ⟨g, cur, e, hb.grown hg, hc⟩
theorem IntA.app {w w' : World} {base m : Nat} {q : Option Addr} {T : Nat → Nat} (h : IntA w q m T) (hg : App base w w') : IntA w' q m T := fun h0 => by
  obtain ⟨g, cur, e, hb, hc⟩ := h h0
  exact ⟨g, cur, e, hg.blk _ _ _ (by decide) hb, hc⟩
theorem IntO.form {w : World} {base : Nat} {v : Value} {l : List Nat} (h : IntO w base v l) : ∃ q c, v = .slice q l.length c ∧ IntA w q l.length (fun k => l.getD k 0) := by
  obtain ⟨q, c, rfl, hown⟩ := h
  refine ⟨q, c, rfl, fun h0 => ?_⟩
  rcases hown.2 with ⟨e, hz⟩ | ⟨g, cap, cur, e, hbg, hg, hnc, hcm, hcs, htake⟩
  · omega
  · cases e
    refine ⟨g, cur, rfl, hg, fun k hk => ?_⟩
    have h1 : cur.toList[k]? = (ivs l)[k]? := by rw [← htake, List.getElem?_take, if_pos (by omega)]
    rw [← Array.getElem?_toList, h1]
    simp [ivs, hk, List.getD]
theorem fill_one {s : Nat} {Z X : Array Value} (hZ : Z.size = s) (hX : X.size = s) : Instr.fill (fun i => some (i * s, s)) Z [(0, .agg X)] = some X := by
  unfold Instr.fill
  have e : (Value.agg X).cells = X := rfl
  simp only [Nat.zero_mul, e, hX, hZ]
  rw [if_neg (by simp)]
  unfold Instr.fill
  have h := fold_set X Z 0 s hX.symm (by omega)
  simp only [Nat.zero_add] at h
  have e2 : Array.foldl (fun cs x => cs.setIfInBounds (0 + x.2) x.1) Z X.zipIdx = (splice Z.toList 0 X.toList).toArray := by
    have := fold_set X Z 0 X.zipIdx.size (by simp) (by omega)
    exact this
  rw [e2]
  have e3 : splice Z.toList 0 X.toList = X.toList := by
    unfold splice
    rw [List.take_zero, List.nil_append, List.drop_of_length_le (by simp; omega), List.append_nil]
  rw [e3]
theorem wp_bs1 {ops : Array Oper} {rest : List Oper} {o : Oper} {a : Act} {Q : Exit → Act → World → Prop} {w : World} {t e size bytes : Nat} {X : Array Value} (hu : Tryz.prog.underlying t = some (.slice e)) (hinf : InfoE e size bytes) (hpos : 0 < size) (hsm : size ≤ 1000) (hX : X.size = size) (x : Operand)
    (hg : o.guard = none) (ho : o.op = .buildSlice t 1 #[(0, x)]) (hv : a.eval x = .agg X) (hk : wpList Tryz.prog ops Q rest (a.put o.dst (.slice (some ⟨w.heap.size, 0, none⟩) 1 1)) (w.alloc (.cells X e))) : wpList Tryz.prog ops Q (o :: rest) a w := by
  obtain ⟨i0, z, hi, hz0, hz1, hz2, hz3⟩ := hinf
  have e1 : ((([(0, x)] : List (Nat × Operand)).toArray).map fun (i, x) => (i, a.eval x)).toList = [(0, .agg X)] := by rw [List.map_toArray]; simp [hv]
  refine wpList_buildSlice hg t e 1 ([(0, x)] : List (Nat × Operand)).toArray ho X i0 z hu hi hz0 (by rw [hz1]; omega) (by rw [hz1]; omega) ?_ hk
  rw [e1, hz1]
  exact fill_one (by simp) hX
theorem atBs22 {P : Program} {ops : Array Oper} {Q : Exit → Act → World → Prop} {d : Option Tmp} {ps : Array (Nat × Operand)} {ty : TypeId} {pos : String} {af : Array Edge} {gd : Option (Nat × Bool)} {rest : List Oper} {a : Act} {w : World} (h : wpList P ops Q ({ dst := d, op := .buildSlice 31 1 ps, type := ty, pos := pos, after := af, guard := gd } :: rest) a w) : wpList P ops Q ({ dst := d, op := .buildSlice 31 1 ps, type := ty, pos := pos, after := af, guard := gd } :: rest) a w := h
theorem atBs39 {P : Program} {ops : Array Oper} {Q : Exit → Act → World → Prop} {d : Option Tmp} {ps : Array (Nat × Operand)} {ty : TypeId} {pos : String} {af : Array Edge} {gd : Option (Nat × Bool)} {rest : List Oper} {a : Act} {w : World} (h : wpList P ops Q ({ dst := d, op := .buildSlice 57 1 ps, type := ty, pos := pos, after := af, guard := gd } :: rest) a w) : wpList P ops Q ({ dst := d, op := .buildSlice 57 1 ps, type := ty, pos := pos, after := af, guard := gd } :: rest) a w := h
theorem atB67 {P : Program} {ops : Array Oper} {Q : Exit → Act → World → Prop} {d : Option Tmp} {ps : Array (Nat × Operand)} {ty : TypeId} {pos : String} {af : Array Edge} {gd : Option (Nat × Bool)} {rest : List Oper} {a : Act} {w : World} (h : wpList P ops Q ({ dst := d, op := .build 72 ps, type := ty, pos := pos, after := af, guard := gd } :: rest) a w) : wpList P ops Q ({ dst := d, op := .build 72 ps, type := ty, pos := pos, after := af, guard := gd } :: rest) a w := h
theorem built67_fill (parts : List (Nat × Value)) : Tryz.prog.built 72 parts = Instr.fill (#[(0, 1), (1, 256)][·]?) Tryz.zeroCells72 parts := by
  have hi : (Tryz.prog.info? 72).map (·.zero) = some (some (.agg Tryz.zeroCells72)) := by kernel_rfl
  obtain ⟨it, h1, h2⟩ := Option.map_eq_some_iff.1 hi
  have hf : ∃ fs, Tryz.prog.underlying 72 = some (.struct fs) ∧ fs.toList.mapM (fun f => (Tryz.prog.info? f.type).map fun i => (f.offset, i.size)) = some [(0, 1), (1, 256)] := ⟨_, Tryz.underlying72, by kernel_rfl⟩
  obtain ⟨fs, h3, h4⟩ := hf
  unfold Program.built
  rw [h1, h3]
  simp only [h2, h4]
  rfl
theorem built67 (n : Int) {p : List UInt8} (h : p.length = 256) : Tryz.prog.built 72 [(0, .int .i64 n), (1, .agg (bcs p).toArray)] = some (pcl n p).toArray := by
  have hz : Tryz.zeroCells72.size = 257 := by kernel_rfl
  have hl : Tryz.zeroCells72.toList.length = 257 := by rw [Array.length_toList]; exact hz
  have hb : (bcs p).length = 256 := by rw [length_bcs, h]
  rw [built67_fill, fill_step (off := 0) (size := 1) rfl rfl (by omega), fill_step (off := 1) (size := 256) rfl (by show (bcs p).toArray.size = 256; rw [List.size_toArray]; exact hb) (by simp [splice]; omega)]
  unfold Instr.fill
  congr 2
  show splice (splice Tryz.zeroCells72.toList 0 [.int .i64 n]) 1 (bcs p) = pcl n p
  unfold splice pcl
  simp [hb]
theorem wp_b67g {ops : Array Oper} {rest : List Oper} {o : Oper} {a : Act} {Q : Exit → Act → World → Prop} {w : World} {n : Int} {p : List UInt8} (h : p.length = 256) (x y : Operand) (hg : o.guard = none) (ho : o.op = .build 72 #[(0, x), (1, y)]) (hx : a.eval x = .int .i64 n) (hy : a.eval y = .agg (bcs p).toArray)
    (hk : wpList Tryz.prog ops Q rest (a.put o.dst (.agg (pcl n p).toArray)) w) : wpList Tryz.prog ops Q (o :: rest) a w :=
  wp_b67l (built67 n h) [(0, x), (1, y)] hg ho (by simp [hx, hy]) hk

/-- The cells of a row of elements. -/
def rowsC (C : Nat → List Value) : Nat → List Value
  | 0 => []
  | k + 1 => rowsC C k ++ C k
theorem rowsC_length {C : Nat → List Value} {s : Nat} : ∀ {k : Nat}, (∀ j, j < k → (C j).length = s) → (rowsC C k).length = k * s
  | 0, _ => by simp [rowsC]
  | k + 1, h => by
    rw [rowsC, List.length_append, rowsC_length (fun j hj => h j (by omega)), h k (by omega), Nat.succ_mul]
theorem rowsC_get {C : Nat → List Value} {s : Nat} : ∀ {k : Nat}, (∀ j, j < k → (C j).length = s) → ∀ j i, j < k → i < s → (rowsC C k)[j * s + i]? = (C j)[i]?
  | 0, _, j, i, hj, _ => by omega
  | k + 1, h, j, i, hj, hi => by
    have hl := rowsC_length (k := k) (fun j hj => h j (by omega))
    rw [rowsC]
    by_cases e : j < k
    · have h1 : j * s + s ≤ k * s := by rw [← Nat.succ_mul]; exact Nat.mul_le_mul_right s e
      rw [List.getElem?_append_left (by omega)]
      exact rowsC_get (fun j hj => h j (by omega)) j i e hi
    · obtain rfl : j = k := by omega
      rw [List.getElem?_append_right (by omega), hl, Nat.add_sub_cancel_left]
theorem rowsC_congr {C C' : Nat → List Value} : ∀ {k : Nat}, (∀ j, j < k → C j = C' j) → rowsC C k = rowsC C' k
  | 0, _ => rfl
  | k + 1, h => by rw [rowsC, rowsC, rowsC_congr (fun j hj => h j (by omega)), h k (by omega)]
theorem own_rows {w : World} {base e s k : Nat} {v : Value} {C : Nat → List Value} (h : w.ownsRow base e s v k (rowsC C k)) (hC : ∀ j, j < k → (C j).length = s) : ∃ p cap, v = .slice p k cap ∧ (0 < k → ∃ g, ∃ cur : Array Value, p = some ⟨g, 0, none⟩ ∧ Blk w g cur e ∧ base ≤ g ∧ k * s ≤ cur.size ∧ ∀ j, j < k → w.rangeAt g (j * s) (C j)) := by
  rcases h.2 with ⟨rfl, hz⟩ | ⟨g, cap, cur, rfl, hbg, hg, hnc, hcm, hcs, htake⟩
  · subst hz
    exact ⟨none, 0, rfl, fun h0 => by omega⟩
  · refine ⟨some ⟨g, 0, none⟩, cap, rfl, fun _ => ⟨g, cur, rfl, hg, hbg, ?_, fun j hj i v hv => ?_⟩⟩
    · have := congrArg List.length htake
      rw [List.length_take, rowsC_length hC] at this
      have h2 : cur.toList.length = cur.size := by simp
      omega
    · have hi : i < s := by have := (List.getElem?_eq_some_iff.1 hv).1; rw [hC j hj] at this; exact this
      rw [Blk.cell hg]
      have h1 := rowsC_get hC j i hj hi
      rw [← htake, List.getElem?_take, if_pos (by have : j * s + s ≤ k * s := by { rw [← Nat.succ_mul]; exact Nat.mul_le_mul_right s hj }; omega)] at h1
      rw [← Array.getElem?_toList, h1]
      exact hv
theorem own_PgA {w : World} {base k : Nat} {v : Value} {T : Nat → Int} {P : Nat → List UInt8} (hP : ∀ j, j < k → (P j).length = 256) (h : w.ownsRow base 72 257 v k (rowsC (fun j => pcl (T j) (P j)) k)) : ∃ p cap, v = .slice p k cap ∧ PgA w p k T P := by
  obtain ⟨p, cap, e, hA⟩ := own_rows h (fun j hj => pcl_length _ (hP j hj))
  refine ⟨p, cap, e, fun h0 => ?_⟩
  obtain ⟨g, cur, e2, hb, _, _, hr⟩ := hA h0
  exact ⟨g, cur, e2, hb, fun j hj => ⟨hP j hj, hr j hj⟩⟩
theorem atApp22 {P : Program} {ops : Array Oper} {Q : Exit → Act → World → Prop} {d : Option Tmp} {x y : Operand} {ty : TypeId} {pos : String} {af : Array Edge} {gd : Option (Nat × Bool)} {rest : List Oper} {a : Act} {w : World} (h : wpList P ops Q ({ dst := d, op := .call { callee := .builtin .append, args := #[x, y], argTypes := #[31, 31] }, type := ty, pos := pos, after := af, guard := gd } :: rest) a w) : wpList P ops Q ({ dst := d, op := .call { callee := .builtin .append, args := #[x, y], argTypes := #[31, 31] }, type := ty, pos := pos, after := af, guard := gd } :: rest) a w := h
theorem atApp39 {P : Program} {ops : Array Oper} {Q : Exit → Act → World → Prop} {d : Option Tmp} {x y : Operand} {ty : TypeId} {pos : String} {af : Array Edge} {gd : Option (Nat × Bool)} {rest : List Oper} {a : Act} {w : World} (h : wpList P ops Q ({ dst := d, op := .call { callee := .builtin .append, args := #[x, y], argTypes := #[57, 57] }, type := ty, pos := pos, after := af, guard := gd } :: rest) a w) : wpList P ops Q ({ dst := d, op := .call { callee := .builtin .append, args := #[x, y], argTypes := #[57, 57] }, type := ty, pos := pos, after := af, guard := gd } :: rest) a w := h
theorem built67z (n : Int) : Tryz.prog.built 72 [(0, .int .i64 n)] = some (pcl n z256).toArray := by
  have hz : Tryz.zeroCells72.size = 257 := by kernel_rfl
  rw [built67_fill, fill_step (off := 0) (size := 1) rfl rfl (by omega)]
  unfold Instr.fill
  have e : Tryz.zeroCells72.toList = pcl 0 z256 := by kernel_rfl
  rw [e]
  rfl
theorem wp_b67z {ops : Array Oper} {rest : List Oper} {o : Oper} {a : Act} {Q : Exit → Act → World → Prop} {w : World} {n : Int} (x : Operand) (hg : o.guard = none) (ho : o.op = .build 72 #[(0, x)]) (hx : a.eval x = .int .i64 n)
    (hk : wpList Tryz.prog ops Q rest (a.put o.dst (.agg (pcl n z256).toArray)) w) : wpList Tryz.prog ops Q (o :: rest) a w :=
  wp_b67l (built67z n) [(0, x)] hg ho (by simp [hx]) hk
theorem rowsC_one {C : Nat → List Value} {k : Nat} : rowsC C (k + 1) = rowsC C k ++ C k := rfl
/-- Pages in a row of their own. -/
def PgO (w : World) (base : Nat) (v : Value) (k : Nat) (T : Nat → Int) (P : Nat → List UInt8) : Prop := ∃ q c, v = .slice q k c ∧ w.ownsRow base 72 257 v k (rowsC (fun j => pcl (T j) (P j)) k)
theorem PgO.step {w : World} {base g cap k : Nat} {T : Nat → Int} {P : Nat → List UInt8} (h : w.ownsRow base 72 257 (.slice (some ⟨g, 0, none⟩) (k + 1) cap) (k + 1) (rowsC (fun j => pcl (T j) (P j)) k ++ pcl (T k) (P k))) : PgO w base (.slice (some ⟨g, 0, none⟩) (k + 1) cap) (k + 1) T P :=
  ⟨_, _, rfl, h⟩
end Go.Proofs.YteocmhbllckpjaaGreat

namespace Go.Proofs.YteocmhbllckpjaaGreat
open Go.ChangeShapes Go.WideShapes Go.ChangeAt Go.RowKit
open Go.ChangeMaps (setBlock)
set_option linter.unusedVariables false

/-- Rows of pages in memory. -/
def PgR (w : World) (p : Option Addr) (n : Nat) (L : Nat → List UInt8) : Prop := 0 < n → ∃ g, ∃ cur : Array Value, p = some ⟨g, 0, none⟩ ∧ Blk w g cur 49 ∧ ∀ k, k < n → (L k).length = 256 ∧ w.rangeAt g (k * 256) (bcs (L k))
theorem PgR.moved {w w' : World} {base b : Nat} {D D' : DS} {who who' : Nat → Nat} {p : Option Addr} {n : Nat} {L : Nat → List UInt8} (h : PgR w p n L) (R : Rep w base b D who) (hm : RM w D w' base b D' who') : PgR w' p n L := fun h0 => by
  obtain ⟨g, cur, e, hb, hc⟩ := h h0
  have hb' := hm.blk R hb (by unfold OkT; decide)
  exact ⟨g, cur, e, hb', fun k hk => ⟨(hc k hk).1, range_blk (hc k hk).2 hb hb'⟩⟩
theorem PgR.grown {w w' : World} {p : Option Addr} {n : Nat} {L : Nat → List UInt8} (h : PgR w p n L) (hg : w.grownBy w' none) : PgR w' p n L := fun h0 => by
  obtain ⟨g, cur, e, hb, hc⟩ := h h0
  exact ⟨g, cur, e, hb.grown hg, fun k hk => ⟨(hc k hk).1, range_blk (hc k hk).2 hb (hb.grown hg)⟩⟩
def PRo (w : World) (base : Nat) (v : Value) (k : Nat) (L : Nat → List UInt8) : Prop := ∃ q c, v = .slice q k c ∧ w.ownsRow base 49 256 v k (rowsC (fun j => bcs (L j)) k)
theorem PRo.step {w : World} {base g cap k : Nat} {L : Nat → List UInt8} (h : w.ownsRow base 49 256 (.slice (some ⟨g, 0, none⟩) (k + 1) cap) (k + 1) (rowsC (fun j => bcs (L j)) k ++ bcs (L k))) : PRo w base (.slice (some ⟨g, 0, none⟩) (k + 1) cap) (k + 1) L := ⟨_, _, rfl, h⟩
theorem own_PgR {w : World} {base k : Nat} {v : Value} {L : Nat → List UInt8} (hL : ∀ j, j < k → (L j).length = 256) (h : w.ownsRow base 49 256 v k (rowsC (fun j => bcs (L j)) k)) : ∃ p cap, v = .slice p k cap ∧ PgR w p k L := by
  obtain ⟨p, cap, e, hA⟩ := own_rows h (fun j hj => by rw [length_bcs]; exact hL j hj)
  refine ⟨p, cap, e, fun h0 => ?_⟩
  obtain ⟨g, cur, e2, hb, _, _, hr⟩ := hA h0
  exact ⟨g, cur, e2, hb, fun j hj => ⟨hL j hj, hr j hj⟩⟩

theorem neq24 (V : World) (l l' : List UInt8) (h : l.length = 256) (h' : l'.length = 256) : (binOp .neq 49 (.agg (bcs l).toArray) (.agg (bcs l').toArray)).run Tryz.prog V = .ok (.bool (!(l == l'))) V := by
  have h := run_eql_bytes (P := Tryz.prog) (w := V) 49 5 256 Tryz.underlying49 Tryz.underlying5 (fun w => by kernel_rfl) l l' h h'
  have h2 : (binOp .eql 49 (.agg (bcs l).toArray) (.agg (bcs l').toArray)).run Tryz.prog V = .ok (.bool (l == l')) V := h
  simp only [binOp, Sem.run_bind] at h2 ⊢
  cases hq : (Op.equal 49 (.agg (bcs l).toArray) (.agg (bcs l').toArray)).run Tryz.prog V with
  | ok b W =>
    rw [hq] at h2
    simp [Result.andThen] at h2
    obtain ⟨rfl, rfl⟩ := h2
    rfl
  | halt a b => rw [hq] at h2; simp [Result.andThen] at h2

set_option maxHeartbeats 4000000 in
set_option maxRecDepth 20000 in
theorem same_j (w : World) (p q : Option Addr) (n m c c' : Nat) (L M : Nat → List UInt8) (hp : PgR w p n L) (hq : PgR w q m M) (hn : n ≤ 1000) (x : Bool) (hx : x = true ↔ n = m ∧ ∀ k, k < n → L k = M k) :
    Calls Tryz.prog 27 #[.slice p n c, .slice q m c'] w fun e w' => e = .returned (.bool x) ∧ w.grownBy w' none := by
  have HX := hideJ hx
  by_cases e : n = m
  · subst e
    have HP := hideJ hp
    have HQ := hideJ hq
    have HN := hideJ hn
    clear hp hq hx hn
    go_enter Tryz.func27, Tryz.ntmps27
    go_wp2
    go_loopw [5] (fun iv wr => ∃ k : Nat, k ≤ n ∧ iv = .int .i64 (k : Int) ∧ w.grownBy wr none ∧ ∀ j, j < k → L j = M j) (fun iv _ => n - (intOf iv).toNat)
    case atStart => exact ⟨0, Nat.zero_le _, rfl, grown_refl _, fun j hj => by omega⟩
    case round =>
      obtain ⟨k, hk, rfl, hg, hj⟩ := hrel
      have HG := hideJ hg
      have HJ := hideJ hj
      clear hg hj
      by_cases hlt : k < n
      · obtain ⟨g1, cur1, rfl, hb1, hc1⟩ := (HP.out.grown HG.out) (by omega)
        obtain ⟨g2, cur2, rfl, hb2, hc2⟩ := (HQ.out.grown HG.out) (by omega)
        have HR1 := hideJ (hc1 k hlt)
        have HR2 := hideJ (hc2 k hlt)
        have l1 : (k : Int) < (n : Int) := by omega
        have l0 : (0 : Int) ≤ (k : Int) := by omega
        have hw1 : IntKind.i64.wrap ((k : Int) + 1) = (k : Int) + 1 := by have := HN.out; rw [IntKind.wrap_i64]; omega
        have HK := hideJ hlt
        have HNq := hideJ (fun V => neq24 V (L k) (M k) HR1.out.1 HR2.out.1)
        clear hb1 hc1 hb2 hc2
        go_upto_region 6 with fail
        have HS0 : Hid (wr.drew.rangeAt g1 (k * 256) (bcs (L k)) ∧ wr.drew.rangeAt g2 (k * 256) (bcs (M k))) := ⟨HR1.out.2, HR2.out.2⟩
        have HU := hideJ Tryz.underlying49
        have HSz : Hid ((Tryz.prog.info? 49).map (·.size) = some (bcs (L k)).length ∧ (Tryz.prog.info? 49).map (·.size) = some (bcs (M k)).length) := ⟨by rw [length_bcs, HR1.out.1]; exact info24, by rw [length_bcs, HR2.out.1]; exact info24⟩
        obtain ⟨y, hy⟩ : ∃ y, y = !(L k == M k) := ⟨_, rfl⟩
        have HY : Hid (y = false ↔ L k = M k) := by show _ ↔ _; rw [hy]; simp
        rw [← hy] at HNq
        have hnq := HNq.out
        clear hy HR1 HR2 HNq
        generalize bcs (L k) = C1 at HS0 HSz hnq
        generalize bcs (M k) = C2 at HS0 HSz hnq
        refine wp_region_held_drew (S := fun V => V.rangeAt g1 (k * 256) C1 ∧ V.rangeAt g2 (k * 256) C2) (by kernel_rfl) (HS0.out) (fun hHeld => ?_)
        refine wpAnyH_take (i := 0) (v := .slice (some ⟨g1, 0, none⟩) n c) rfl (by kernel_rfl) (by kernel_rfl) (by kernel_rfl) (fun _ _ _ h => h) (Or.inl ⟨by rfl, fun V hV => by go_simp⟩) hHeld ?_
        try simp only [Act.put, List.getElem_toArray, List.getElem_cons_zero, List.setIfInBounds_toArray, List.set_cons_zero, List.set_cons_succ]
        refine wpAnyH_take (i := 1) (v := .int .i64 (k : Int)) rfl (by kernel_rfl) (by kernel_rfl) (by kernel_rfl) (fun _ _ _ h => h) (Or.inl ⟨by rfl, fun V hV => by go_simp⟩) hHeld ?_
        try simp only [Act.put, List.getElem_toArray, List.getElem_cons_succ, List.getElem_cons_zero, List.setIfInBounds_toArray, List.set_cons_zero, List.set_cons_succ]
        refine wpAnyH_take (i := 2) (v := .pointer (some ⟨g1, k * 256, none⟩)) rfl (by kernel_rfl) (by kernel_rfl) (by kernel_rfl) (fun _ _ _ h => h) (Or.inl ⟨by rfl, fun V hV => by go_simp⟩) hHeld ?_
        try simp only [Act.put, List.getElem_toArray, List.getElem_cons_succ, List.getElem_cons_zero, List.setIfInBounds_toArray, List.set_cons_zero, List.set_cons_succ]
        refine wpAnyH_take (i := 3) (v := .agg C1.toArray) rfl (by kernel_rfl) (by kernel_rfl) (by kernel_rfl) (fun _ _ _ h => h) (yieldsIf_load_mid (by rfl) _ _ rfl _ _ rfl _ _ (fun V hV => hV.1) HU.out rfl HSz.out.1) hHeld ?_
        try simp only [Act.put, List.getElem_toArray, List.getElem_cons_succ, List.getElem_cons_zero, List.setIfInBounds_toArray, List.set_cons_zero, List.set_cons_succ]
        refine wpAnyH_take (i := 4) (v := .slice (some ⟨g2, 0, none⟩) n c') rfl (by kernel_rfl) (by kernel_rfl) (by kernel_rfl) (fun _ _ _ h => h) (Or.inl ⟨by rfl, fun V hV => by go_simp⟩) hHeld ?_
        try simp only [Act.put, List.getElem_toArray, List.getElem_cons_succ, List.getElem_cons_zero, List.setIfInBounds_toArray, List.set_cons_zero, List.set_cons_succ]
        refine wpAnyH_take (i := 5) (v := .int .i64 (k : Int)) rfl (by kernel_rfl) (by kernel_rfl) (by kernel_rfl) (fun _ _ _ h => h) (Or.inl ⟨by rfl, fun V hV => by go_simp⟩) hHeld ?_
        try simp only [Act.put, List.getElem_toArray, List.getElem_cons_succ, List.getElem_cons_zero, List.setIfInBounds_toArray, List.set_cons_zero, List.set_cons_succ]
        refine wpAnyH_take (i := 6) (v := .pointer (some ⟨g2, k * 256, none⟩)) rfl (by kernel_rfl) (by kernel_rfl) (by kernel_rfl) (fun _ _ _ h => h) (Or.inl ⟨by rfl, fun V hV => by go_simp⟩) hHeld ?_
        try simp only [Act.put, List.getElem_toArray, List.getElem_cons_succ, List.getElem_cons_zero, List.setIfInBounds_toArray, List.set_cons_zero, List.set_cons_succ]
        refine wpAnyH_take (i := 7) (v := .agg C2.toArray) rfl (by kernel_rfl) (by kernel_rfl) (by kernel_rfl) (fun _ _ _ h => h) (yieldsIf_load_mid (by rfl) _ _ rfl _ _ rfl _ _ (fun V hV => hV.2) HU.out rfl HSz.out.2) hHeld ?_
        try simp only [Act.put, List.getElem_toArray, List.getElem_cons_succ, List.getElem_cons_zero, List.setIfInBounds_toArray, List.set_cons_zero, List.set_cons_succ]
        refine wpAnyH_take (i := 8) (v := .bool y) rfl (by kernel_rfl) (by kernel_rfl) (by kernel_rfl) (fun _ _ _ h => h) (Or.inl ⟨by rfl, fun V hV => by go_simp⟩) hHeld ?_
        try simp only [Act.put, List.getElem_toArray, List.getElem_cons_succ, List.getElem_cons_zero, List.setIfInBounds_toArray, List.set_cons_zero, List.set_cons_succ]
        refine wpAnyH_done (by kernel_rfl) ?_ _
        cases y with
        | false =>
          have HLk := hideJ (HY.out.1 rfl)
          go_wp2
          refine ⟨⟨k + 1, HK.out, rfl, grown_trans' HG.out (World.grownBy_drew wr), fun j hj => ?_⟩, ?_⟩
          · by_cases e : j = k
            · subst e; exact HLk.out
            · exact HJ.out j (by omega)
          · simp only [intOf]; have := HK.out; omega
        | true =>
          have HXf : Hid (x = false) := by
            show x = false
            cases hxx : x with
            | false => rfl
            | true => exact absurd (HY.out.2 ((HX.out.1 hxx).2 k HK.out)) (by decide)
          go_wp2
          go_ret
          exact ⟨by rw [HXf.out]; rfl, grown_trans' HG.out (World.grownBy_drew wr)⟩
      · obtain rfl : k = n := by omega
        have HXt : Hid (x = true) := HX.out.2 ⟨trivial, HJ.out⟩
        go_wp2
        go_ret
        exact ⟨by rw [HXt.out]; rfl, HG.out⟩
  · have HXf : Hid (x = false) := by
      show x = false
      cases hxx : x with
      | false => rfl
      | true => exact absurd (hx.1 hxx).1 e
    have e1 : ¬ (n : Int) = (m : Int) := by omega
    have e2 : ((n : Int) == (m : Int)) = false := by simp; omega
    clear hx hp hq
    go_enter Tryz.func27, Tryz.ntmps27
    go_wp2
    go_ret
    exact ⟨by rw [HXf.out]; rfl, grown_refl _⟩


set_option maxHeartbeats 4000000 in
set_option maxRecDepth 20000 in
theorem tell_w (w : World) (base b : Nat) (D : DS) (who : Nat → Nat) (R : Rep w base b D who) {r : Int} {i : Nat} (h : JI r D i) {K : Nat} {N E : Nat → Nat} {P : Nat → List UInt8} (hL : Lgf (seenOf D nmJ) K N E P) (M : Nat) (hM : IsM K E M) (old : Nat) (hold : old = cntL (seenOf D nmD) M E) (ho : old ≤ 30) :
    Calls Tryz.prog 23 #[.pointer (some ⟨b, 0, none⟩), .int .i64 (M : Int)] w fun e w' => (∃ q c, e = .returned (.slice q old c) ∧ PgR w' q old (fun k => pgAt (seenOf D nmD) N P M (k + 1))) ∧ w.grownBy w' none := by
  have HCt : Hid (∀ V, w.grownBy V none → Calls Tryz.prog 18 #[.pointer (some ⟨b, 0, none⟩), .int .i64 (M : Int)] V fun e w' => e = .returned (.tuple #[.int .i64 (old : Int), .int .i64 0]) ∧ V.grownBy w' none) := fun V hV => by
    rw [hold]; exact countX_w V base b D who (R.keep hV) h hL M hM
  have HPg : Hid (∀ k V, k < old → w.grownBy V none → Calls Tryz.prog 19 #[.pointer (some ⟨b, 0, none⟩), .int .i64 (M : Int), .int .i64 ((k : Int) + 1)] V fun e w' => e = .returned (.tuple #[.agg (bcs (pgAt (seenOf D nmD) N P M (k + 1))).toArray, .int .i64 0]) ∧ V.grownBy w' none) := fun k V hk hV => pageX_w V base b D who (R.keep hV) h hL M hM (k + 1) (by omega) (by omega)
  have HPl : Hid (∀ k, k < old → (pgAt (seenOf D nmD) N P M (k + 1)).length = 256) := fun k hk => pgAt_length hL.all (by omega)
  have HO : Hid (old ≤ 30) := ho
  have HU24 := hideJ u24
  obtain ⟨LF, hLF⟩ : ∃ LF : Nat → List UInt8, LF = fun k => pgAt (seenOf D nmD) N P M (k + 1) := ⟨_, rfl⟩
  have HPg2 : Hid (∀ k V, k < old → w.grownBy V none → Calls Tryz.prog 19 #[.pointer (some ⟨b, 0, none⟩), .int .i64 (M : Int), .int .i64 ((k : Int) + 1)] V fun e w' => e = .returned (.tuple #[.agg (bcs (LF k)).toArray, .int .i64 0]) ∧ V.grownBy w' none) := by show ∀ k V, _; rw [hLF]; exact HPg.out
  have HPl2 : Hid (∀ k, k < old → (LF k).length = 256) := by show ∀ k, _; rw [hLF]; exact HPl.out
  rw [← hLF]
  clear HPg HPl hLF R h hold ho hL hM
  go_enter Tryz.func23, Tryz.ntmps23
  go_wp2_with (go_at_call 18; (with_reducible refine Calls.mono (HCt.out _ (grown_refl _)) ?_); rintro e w1 ⟨rfl, hg⟩; have HG1 := hideJ hg; clear hg)
  go_loopw [5, 8] (fun sv iv wr => ∃ k : Nat, k ≤ old ∧ iv = .int .i64 ((k : Int) + 1) ∧ PRo wr w.heap.size sv k LF ∧ w.grownBy wr none) (fun _ iv _ => old + 1 - (intOf iv).toNat)
  case atStart => exact ⟨0, Nat.zero_le _, rfl, ⟨none, 0, rfl, World.ownsRow_nil _ _ _ _⟩, HG1.out⟩
  case round =>
    obtain ⟨k, hk, rfl, ⟨q, c', rfl, hown⟩, hg⟩ := hrel
    have HG := hideJ hg
    have HOw := hideJ hown
    clear hg hown
    by_cases hlt : k < old
    · have l1 : (k : Int) + 1 ≤ (old : Int) := by omega
      have hw1 : IntKind.i64.wrap ((k : Int) + 1 + 1) = (k : Int) + 1 + 1 := by have := HO.out; rw [IntKind.wrap_i64]; omega
      have HK := hideJ hlt
      have HPk := hideJ (fun V hV => HPg2.out k V hlt hV)
      have HPl := hideJ (HPl2.out k hlt)
      have HI := hideJ (size24 HPl.out)
      have HA := hideJ (bytes_all (LF k))
      have HNn := hideJ new24
      have HSz : Hid ((bcs (LF k)).toArray.size = (bcs z256).toArray.size) := by show _ = _; rw [List.size_toArray, List.size_toArray, length_bcs, length_bcs, HPl.out, z256_length]
      have HPs : Hid ((bcs (LF k)).toArray.size = 256) := by show _ = _; rw [List.size_toArray, length_bcs, HPl.out]
      have HPn : Hid ((bcs (LF k)).length = 1 * 256) := by show _ = _; rw [length_bcs, HPl.out]
      have HP1 := hideJ (one_bcs (LF k))
      go_wp2_with (first
        | (go_at_call 19; (with_reducible refine Calls.mono (HPk.out _ HG.out) ?_); rintro e w2 ⟨rfl, hg⟩; have HG2 := hideJ (grown_trans' HG.out hg); have HO2 := hideJ (own_grown HOw.out hg); clear hg)
        | ((with_reducible refine at24S ?_); refine wp_storeB (c := (bcs (LF k)).toArray) HI.out HSz.out HA.out (HNn.out _) _ _ (by rfl) (by rfl) (by rfl) (by rfl) ?_; intro W5 hb5 ho5; have HB5 := hideJ hb5; have HG5' := hideJ (grown_only (World.grownBy_alloc w2 _ none) ho5 (Nat.le_refl _)); have HG5 := hideJ (grown_trans' HG2.out HG5'.out); have HO5 := hideJ (own_grown HO2.out HG5'.out); clear hb5 ho5)
        | ((with_reducible refine at24L ?_); refine wp_loadB HI.out HU24.out HB5.out _ (by rfl) (by rfl) (by rfl) ?_)
        | ((with_reducible refine atBs39 ?_); refine wp_bs1 (X := (bcs (LF k)).toArray) Tryz.underlying57 infoE24 (by omega) (by omega) HPs.out _ (by rfl) (by rfl) (by rfl) ?_)
        | ((with_reducible refine atApp39 ?_); refine wp_appE (m := 1) Tryz.underlying57 infoE24 (by omega) (by omega) (bcs (LF k)) HPn.out (by omega) HP1.out HO5.out (by have := HO.out; have := HK.out; omega) HG5.out.size _ _ (by rfl) (by rfl) (by rfl) (by rfl) ?_; intro g6 cap6 w6 hown6 hap6; have HO6 := hideJ hown6; have HG6 := hideJ (hap6.grown w (Nat.le_refl _) HG5.out); clear hown6 hap6))
      refine ⟨⟨k + 1, HK.out, rfl, PRo.step HO6.out, HG6.out⟩, ?_⟩
      simp only [intOf]; have := HK.out; omega
    · obtain rfl : k = old := by omega
      have l1 : ¬ (k : Int) + 1 ≤ (k : Int) := by omega
      go_wp2
      go_ret
      obtain ⟨q5, c5, e5, hA⟩ := own_PgR HPl2.out HOw.out
      cases e5
      exact ⟨⟨q, ⟨c', rfl⟩, hA⟩, HG.out⟩
end Go.Proofs.YteocmhbllckpjaaGreat

namespace Go.Proofs.YteocmhbllckpjaaGreat
open Go.ChangeShapes Go.WideShapes Go.ChangeAt Go.RowKit
open Go.ChangeMaps (setBlock)
set_option linter.unusedVariables false

theorem getD_at {l : List Nat} {k : Nat} (h : k < l.length) : l.getD k 0 = l[k] := by simp [List.getD, h]
/-- Pages that rise, from 1 to the count. -/
structure Rise (count n : Nat) (N : Nat → Nat) : Prop where
  up : ∀ i j, i < j → j < n → N i < N j
  low : ∀ j, j < n → 1 ≤ N j ∧ N j ≤ count
theorem up_get {l : List Nat} (h : l.Pairwise (· < ·)) (h1 : ∀ p ∈ l, 1 ≤ p) : ∀ k (hk : k < l.length), k + 1 ≤ l[k]
  | 0, hk => h1 _ (List.getElem_mem hk)
  | k + 1, hk => by
    have h2 := up_get h h1 k (by omega)
    have h3 := (List.pairwise_iff_getElem.1 h) k (k + 1) (by omega) hk (by omega)
    omega
/-- Which pages a change tells: those with a byte, and all new ones. -/
def selL (old nb : Nat) (B : Nat → UInt8) (i : Nat) : List Nat := (List.range' 1 i).filter (fun n => decide ((n ≤ nb ∧ B (n - 1) ≠ 0) ∨ old < n))
def byt (nb : Nat) (B : Nat → UInt8) (n : Nat) : UInt8 := if n ≤ nb ∧ B (n - 1) ≠ 0 then B (n - 1) else 255
theorem selL_yes {old nb : Nat} {B : Nat → UInt8} {i : Nat} (h : (i + 1 ≤ nb ∧ B i ≠ 0) ∨ old < i + 1) : selL old nb B (i + 1) = selL old nb B i ++ [i + 1] := by
  unfold selL
  rw [List.range'_1_concat, List.filter_append, Nat.add_comm 1 i]
  congr 1
  rw [List.filter_cons, if_pos (by simpa using h)]
  rfl
theorem selL_no {old nb : Nat} {B : Nat → UInt8} {i : Nat} (h : ¬ ((i + 1 ≤ nb ∧ B i ≠ 0) ∨ old < i + 1)) : selL old nb B (i + 1) = selL old nb B i := by
  unfold selL
  rw [List.range'_1_concat, List.filter_append, Nat.add_comm 1 i, List.filter_cons, if_neg (by simpa using h)]
  simp
theorem selL_len (old nb : Nat) (B : Nat → UInt8) (i : Nat) : (selL old nb B i).length ≤ i := Nat.le_trans (List.length_filter_le _ _) (by simp)
theorem mem_selL {old nb : Nat} {B : Nat → UInt8} {i p : Nat} : p ∈ selL old nb B i ↔ (1 ≤ p ∧ p ≤ i) ∧ ((p ≤ nb ∧ B (p - 1) ≠ 0) ∨ old < p) := by
  unfold selL
  rw [List.mem_filter, List.mem_range'_1, decide_eq_true_eq]
  constructor
  · rintro ⟨h1, h2⟩; exact ⟨by omega, h2⟩
  · rintro ⟨h1, h2⟩; exact ⟨by omega, h2⟩
theorem selL_rise (old nb : Nat) (B : Nat → UInt8) (i : Nat) : Rise i (selL old nb B i).length (fun j => (selL old nb B i).getD j 0) where
  up := fun a c hac hc => by
    have hp : (selL old nb B i).Pairwise (· < ·) := List.Pairwise.filter _ List.pairwise_lt_range'
    show (selL old nb B i).getD a 0 < (selL old nb B i).getD c 0
    rw [getD_at hc, getD_at (by omega)]
    exact (List.pairwise_iff_getElem.1 hp) a c (by omega) hc hac
  low := fun j hj => by
    show 1 ≤ (selL old nb B i).getD j 0 ∧ (selL old nb B i).getD j 0 ≤ i
    rw [getD_at hj]
    exact (mem_selL.1 (List.getElem_mem hj)).1
theorem selL_all {old nb : Nat} {B : Nat → UInt8} {i p : Nat} (h1 : old < p) (h2 : p ≤ i) : ∃ j, j < (selL old nb B i).length ∧ (selL old nb B i).getD j 0 = p := by
  have : p ∈ selL old nb B i := mem_selL.2 ⟨⟨by omega, h2⟩, .inr h1⟩
  obtain ⟨j, hj, e⟩ := List.getElem_of_mem this
  exact ⟨j, hj, by rw [getD_at hj]; exact e⟩
theorem addN_congr {N M : Nat → Int} {old : Int} : ∀ {k : Nat}, (∀ j, j < k → N j = M j) → addN N old k = addN M old k
  | 0, _ => rfl
  | k + 1, h => by
    rw [addN, addN, addN_congr (fun j hj => h j (by omega)), h k (by omega)]
theorem getD_left {l : List Nat} {x k : Nat} (h : k < l.length) : (l ++ [x]).getD k 0 = l.getD k 0 := by
  rw [getD_at h, getD_at (by simp; omega), List.getElem_append_left h]
theorem getD_end (l : List Nat) (x : Nat) : (l ++ [x]).getD l.length 0 = x := by
  rw [getD_at (by simp), List.getElem_append_right (Nat.le_refl _)]
  simp
theorem snoc_ind {P : List Nat → Prop} (h0 : P []) (h1 : ∀ l x, P l → P (l ++ [x])) (l : List Nat) : P l := by
  have : ∀ r : List Nat, P r.reverse := fun r => by
    induction r with
    | nil => exact h0
    | cons x r ih => rw [List.reverse_cons]; exact h1 _ _ ih
  have h := this l.reverse
  rwa [List.reverse_reverse] at h
theorem addN_list (old : Nat) (l : List Nat) : addN (fun j => ((l.getD j 0 : Nat) : Int)) (old : Int) l.length = (l.filter (fun n => decide (old < n))).length := by
  refine snoc_ind (P := fun l => addN (fun j => ((l.getD j 0 : Nat) : Int)) (old : Int) l.length = (l.filter (fun n => decide (old < n))).length) rfl (fun l x ih => ?_) l
  rw [List.length_append, List.length_singleton, addN, addN_congr (M := fun j => ((l.getD j 0 : Nat) : Int)) (fun j hj => by rw [getD_left hj]), ih, getD_end, List.filter_append, List.length_append]
  congr 1
  by_cases c : old < x
  · rw [if_pos (by omega)]; simp [c]
  · rw [if_neg (by omega)]; simp [c]
theorem len_new (old : Nat) : ∀ c : Nat, ((List.range' 1 c).filter (fun n => decide (old < n))).length = c - old
  | 0 => by simp
  | c + 1 => by
    rw [List.range'_1_concat, List.filter_append, List.length_append, len_new old c]
    by_cases h : old < 1 + c
    · simp [h]; omega
    · simp [h]; omega
theorem selL_new (old nb : Nat) (B : Nat → UInt8) (c : Nat) : ((selL old nb B c).filter (fun n => decide (old < n))).length = c - old := by
  unfold selL
  rw [List.filter_filter, ← len_new old c]
  congr 2
  funext n
  by_cases h : old < n
  · simp [h]
  · simp [h]
theorem selL_may {old nb c : Nat} {B : Nat → UInt8} (hc : c ≤ 4096) : MayF (old : Int) (c : Int) (selL old nb B c).length (fun j => (((selL old nb B c).getD j 0 : Nat) : Int)) := by
  have hr := selL_rise old nb B c
  refine ⟨by omega, fun j hj => ⟨?_, by have := (hr.low j hj).2; show (((selL old nb B c).getD j 0 : Nat) : Int) ≤ _; omega⟩, ?_⟩
  · cases j with
    | zero => have := (hr.low 0 hj).1; show (0 : Int) < (((selL old nb B c).getD 0 0 : Nat) : Int); omega
    | succ j => have := hr.up j (j + 1) (by omega) hj; show (((selL old nb B c).getD j 0 : Nat) : Int) < (((selL old nb B c).getD (j + 1) 0 : Nat) : Int); omega
  · rw [addN_list, selL_new]
    omega
theorem rows_flat (C : Nat → List Value) (l : List Nat) : rowsC (fun j => C (l.getD j 0)) l.length = l.flatMap C := by
  refine snoc_ind (P := fun l => rowsC (fun j => C (l.getD j 0)) l.length = l.flatMap C) rfl (fun l x ih => ?_) l
  rw [List.length_append, List.length_singleton, rowsC, rowsC_congr (C' := fun j => C (l.getD j 0)) (fun j hj => by rw [getD_left hj]), ih, getD_end, List.flatMap_append]
  simp
theorem and_small (c : Int) (m : Nat) (hm : m < 1000000) : ∃ n : Nat, n ≤ m ∧ bits .and .i64 c (m : Int) = (n : Int) := by
  refine ⟨(BitVec.ofInt 64 c).toNat &&& m, Nat.and_le_right, ?_⟩
  have hx : (BitVec.ofInt 64 c).toNat &&& m ≤ m := Nat.and_le_right
  show IntKind.i64.wrap ((BitVec.ofInt 64 c &&& BitVec.ofInt 64 (m : Int)).toNat : Int) = _
  rw [BitVec.toNat_and]
  have e : (BitVec.ofInt 64 (m : Int)).toNat = m := by simp; omega
  rw [e, IntKind.wrap_i64]
  omega
/-- Bytes that were handed in. -/
def ByA (w : World) (p : Option Addr) (n : Nat) (B : Nat → UInt8) : Prop := 0 < n → ∃ b o, p = some ⟨b, o, none⟩ ∧ ∀ j, j < n → w.cell? ⟨b, o + j, none⟩ = some (.int .u8 ((B j).toNat : Int))
theorem grown_cell {w w' : World} (hg : w.grownBy w' none) {a : Addr} {v : Value} (h : w.cell? a = some v) : w'.cell? a = some v := by
  have hb : Below w.heap.size w w' := (Only.of_grown hg).below (Nat.le_refl _) (by simp)
  have hl : a.block < w.heap.size := by
    rcases Nat.lt_or_ge a.block w.heap.size with c | c
    · exact c
    · exfalso
      unfold World.cell? at h
      rw [Array.getElem?_eq_none c] at h
      cases h
  rw [hb.cell hl]; exact h
theorem ByA.grown {w w' : World} {p : Option Addr} {n : Nat} {B : Nat → UInt8} (h : ByA w p n B) (hg : w.grownBy w' none) : ByA w' p n B := fun h0 => by
  obtain ⟨b, o, e, hc⟩ := h h0
  exact ⟨b, o, e, fun j hj => grown_cell hg (hc j hj)⟩
def selC (nb : Nat) (B : Nat → UInt8) (n : Nat) : List Value := pcl (n : Int) (fullL (byt nb B n))
def SlO (w : World) (base : Nat) (v : Value) (nb : Nat) (B : Nat → UInt8) (l : List Nat) : Prop := ∃ q c, v = .slice q l.length c ∧ w.ownsRow base 72 257 v l.length (l.flatMap (selC nb B))
theorem SlO.step {w : World} {base g cap sn nb i : Nat} {B : Nat → UInt8} {l : List Nat} (hn : sn = l.length) (h : w.ownsRow base 72 257 (.slice (some ⟨g, 0, none⟩) (sn + 1) cap) (sn + 1) (l.flatMap (selC nb B) ++ pcl ((i : Int) + 1) (fullL (byt nb B (i + 1))))) : SlO w base (.slice (some ⟨g, 0, none⟩) (sn + 1) cap) nb B (l ++ [i + 1]) := by
  subst hn
  refine ⟨some ⟨g, 0, none⟩, cap, by simp, ?_⟩
  rw [List.flatMap_append]
  have e : [i + 1].flatMap (selC nb B) = pcl ((i : Int) + 1) (fullL (byt nb B (i + 1))) := by simp [selC]
  rw [e]
  simpa using h
/-- A change's pages, by their places. -/
def selN (old nb : Nat) (B : Nat → UInt8) (c : Nat) : Nat → Nat := fun j => (selL old nb B c).getD j 0
def selP (old nb : Nat) (B : Nat → UInt8) (c : Nat) : Nat → List UInt8 := fun j => fullL (byt nb B (selN old nb B c j))
theorem SlO.form {w : World} {base nb : Nat} {v : Value} {B : Nat → UInt8} {l : List Nat} (h : SlO w base v nb B l) : ∃ q c, v = .slice q l.length c ∧ PgA w q l.length (fun j => ((l.getD j 0 : Nat) : Int)) (fun j => fullL (byt nb B (l.getD j 0))) := by
  obtain ⟨q, c, rfl, hown⟩ := h
  rw [← rows_flat] at hown
  obtain ⟨q', c', e, hA⟩ := own_PgA (T := fun j => ((l.getD j 0 : Nat) : Int)) (P := fun j => fullL (byt nb B (l.getD j 0))) (fun j hj => fullL_length _) hown
  cases e
  exact ⟨q, c, rfl, hA⟩

end Go.Proofs.YteocmhbllckpjaaGreat

namespace Go.Proofs.YteocmhbllckpjaaGreat
open Go.ChangeShapes Go.WideShapes Go.ChangeAt Go.RowKit
open Go.ChangeMaps (setBlock)
set_option linter.unusedVariables false

/-- What was there, with zeros behind it; then the first pages laid over it. -/
def padL (nw : Nat) (W : Nat → List UInt8) : Nat → List UInt8 := fun k => if k < nw then W k else z256
def aftL (nw : Nat) (W : Nat → List UInt8) (N : Nat → Nat) (L : Nat → List UInt8) : Nat → Nat → List UInt8
  | 0 => padL nw W
  | j + 1 => fun k => if k = N j - 1 then L j else aftL nw W N L j k
theorem wp_run39 {ops : Array Oper} {rest : List Oper} {o : Oper} {a : Act} {Q : Exit → Act → World → Prop} {w : World} {v : Value} (hgd : o.guard = none) (s x : Operand) (ho : o.op = .call { callee := .builtin .append, args := #[s, x], argTypes := #[57, 57] })
    (hr : (Builtin.append_ #[57, 57] o.type #[a.eval s, a.eval x]).run Tryz.prog w = .ok v w) (hk : wpList Tryz.prog ops Q rest (a.put o.dst v) w) : wpList Tryz.prog ops Q (o :: rest) a w := by
  refine wpList_plain hgd fun K hK => ?_
  unfold Oper.wp execOp
  simp only [ho, resolve, invoke, builtin, Sem.run_bind, Sem.run_pure, Result.andThen_ok, List.map_toArray, List.map_cons, List.map_nil, hr]
  exact hK _ _ hk
/-- A row of pages is appended to a row of one's own. -/
theorem wp_app39 {ops : Array Oper} {rest : List Oper} {o : Oper} {a : Act} {Q : Exit → Act → World → Prop} {W : World} {base g0 m c : Nat} {p : Option Addr} {L : Nat → List UInt8} (hown : W.ownsRow base 49 256 (.slice (some ⟨g0, 0, none⟩) 0 0) 0 []) (hA : PgR W p m L) (hm : m ≤ 1000) (hbase : base ≤ W.heap.size) (s x : Operand)
    (hgd : o.guard = none) (ho : o.op = .call { callee := .builtin .append, args := #[s, x], argTypes := #[57, 57] }) (hs : a.eval s = .slice (some ⟨g0, 0, none⟩) 0 0) (hx : a.eval x = .slice p m c)
    (hk : ∀ g cap w', w'.ownsRow base 49 256 (.slice (some ⟨g, 0, none⟩) m cap) m (rowsC (fun j => bcs (L j)) m) → (∀ w0 : World, w0.heap.size ≤ base → w0.grownBy W none → w0.grownBy w' none) → wpList Tryz.prog ops Q rest (a.put o.dst (.slice (some ⟨g, 0, none⟩) m cap)) w') :
    wpList Tryz.prog ops Q (o :: rest) a W := by
  obtain ⟨i, z, hi, hz0, hz1, hz2, hz3⟩ := infoE24
  rcases Nat.eq_zero_or_pos m with rfl | hpos
  · refine wp_run39 (v := .slice (some ⟨g0, 0, none⟩) 0 0) hgd s x ho ?_ (hk g0 0 W hown (fun w0 _ h => h))
    rw [hs, hx]
    cases p <;> simp [Builtin.append_, run_underlying Tryz.underlying57, Builtin.lenOf, Builtin.firstCells, sizeOf, typeInfo, hi, storeCells, loadCells, loadCellsFrom]
  · obtain ⟨gp, cur, rfl, hb, hc⟩ := hA hpos
    have hC : ∀ j, j < m → ((fun j => bcs (L j)) j).length = 256 := fun j hj => by show (bcs (L j)).length = 256; rw [length_bcs, (hc j hj).1]
    have hlen := rowsC_length hC
    refine wpList_append_lies _ hgd s x 57 ho base 49 i z 256 256 Tryz.underlying57 hi hz0 hz1 hz2 hz3 (by omega) _ 0 [] hs hown ⟨gp, 0, none⟩ m c (rowsC (fun j => bcs (L j)) m) hx hlen (fun j u hj => ?_) (fun u hu => ?_) hpos (by simp only [maxLen]; omega) (by omega) hbase _ rfl ?_
    · have hjm : j < m * 256 := by have := (List.getElem?_eq_some_iff.1 hj).1; rw [hlen] at this; exact this
      have h1 := rowsC_get hC (j / 256) (j % 256) (by omega) (Nat.mod_lt _ (by omega))
      rw [show j / 256 * 256 + j % 256 = j by omega, hj] at h1
      rw [show (⟨gp, 0, none⟩ : Addr).add j = ⟨gp, j / 256 * 256 + j % 256, none⟩ by unfold Addr.add; split <;> simp_all; omega]
      exact (hc (j / 256) (by omega)).2 (j % 256) u h1.symm
    · obtain ⟨j, hj, rfl⟩ := List.getElem_of_mem hu
      have h1 := rowsC_get hC (j / 256) (j % 256) (by omega) (Nat.mod_lt _ (by omega))
      rw [show j / 256 * 256 + j % 256 = j by omega, List.getElem?_eq_getElem hj] at h1
      exact one_bcs (L (j / 256)) _ (List.mem_of_getElem? h1.symm)
    · intro g cap w' hown' hgr hgg hlt
      rw [Nat.zero_add, List.nil_append] at hown'
      have := hk g cap w' hown' (fun w0 h0 hW => ?_)
      · simpa using this
      · refine ⟨hgr.os.trans hW.os, hgr.tape.trans hW.tape, hgr.output.trans hW.output, Nat.le_trans hW.size hgr.size, fun k hk hn => ?_⟩
        have hkW : k < W.heap.size := Nat.lt_of_lt_of_le hk hW.size
        refine (hgr.block k hkW (fun e => ?_)).trans (hW.block k hk hn)
        have := (hown.lt k e.symm).1
        omega
theorem own_zero (W : World) {base : Nat} (hb : base ≤ W.heap.size) : (W.alloc (.cells #[] 49)).ownsRow base 49 256 (.slice (some ⟨W.heap.size, 0, none⟩) 0 0) 0 [] :=
  ⟨rfl, .inr ⟨W.heap.size, 0, #[], rfl, hb, heap_alloc_new W _, Nat.le_refl _, by simp [maxLen], rfl, rfl⟩⟩
/-- Pages in the block of a row. -/
def PgB (w : World) (g cnt : Nat) (L : Nat → List UInt8) : Prop := ∃ cur : Array Value, Blk w g cur 49 ∧ cnt * 256 ≤ cur.size ∧ ∀ k, k < cnt → (L k).length = 256 ∧ w.rangeAt g (k * 256) (bcs (L k))
theorem own_PgB {w : World} {base g k cap : Nat} {L : Nat → List UInt8} (hL : ∀ j, j < k → (L j).length = 256) (h : w.ownsRow base 49 256 (.slice (some ⟨g, 0, none⟩) k cap) k (rowsC (fun j => bcs (L j)) k)) : base ≤ g ∧ k ≤ cap ∧ PgB w g k L := by
  rcases h.2 with ⟨e, _⟩ | ⟨g', cap', cur, e, hbg, hg, hnc, hcm, hcs, htake⟩
  · cases e
  · cases e
    refine ⟨hbg, hnc, cur, hg, ?_, fun j hj => ⟨hL j hj, fun i v hv => ?_⟩⟩
    · rw [hcs]; exact Nat.mul_le_mul_right 256 hnc
    · have hC : ∀ j, j < k → ((fun j => bcs (L j)) j).length = 256 := fun j hj => by show (bcs (L j)).length = 256; rw [length_bcs, hL j hj]
      have hi : i < 256 := by have := (List.getElem?_eq_some_iff.1 hv).1; rw [length_bcs, hL j hj] at this; exact this
      rw [Blk.cell hg]
      have h1 := rowsC_get hC j i hj hi
      rw [← htake, List.getElem?_take, if_pos (by have : j * 256 + 256 ≤ k * 256 := by omega
                                                  omega)] at h1
      rw [← Array.getElem?_toList, h1]
      exact hv

def slen : Value → Nat
  | .slice _ n _ => n
  | _ => 0
theorem in_rows {k cnt s : Nat} (hk : k < cnt) (hs : cnt * 256 ≤ s) : k * 256 + 256 ≤ s := by
  have := Nat.mul_le_mul_right 256 (Nat.succ_le_of_lt hk)
  rw [Nat.succ_mul] at this
  exact Nat.le_trans this hs
theorem in_row {k j s : Nat} (hj : j < 256) (hs : k * 256 + 256 ≤ s) : k * 256 + j < s := by omega
theorem apart_rows {j k : Nat} (e : ¬ j = k) : j * 256 + 256 ≤ k * 256 ∨ k * 256 + 256 ≤ j * 256 := by omega
theorem step_storePg {ops : Array Oper} {o : Oper} {a : Act} {W : World} {K : Act → World → Prop} {Q : Exit → Act → World → Prop} {E : Prop} {g cnt k : Nat} {L : Nat → List UInt8} {l : List UInt8} (hB : PgB W g cnt L) (hk : k < cnt) (hl : l.length = 256) (x y : Operand)
    (hgd : o.guard = none) (ho : o.op = .store 49 x y) (hx : a.eval x = .pointer (some ⟨g, k * 256, none⟩)) (hy : a.eval y = .agg (bcs l).toArray)
    (h : ∀ W', PgB W' g cnt (fun j => if j = k then l else L j) → Only [g] W W' → K (a.put o.dst undef) W') : if Region.wanted o (yielded ops a.tmps) = true then Oper.wp Tryz.prog o a W K Q else E := by
  have hw : Region.wanted o (yielded ops a.tmps) = true := by simp [Region.wanted, hgd]
  rw [if_pos hw]
  obtain ⟨cur, hb, hsz, hc⟩ := hB
  have hbl : (bcs l).length = 256 := by rw [length_bcs, hl]
  have hin : k * 256 + 256 ≤ cur.size := in_rows hk hsz
  have hth : W.there g (k * 256) 256 := fun j hj => ⟨by rw [hb.cell, Array.getElem?_eq_getElem (in_row hj hin)]; rfl, hb.frozen _⟩
  refine wp_store_mid 49 x y ho g (k * 256) (bcs l).toArray hx hy (by rw [List.size_toArray, hbl]; exact hth) (size24 hl) (bytes_all l) ?_
  rw [List.toList_toArray]
  refine h _ ⟨_, setCells_blk (w := W) (bcs l) (k * 256) W cur hb (by rw [hbl]; exact hin), ?_, fun j hj => ?_⟩ (setCells_only g (bcs l) (k * 256) W)
  · rw [List.size_toArray, length_splice _ _ _ (by rw [hbl]; simpa using hin)]; simpa using hsz
  · show ((if j = k then l else L j) : List UInt8).length = 256 ∧ (W.setCells g (k * 256) (bcs l)).rangeAt g (j * 256) (bcs (if j = k then l else L j))
    by_cases e : j = k
    · rw [if_pos e, e]
      exact ⟨hl, World.rangeAt_setCells_same W g (k * 256) (bcs l) (by rw [hbl]; exact hth)⟩
    · rw [if_neg e]
      refine ⟨(hc j hj).1, World.rangeAt_setCells_apart (hc j hj).2 g (k * 256) (bcs l) (.inr ?_)⟩
      rw [length_bcs, (hc j hj).1, hbl]
      exact apart_rows e
theorem padL_len {nw : Nat} {W : Nat → List UInt8} (h : ∀ j, j < nw → (W j).length = 256) (j : Nat) : (padL nw W j).length = 256 := by
  unfold padL
  split
  · exact h j (by assumption)
  · exact z256_length
theorem pad_rows {nw : Nat} {W : Nat → List UInt8} : rowsC (fun j => bcs (W j)) nw = rowsC (fun j => bcs (padL nw W j)) nw := rowsC_congr (fun j hj => by show bcs (W j) = bcs (padL nw W j); unfold padL; rw [if_pos hj])
theorem pad_next {nw k : Nat} {W : Nat → List UInt8} (h : nw ≤ k) : rowsC (fun j => bcs (padL nw W j)) (k + 1) = rowsC (fun j => bcs (padL nw W j)) k ++ bcs z256 := by
  rw [rowsC]
  congr 1
  show bcs (padL nw W k) = _
  unfold padL
  rw [if_neg (by omega)]

set_option maxHeartbeats 8000000 in
set_option maxRecDepth 20000 in
theorem after_j (w : World) (pw pl : Option Addr) (nw cw n cl count : Nat) (W : Nat → List UInt8) (N : Nat → Nat) (L : Nat → List UInt8) (hW : PgR w pw nw W) (hWl : ∀ j, j < nw → (W j).length = 256) (hp : PgA w pl n (fun k => (N k : Int)) L) (hN : Rise count n N) (hcount : count ≤ 100) (hnw : nw ≤ 100) (hn : n ≤ 100) :
    Calls Tryz.prog 52 #[.slice pw nw cw, .int .i64 (count : Int), .slice pl n cl] w fun e w' => (∃ q c, e = .returned (.slice q count c) ∧ PgR w' q count (aftL nw W N L n)) ∧ w.grownBy w' none := by
  have HW := hideJ hW
  have HWl := hideJ hWl
  have HP := hideJ hp
  have HR := hideJ hN
  have HM := hideJ (And.intro hcount (And.intro hnw hn))
  have HOz := hideJ (own_zero w (base := w.heap.size) (Nat.le_refl _))
  have HGz := hideJ (World.grownBy_alloc w (.cells #[] 49) none)
  have HPw := hideJ (hW.grown (World.grownBy_alloc w (.cells #[] 49) none))
  clear hW hWl hp hN hcount hnw hn
  go_enter Tryz.func52, Tryz.ntmps52
  go_wp2_with (first
    | ((with_reducible refine atApp39 ?_); refine wp_app39 HOz.out HPw.out (by have := HM.out; omega) HGz.out.size _ _ (by rfl) (by rfl) (by rfl) (by rfl) ?_; intro g1 cap1 w1 hown1 hgr1; have HO1 := hideJ hown1; have HG1 := hideJ (hgr1 w (Nat.le_refl _) HGz.out); clear hown1 hgr1))
  go_loopw [7] (fun sv wr => ∃ (g cap k : Nat), nw ≤ k ∧ (k = nw ∨ k ≤ count) ∧ sv = .slice (some ⟨g, 0, none⟩) k cap ∧ wr.ownsRow w.heap.size 49 256 (.slice (some ⟨g, 0, none⟩) k cap) k (rowsC (fun j => bcs (padL nw W j)) k) ∧ w.grownBy wr none) (fun sv _ => count - slen sv)
  case atStart => exact ⟨g1, cap1, nw, Nat.le_refl _, .inl rfl, rfl, by rw [← pad_rows]; exact HO1.out, HG1.out⟩
  case round =>
    obtain ⟨g, cap, k, hk1, hk2, rfl, hown, hg⟩ := hrel
    have HOw := hideJ hown
    have HG := hideJ hg
    have HK := hideJ (And.intro hk1 hk2)
    clear hown hg hk1 hk2
    by_cases hlt : k < count
    · have l1 : (k : Int) < (count : Int) := by omega
      have HKc := hideJ hlt
      have HNx := hideJ (pad_next (W := W) HK.out.1)
      have HX6 : Hid ((bcs z256).toArray.size = 256 ∧ (bcs z256).length = 1 * 256) := ⟨by rw [List.size_toArray, length_bcs, z256_length], by rw [length_bcs, z256_length]⟩
      have HX1 := hideJ (one_bcs z256)
      go_wp2_with (first
        | ((with_reducible refine atBs39 ?_); refine wp_bs1 (X := (bcs z256).toArray) Tryz.underlying57 infoE24 (by omega) (by omega) HX6.out.1 _ (by rfl) (by rfl) (by first | rfl | (show Value.agg Tryz.zeroCells49 = _; rw [zc24])) ?_)
        | ((with_reducible refine atApp39 ?_); refine wp_appE (m := 1) Tryz.underlying57 infoE24 (by omega) (by omega) (bcs z256) HX6.out.2 (by omega) HX1.out HOw.out (by have := HM.out; have := HKc.out; omega) HG.out.size _ _ (by rfl) (by rfl) (by rfl) (by rfl) ?_; intro g6 cap6 w6 hown6 hap6; have HO6 := hideJ hown6; have HG6 := hideJ (hap6.grown w (Nat.le_refl _) HG.out); clear hown6 hap6))
      refine ⟨⟨g6, cap6, k + 1, by have := HK.out.1; omega, .inr HKc.out, rfl, by rw [HNx.out]; exact HO6.out, HG6.out⟩, ?_⟩
      simp only [slen]; have := HKc.out; omega
    · have l1 : ¬ (k : Int) < (count : Int) := by omega
      obtain ⟨hge, hkc, hpb⟩ := own_PgB (fun j _ => padL_len HWl.out j) HOw.out
      have l2 : (count : Int) ≤ (cap : Int) := by omega
      have l3 : (0 : Int) ≤ (count : Int) := by omega
      have HPb0 : Hid (PgB wr g count (padL nw W)) := by
        obtain ⟨cur, h1, h2, h3⟩ := hpb
        exact ⟨cur, h1, by omega, fun j hj => h3 j (by omega)⟩
      have HGe := hideJ hge
      clear hge hkc hpb
      go_wp2
      go_loopw [8] (fun iv wq => ∃ j : Nat, j ≤ n ∧ iv = .int .i64 (j : Int) ∧ PgB wq g count (aftL nw W N L j) ∧ w.grownBy wq none) (fun iv _ => n - (intOf iv).toNat)
      case atStart => exact ⟨0, Nat.zero_le _, rfl, HPb0.out, HG.out⟩
      case round =>
        obtain ⟨j, hj, rfl, hpb, hgq⟩ := hrel
        have HPb1 := hideJ hpb
        have HGq := hideJ hgq
        clear hpb hgq
        by_cases hjn : j < n
        · have m1 : (j : Int) < (n : Int) := by omega
          have m0 : (0 : Int) ≤ (j : Int) := by omega
          have hw1 : IntKind.i64.wrap ((j : Int) + 1) = (j : Int) + 1 := by have := HM.out; rw [IntKind.wrap_i64]; omega
          have HJ := hideJ hjn
          have hNj := HR.out.low j hjn
          obtain ⟨K1, hK1⟩ : ∃ K1, N j = K1 + 1 := ⟨N j - 1, by omega⟩
          have HK1c : Hid (K1 < count) := by show K1 < count; omega
          have HK1 := hideJ hK1
          have k1 : (K1 : Int) < (count : Int) := by omega
          have k0 : (0 : Int) ≤ (K1 : Int) := by omega
          have hwk : IntKind.i64.wrap (K1 : Int) = (K1 : Int) := by have := HM.out; rw [IntKind.wrap_i64]; omega
          obtain ⟨gp, cur, rfl, hbp, hcp⟩ := HP.out (by omega)
          have HLj := hideJ (hcp j hjn).1
          have hrj := (hcp j hjn).2
          have HSa : Hid (w.cell? ⟨gp, j * 257, none⟩ = some (.int .i64 ((K1 : Int) + 1)) ∧ w.rangeAt gp (j * 257 + 1) (bcs (L j))) := by
            refine ⟨?_, fun a v hv => ?_⟩
            · have := hrj 0 (.int .i64 (N j : Int)) rfl
              rw [hK1] at this
              simpa using this
            · have := hrj (a + 1) v (by simpa [pcl] using hv)
              rw [show j * 257 + 1 + a = j * 257 + (a + 1) by omega]
              exact this
          have hgp : gp < w.heap.size := hbp.lt
          have HSg : Hid (∀ V, w.grownBy V none → V.cell? ⟨gp, j * 257, none⟩ = some (.int .i64 ((K1 : Int) + 1)) ∧ V.rangeAt gp (j * 257 + 1) (bcs (L j))) := fun V hV => ⟨grown_cell hV HSa.out.1, fun a v hv => grown_cell hV (HSa.out.2 a v hv)⟩
          have HSz : Hid ((Tryz.prog.info? 49).map (·.size) = some (bcs (L j)).length) := by show _ = _; rw [length_bcs, HLj.out]; exact info24
          have HU := hideJ Tryz.underlying49
          have HS0 := hideJ (HSg.out wr.drew (grown_trans' HGq.out (World.grownBy_drew wr)))
          have HSo : Hid (∀ V, Only [g] wr.drew V → V.cell? ⟨gp, j * 257, none⟩ = some (.int .i64 ((K1 : Int) + 1)) ∧ V.rangeAt gp (j * 257 + 1) (bcs (L j))) := fun V ho => HSg.out V (grown_only (grown_trans' HGq.out (World.grownBy_drew wr)) ho HGe.out)
          have HPb : Hid (PgB wr.drew g count (aftL nw W N L j)) := by
            obtain ⟨cc, h1, h2, h3⟩ := HPb1.out
            exact ⟨cc, h1, h2, fun a ha => h3 a ha⟩
          go_upto_region 8 with fail
          clear hbp hcp hrj hgp hNj hK1
          generalize hC : bcs (L j) = C at HS0 HSo HSz
          have HCe := hideJ hC.symm
          clear hC
          · skip
            refine wp_region_held_drew (S := fun V => V.cell? ⟨gp, j * 257, none⟩ = some (.int .i64 ((K1 : Int) + 1)) ∧ V.rangeAt gp (j * 257 + 1) C) (by kernel_rfl) (HS0.out) (fun hHeld => ?_)
            refine wpAnyH_take (i := 0) (v := .slice (some ⟨g, 0, none⟩) count cap) rfl (by kernel_rfl) (by kernel_rfl) (by kernel_rfl) (fun _ _ _ h => h) (Or.inl ⟨by rfl, fun V hV => by (obtain ⟨hV1, hV2⟩ := hV; go_simp)⟩) hHeld ?_
            try simp only [Act.put, List.getElem_toArray, List.getElem_cons_zero, List.setIfInBounds_toArray, List.set_cons_zero, List.set_cons_succ]
            refine wpAnyH_take (i := 1) (v := .slice (some ⟨gp, 0, none⟩) n cl) rfl (by kernel_rfl) (by kernel_rfl) (by kernel_rfl) (fun _ _ _ h => h) (Or.inl ⟨by rfl, fun V hV => by (obtain ⟨hV1, hV2⟩ := hV; go_simp)⟩) hHeld ?_
            try simp only [Act.put, List.getElem_toArray, List.getElem_cons_succ, List.getElem_cons_zero, List.setIfInBounds_toArray, List.set_cons_zero, List.set_cons_succ]
            refine wpAnyH_take (i := 2) (v := .int .i64 (j : Int)) rfl (by kernel_rfl) (by kernel_rfl) (by kernel_rfl) (fun _ _ _ h => h) (Or.inl ⟨by rfl, fun V hV => by (obtain ⟨hV1, hV2⟩ := hV; go_simp)⟩) hHeld ?_
            try simp only [Act.put, List.getElem_toArray, List.getElem_cons_succ, List.getElem_cons_zero, List.setIfInBounds_toArray, List.set_cons_zero, List.set_cons_succ]
            refine wpAnyH_take (i := 3) (v := .pointer (some ⟨gp, j * 257, none⟩)) rfl (by kernel_rfl) (by kernel_rfl) (by kernel_rfl) (fun _ _ _ h => h) (Or.inl ⟨by rfl, fun V hV => by (obtain ⟨hV1, hV2⟩ := hV; go_simp)⟩) hHeld ?_
            try simp only [Act.put, List.getElem_toArray, List.getElem_cons_succ, List.getElem_cons_zero, List.setIfInBounds_toArray, List.set_cons_zero, List.set_cons_succ]
            refine wpAnyH_take (i := 4) (v := .pointer (some ⟨gp, j * 257, none⟩)) rfl (by kernel_rfl) (by kernel_rfl) (by kernel_rfl) (fun _ _ _ h => h) (Or.inl ⟨by rfl, fun V hV => by (obtain ⟨hV1, hV2⟩ := hV; go_simp)⟩) hHeld ?_
            try simp only [Act.put, List.getElem_toArray, List.getElem_cons_succ, List.getElem_cons_zero, List.setIfInBounds_toArray, List.set_cons_zero, List.set_cons_succ]
            refine wpAnyH_take (i := 5) (v := .int .i64 ((K1 : Int) + 1)) rfl (by kernel_rfl) (by kernel_rfl) (by kernel_rfl) (fun _ _ _ h => h) (Or.inl ⟨by rfl, fun V hV => by (obtain ⟨hV1, hV2⟩ := hV; go_simp)⟩) hHeld ?_
            try simp only [Act.put, List.getElem_toArray, List.getElem_cons_succ, List.getElem_cons_zero, List.setIfInBounds_toArray, List.set_cons_zero, List.set_cons_succ]
            refine wpAnyH_take (i := 6) (v := .int .i64 (K1 : Int)) rfl (by kernel_rfl) (by kernel_rfl) (by kernel_rfl) (fun _ _ _ h => h) (Or.inl ⟨by rfl, fun V hV => by (obtain ⟨hV1, hV2⟩ := hV; go_simp)⟩) hHeld ?_
            try simp only [Act.put, List.getElem_toArray, List.getElem_cons_succ, List.getElem_cons_zero, List.setIfInBounds_toArray, List.set_cons_zero, List.set_cons_succ]
            refine wpAnyH_take (i := 7) (v := .slice (some ⟨gp, 0, none⟩) n cl) rfl (by kernel_rfl) (by kernel_rfl) (by kernel_rfl) (fun _ _ _ h => h) (Or.inl ⟨by rfl, fun V hV => by (obtain ⟨hV1, hV2⟩ := hV; go_simp)⟩) hHeld ?_
            try simp only [Act.put, List.getElem_toArray, List.getElem_cons_succ, List.getElem_cons_zero, List.setIfInBounds_toArray, List.set_cons_zero, List.set_cons_succ]
            refine wpAnyH_take (i := 8) (v := .int .i64 (j : Int)) rfl (by kernel_rfl) (by kernel_rfl) (by kernel_rfl) (fun _ _ _ h => h) (Or.inl ⟨by rfl, fun V hV => by (obtain ⟨hV1, hV2⟩ := hV; go_simp)⟩) hHeld ?_
            try simp only [Act.put, List.getElem_toArray, List.getElem_cons_succ, List.getElem_cons_zero, List.setIfInBounds_toArray, List.set_cons_zero, List.set_cons_succ]
            refine wpAnyH_take (i := 9) (v := .pointer (some ⟨gp, j * 257, none⟩)) rfl (by kernel_rfl) (by kernel_rfl) (by kernel_rfl) (fun _ _ _ h => h) (Or.inl ⟨by rfl, fun V hV => by (obtain ⟨hV1, hV2⟩ := hV; go_simp)⟩) hHeld ?_
            try simp only [Act.put, List.getElem_toArray, List.getElem_cons_succ, List.getElem_cons_zero, List.setIfInBounds_toArray, List.set_cons_zero, List.set_cons_succ]
            refine wpAnyH_take (i := 10) (v := .pointer (some ⟨gp, j * 257 + 1, none⟩)) rfl (by kernel_rfl) (by kernel_rfl) (by kernel_rfl) (fun _ _ _ h => h) (Or.inl ⟨by rfl, fun V hV => by (obtain ⟨hV1, hV2⟩ := hV; go_simp)⟩) hHeld ?_
            try simp only [Act.put, List.getElem_toArray, List.getElem_cons_succ, List.getElem_cons_zero, List.setIfInBounds_toArray, List.set_cons_zero, List.set_cons_succ]
            refine wpAnyH_take (i := 11) (v := .agg C.toArray) rfl (by kernel_rfl) (by kernel_rfl) (by kernel_rfl) (fun _ _ _ h => h) (yieldsIf_load_mid (by rfl) _ _ rfl _ _ rfl _ _ (fun V hV => hV.2) HU.out rfl HSz.out) hHeld ?_
            try simp only [Act.put, List.getElem_toArray, List.getElem_cons_succ, List.getElem_cons_zero, List.setIfInBounds_toArray, List.set_cons_zero, List.set_cons_succ]
            refine wpAnyH_take (i := 12) (v := .pointer (some ⟨g, K1 * 256, none⟩)) rfl (by kernel_rfl) (by kernel_rfl) (by kernel_rfl) (fun _ _ _ h => h) (Or.inl ⟨by rfl, fun V hV => by (obtain ⟨hV1, hV2⟩ := hV; go_simp)⟩) hHeld ?_
            try simp only [Act.put, List.getElem_toArray, List.getElem_cons_succ, List.getElem_cons_zero, List.setIfInBounds_toArray, List.set_cons_zero, List.set_cons_succ]
            refine wpAnyH_ready (rs := [13]) (by kernel_rfl) (by simp) ?_
            refine AllReadyH.cons rfl (fun K hK => ?_) AllReadyH.nil
            refine step_storePg (l := L j) (k := K1) HPb.out HK1c.out HLj.out _ _ (by rfl) (by rfl) (by rfl) (by first | rfl | (rw [HCe.out]; rfl)) ?_
            intro W8 hb8 ho8
            have HB8 := hideJ hb8
            have HG8 := hideJ (grown_only (grown_trans' HGq.out (World.grownBy_drew wr)) ho8 HGe.out)
            have HS8 : Hid (W8.cell? ⟨gp, j * 257, none⟩ = some (.int .i64 ((K1 : Int) + 1)) ∧ W8.rangeAt gp (j * 257 + 1) C) := HSo.out _ ho8
            clear hb8 ho8
            refine hK.out _ _ HS8.out (fun hHeld => ?_)
            clear hK K
            try simp only [Act.put, List.getElem_toArray, List.getElem_cons_succ, List.getElem_cons_zero]
            refine wpAnyH_done (by kernel_rfl) ?_ _
            have HAf : Hid (PgB W8 g count (aftL nw W N L (j + 1))) := by
              obtain ⟨cc, h1, h2, h3⟩ := HB8.out
              refine ⟨cc, h1, h2, fun a ha => ?_⟩
              have e : aftL nw W N L (j + 1) a = if a = K1 then L j else aftL nw W N L j a := by
                show (if a = N j - 1 then L j else aftL nw W N L j a) = _
                rw [HK1.out, Nat.add_sub_cancel]
              rw [e]
              exact h3 a ha
            go_wp2
            refine ⟨⟨j + 1, HJ.out, rfl, HAf.out, HG8.out⟩, ?_⟩
            simp only [intOf]; have := HJ.out; omega
        · obtain rfl : j = n := by omega
          go_wp2
          go_ret
          refine ⟨⟨some ⟨g, 0, none⟩, cap, rfl, fun _ => ?_⟩, HGq.out⟩
          obtain ⟨cc, h1, h2, h3⟩ := HPb1.out
          exact ⟨g, cc, rfl, h1, h3⟩

end Go.Proofs.YteocmhbllckpjaaGreat

namespace Go.Proofs.YteocmhbllckpjaaGreat
open Go.ChangeShapes Go.WideShapes Go.ChangeAt Go.RowKit
open Go.ChangeMaps (setBlock)
set_option linter.unusedVariables false

set_option maxHeartbeats 8000000 in
set_option maxRecDepth 20000 in
theorem pages_w (w : World) (hm : Bool) (cv : Int) (old count nb cb : Nat) (hcv : bits .and .i64 cv 15 = (count : Int)) (hcount : count ≤ 15) (hold : old ≤ 15) (pb : Option Addr) (B : Nat → UInt8) (hB : ByA w pb nb B) :
    Calls Tryz.prog 51 #[.agg #[.bool hm, .int .i64 cv, .slice pb nb cb], .int .i64 (old : Int)] w fun e w' => (∃ q c, e = .returned (.tuple #[.int .i64 (count : Int), .slice q (selL old nb B count).length c]) ∧ PgA w' q (selL old nb B count).length (fun j => (selN old nb B count j : Int)) (selP old nb B count)) ∧ w.grownBy w' none := by
  have hg0 := World.grownBy_alloc w (.cells #[.bool hm, .int .i64 cv, .slice pb nb cb] 64) none
  have hb0 : Blk (w.alloc (.cells #[.bool hm, .int .i64 cv, .slice pb nb cb] 64)) w.heap.size #[.bool hm, .int .i64 cv, .slice pb nb cb] 64 := alloc_new _ _
  have HB := hideJ hB
  have HX := hideJ hb0
  have HG0 := hideJ hg0
  have HC := hideJ hcount
  clear hB hg0 hb0 hcount
  go_enter Tryz.func51, Tryz.ntmps51
  go_wp2
  go_loopw [7, 8] (fun sv iv wr => ∃ i : Nat, i ≤ count ∧ iv = .int .i64 ((i : Int) + 1) ∧ SlO wr (w.alloc (.cells #[.bool hm, .int .i64 cv, .slice pb nb cb] 64)).heap.size sv nb B (selL old nb B i) ∧ (w.alloc (.cells #[.bool hm, .int .i64 cv, .slice pb nb cb] 64)).grownBy wr none) (fun _ iv _ => count + 1 - (intOf iv).toNat)
  case atStart => exact ⟨0, Nat.zero_le _, rfl, ⟨none, 0, rfl, World.ownsRow_nil _ _ _ _⟩, grown_refl _⟩
  case round =>
    obtain ⟨i, hi, rfl, ⟨q, c', rfl, hown⟩, hg⟩ := hrel
    have HG := hideJ hg
    have HOw := hideJ hown
    have hbx := Blk.grown HX.out hg
    have cx0 := (hbx.cell 1).trans (show _ = some (Value.int .i64 cv) from rfl)
    have cx1 := (hbx.cell 2).trans (show _ = some (Value.slice pb nb cb) from rfl)
    clear hg hown hbx
    by_cases hlt : i < count
    · have l1 : (i : Int) + 1 ≤ (count : Int) := by omega
      have hw1 : IntKind.i64.wrap ((i : Int) + 1 + 1) = (i : Int) + 1 + 1 := by have := HC.out; rw [IntKind.wrap_i64]; omega
      have hwi : IntKind.i64.wrap (i : Int) = (i : Int) := by have := HC.out; rw [IntKind.wrap_i64]; omega
      have l0 : (0 : Int) ≤ (i : Int) := by omega
      have HKc := hideJ hlt
      by_cases hnb : i + 1 ≤ nb
      · have l2 : (i : Int) + 1 ≤ (nb : Int) := by omega
        have l3 : (i : Int) < (nb : Int) := by omega
        obtain ⟨bb, oo, rfl, hcells⟩ := (HB.out.grown (grown_trans' HG0.out HG.out)) (by omega)
        have cB := hcells i (by omega)
        clear hcells
        by_cases hz : B i = 0
        · have z1 : ((B i).toNat : Int) = 0 := by rw [hz]; rfl
          rw [z1] at cB
          by_cases ho : old < i + 1
          · have l4 : (old : Int) < (i : Int) + 1 := by omega
            have HS := hideJ (selL_yes (old := old) (nb := nb) (B := B) (i := i) (.inr ho))
            have HBy : Hid (byt nb B (i + 1) = 255) := if_neg (fun h => h.2 hz)
            obtain ⟨BY, hBY⟩ : ∃ BY : UInt8, BY = 255 := ⟨_, rfl⟩
            have HFl : Hid (∀ V, Calls Tryz.prog 28 #[.int .u8 255] V fun e w' => e = .returned (.agg (bcs (fullL BY)).toArray) ∧ V.grownBy w' none) := fun V => by rw [hBY]; exact full_j V 255
            have HPs : Hid ((pcl ((i : Int) + 1) (fullL BY)).toArray.size = 257) := by show _ = _; rw [List.size_toArray, pcl_length _ (fullL_length _)]
            have HPn : Hid ((pcl ((i : Int) + 1) (fullL BY)).length = 1 * 257) := by show _ = _; rw [pcl_length _ (fullL_length _)]
            have HP1 := hideJ (pcl_one ((i : Int) + 1) (fullL BY))
            rw [← hBY] at HBy
            have HSl := hideJ (selL_len old nb B i)
            clear hBY
            generalize selL old nb B i = SL at HOw HS HSl
            generalize hsn : SL.length = sn at HOw HSl
            have HSn := hideJ hsn.symm
            clear hsn
            go_wp2_with (first
              | (go_at_call 28; (with_reducible refine Calls.mono (HFl.out _) ?_); rintro e w1 ⟨rfl, hg⟩; have HG1 := hideJ (grown_trans' HG.out hg); have HO1 := hideJ (own_grown HOw.out hg); clear hg)
              | ((with_reducible refine atB67 ?_); refine wp_b67g (p := fullL BY) (n := (i : Int) + 1) (fullL_length _) _ _ (by rfl) (by rfl) (by rfl) (by rfl) ?_)
              | ((with_reducible refine atBs22 ?_); refine wp_bs1 (X := (pcl ((i : Int) + 1) (fullL BY)).toArray) Tryz.underlying31 infoE67 (by omega) (by omega) HPs.out _ (by rfl) (by rfl) (by rfl) ?_)
              | ((with_reducible refine atApp22 ?_); refine wp_appE (m := 1) Tryz.underlying31 infoE67 (by omega) (by omega) (pcl ((i : Int) + 1) (fullL BY)) HPn.out (by omega) HP1.out HO1.out (by have := HSl.out; have := HKc.out; have := HC.out; omega) HG1.out.size _ _ (by rfl) (by rfl) (by rfl) (by rfl) ?_; intro g6 cap6 w6 hown6 hap6; have HO6 := hideJ hown6; have HG6 := hideJ (hap6.grown (w.alloc (.cells #[.bool hm, .int .i64 cv, .slice _ nb cb] 64)) (Nat.le_refl _) HG1.out); clear hown6 hap6))
            refine ⟨⟨i + 1, HKc.out, by simp, ?_, HG6.out⟩, ?_⟩
            · rw [HS.out]
              refine SlO.step HSn.out ?_
              rw [HBy.out]
              exact HO6.out
            · simp only [intOf]; have := HKc.out; omega
          · have l4 : ¬ (old : Int) < (i : Int) + 1 := by omega
            have HS := hideJ (selL_no (old := old) (nb := nb) (B := B) (i := i) (fun h => by rcases h with h | h; exact h.2 hz; exact ho h))
            skip
            generalize selL old nb B i = SL at HOw HS
            generalize hsn : SL.length = sn at HOw
            have HSn := hideJ hsn.symm
            clear hsn
            go_wp2
            refine ⟨⟨i + 1, HKc.out, by simp, ?_, HG.out⟩, ?_⟩
            · rw [HS.out]
              exact ⟨q, c', by rw [← HSn.out], by rw [← HSn.out]; exact HOw.out⟩
            · simp only [intOf]; have := HKc.out; omega
        · have z1 : ¬ ((B i).toNat : Int) = 0 := fun e => hz (UInt8.toNat_inj.1 (by simpa using Int.ofNat_inj.1 e))
          have z2 : (((B i).toNat : Int) == 0) = false := by simpa using z1
          have HS := hideJ (selL_yes (old := old) (nb := nb) (B := B) (i := i) (.inl ⟨hnb, hz⟩))
          have HBy : Hid (byt nb B (i + 1) = (B i)) := if_pos ⟨hnb, hz⟩
          obtain ⟨BY, hBY⟩ : ∃ BY : UInt8, BY = (B i) := ⟨_, rfl⟩
          have HFl : Hid (∀ V, Calls Tryz.prog 28 #[.int .u8 ((B i).toNat : Int)] V fun e w' => e = .returned (.agg (bcs (fullL BY)).toArray) ∧ V.grownBy w' none) := fun V => by rw [hBY]; exact full_j V (B i)
          have HPs : Hid ((pcl ((i : Int) + 1) (fullL BY)).toArray.size = 257) := by show _ = _; rw [List.size_toArray, pcl_length _ (fullL_length _)]
          have HPn : Hid ((pcl ((i : Int) + 1) (fullL BY)).length = 1 * 257) := by show _ = _; rw [pcl_length _ (fullL_length _)]
          have HP1 := hideJ (pcl_one ((i : Int) + 1) (fullL BY))
          rw [← hBY] at HBy
          have HSl := hideJ (selL_len old nb B i)
          clear hBY
          generalize selL old nb B i = SL at HOw HS HSl
          generalize hsn : SL.length = sn at HOw HSl
          have HSn := hideJ hsn.symm
          clear hsn
          go_wp2_with (first
            | (go_at_call 28; (with_reducible refine Calls.mono (HFl.out _) ?_); rintro e w1 ⟨rfl, hg⟩; have HG1 := hideJ (grown_trans' HG.out hg); have HO1 := hideJ (own_grown HOw.out hg); clear hg)
            | ((with_reducible refine atB67 ?_); refine wp_b67g (p := fullL BY) (n := (i : Int) + 1) (fullL_length _) _ _ (by rfl) (by rfl) (by rfl) (by rfl) ?_)
            | ((with_reducible refine atBs22 ?_); refine wp_bs1 (X := (pcl ((i : Int) + 1) (fullL BY)).toArray) Tryz.underlying31 infoE67 (by omega) (by omega) HPs.out _ (by rfl) (by rfl) (by rfl) ?_)
            | ((with_reducible refine atApp22 ?_); refine wp_appE (m := 1) Tryz.underlying31 infoE67 (by omega) (by omega) (pcl ((i : Int) + 1) (fullL BY)) HPn.out (by omega) HP1.out HO1.out (by have := HSl.out; have := HKc.out; have := HC.out; omega) HG1.out.size _ _ (by rfl) (by rfl) (by rfl) (by rfl) ?_; intro g6 cap6 w6 hown6 hap6; have HO6 := hideJ hown6; have HG6 := hideJ (hap6.grown (w.alloc (.cells #[.bool hm, .int .i64 cv, .slice _ nb cb] 64)) (Nat.le_refl _) HG1.out); clear hown6 hap6))
          refine ⟨⟨i + 1, HKc.out, by simp, ?_, HG6.out⟩, ?_⟩
          · rw [HS.out]
            refine SlO.step HSn.out ?_
            rw [HBy.out]
            exact HO6.out
          · simp only [intOf]; have := HKc.out; omega
      · have l2 : ¬ (i : Int) + 1 ≤ (nb : Int) := by omega
        by_cases ho : old < i + 1
        · have l4 : (old : Int) < (i : Int) + 1 := by omega
          have HS := hideJ (selL_yes (old := old) (nb := nb) (B := B) (i := i) (.inr ho))
          have HBy : Hid (byt nb B (i + 1) = 255) := if_neg (fun h => hnb h.1)
          obtain ⟨BY, hBY⟩ : ∃ BY : UInt8, BY = 255 := ⟨_, rfl⟩
          have HFl : Hid (∀ V, Calls Tryz.prog 28 #[.int .u8 255] V fun e w' => e = .returned (.agg (bcs (fullL BY)).toArray) ∧ V.grownBy w' none) := fun V => by rw [hBY]; exact full_j V 255
          have HPs : Hid ((pcl ((i : Int) + 1) (fullL BY)).toArray.size = 257) := by show _ = _; rw [List.size_toArray, pcl_length _ (fullL_length _)]
          have HPn : Hid ((pcl ((i : Int) + 1) (fullL BY)).length = 1 * 257) := by show _ = _; rw [pcl_length _ (fullL_length _)]
          have HP1 := hideJ (pcl_one ((i : Int) + 1) (fullL BY))
          rw [← hBY] at HBy
          have HSl := hideJ (selL_len old nb B i)
          clear hBY
          generalize selL old nb B i = SL at HOw HS HSl
          generalize hsn : SL.length = sn at HOw HSl
          have HSn := hideJ hsn.symm
          clear hsn
          go_wp2_with (first
            | (go_at_call 28; (with_reducible refine Calls.mono (HFl.out _) ?_); rintro e w1 ⟨rfl, hg⟩; have HG1 := hideJ (grown_trans' HG.out hg); have HO1 := hideJ (own_grown HOw.out hg); clear hg)
            | ((with_reducible refine atB67 ?_); refine wp_b67g (p := fullL BY) (n := (i : Int) + 1) (fullL_length _) _ _ (by rfl) (by rfl) (by rfl) (by rfl) ?_)
            | ((with_reducible refine atBs22 ?_); refine wp_bs1 (X := (pcl ((i : Int) + 1) (fullL BY)).toArray) Tryz.underlying31 infoE67 (by omega) (by omega) HPs.out _ (by rfl) (by rfl) (by rfl) ?_)
            | ((with_reducible refine atApp22 ?_); refine wp_appE (m := 1) Tryz.underlying31 infoE67 (by omega) (by omega) (pcl ((i : Int) + 1) (fullL BY)) HPn.out (by omega) HP1.out HO1.out (by have := HSl.out; have := HKc.out; have := HC.out; omega) HG1.out.size _ _ (by rfl) (by rfl) (by rfl) (by rfl) ?_; intro g6 cap6 w6 hown6 hap6; have HO6 := hideJ hown6; have HG6 := hideJ (hap6.grown (w.alloc (.cells #[.bool hm, .int .i64 cv, .slice _ nb cb] 64)) (Nat.le_refl _) HG1.out); clear hown6 hap6))
          refine ⟨⟨i + 1, HKc.out, by simp, ?_, HG6.out⟩, ?_⟩
          · rw [HS.out]
            refine SlO.step HSn.out ?_
            rw [HBy.out]
            exact HO6.out
          · simp only [intOf]; have := HKc.out; omega
        · have l4 : ¬ (old : Int) < (i : Int) + 1 := by omega
          have HS := hideJ (selL_no (old := old) (nb := nb) (B := B) (i := i) (fun h => by rcases h with h | h; exact hnb h.1; exact ho h))
          skip
          generalize selL old nb B i = SL at HOw HS
          generalize hsn : SL.length = sn at HOw
          have HSn := hideJ hsn.symm
          clear hsn
          go_wp2
          refine ⟨⟨i + 1, HKc.out, by simp, ?_, HG.out⟩, ?_⟩
          · rw [HS.out]
            exact ⟨q, c', by rw [← HSn.out], by rw [← HSn.out]; exact HOw.out⟩
          · simp only [intOf]; have := HKc.out; omega
    · obtain rfl : i = count := by omega
      have l1 : ¬ (i : Int) + 1 ≤ (i : Int) := by omega
      have HF : Hid (PgA wr q (selL old nb B i).length (fun j => (selN old nb B i j : Int)) (selP old nb B i)) := by
        obtain ⟨q5, c5, e5, hA⟩ := SlO.form ⟨q, c', rfl, HOw.out⟩
        cases e5
        exact hA
      have HG2 := hideJ (grown_trans' HG0.out HG.out)
      generalize hsn : (selL old nb B i).length = sn at HOw HF ⊢
      have HSn := hideJ hsn
      clear hsn
      go_wp2
      go_ret2
      exact ⟨⟨q, ⟨c', by rw [HSn.out]; rfl⟩, by rw [HSn.out]; exact HF.out⟩, HG2.out⟩

end Go.Proofs.YteocmhbllckpjaaGreat

namespace Go.Proofs.YteocmhbllckpjaaGreat
open Go.ChangeShapes Go.WideShapes Go.ChangeAt Go.RowKit Go.Shelf
set_option linter.unusedVariables false
attribute [local go_sem] Oper.semAt_some

/-- The marks that the frames gone over make. -/
def mks (E : Nat → Nat) (pre : List Nat) : List Int := (0 : Int) :: (pre.filter (fun x => decide (E x ≠ 0))).map (fun x : Nat => (x : Int) + 1)
theorem mks_hit {E : Nat → Nat} (pre : List Nat) {x : Nat} (h : E x ≠ 0) : mks E (pre ++ [x]) = mks E pre ++ [(x : Int) + 1] := by unfold mks; simp [List.filter_append, h]
theorem mks_miss {E : Nat → Nat} (pre : List Nat) {x : Nat} (h : E x = 0) : mks E (pre ++ [x]) = mks E pre := by unfold mks; simp [List.filter_append, h]
theorem mks_len (E : Nat → Nat) (pre : List Nat) : (mks E pre).length ≤ pre.length + 1 := by
  unfold mks
  rw [List.length_cons, List.length_map]
  have := List.length_filter_le (fun x => decide (E x ≠ 0)) pre
  omega
theorem mks_pos (E : Nat → Nat) (pre : List Nat) : ∃ n, (mks E pre).length = n + 1 := ⟨_, rfl⟩
def MkI (w : World) (E : Nat → Nat) (sz : Nat) (pre : List Nat) (W : World) : Prop := (∃ v, Boxed W (w.heap.size + 1 + 1) 32 v ∧ W.ownsRow w.heap.size 3 1 v (mks E pre).length ((mks E pre).map (Value.int .i64)) ∧ (v.ownBlock ≠ some (w.heap.size + 1 + 1 + 1 + 1) ∧ v.ownBlock ≠ some (w.heap.size + 1 + 1 + 1))) ∧ Below w.heap.size w W ∧ sz ≤ W.heap.size
theorem mkI_own (w : World) (E : Nat → Nat) (sz B : Nat) (h : w.heap.size ≤ B) : OwnFrom B (MkI w E sz) :=
  OwnFrom.and (Own.from (holdsRow_own w.heap.size (w.heap.size + 1 + 1) 32 3 1 (fun pre => (mks E pre).length) (fun pre => (mks E pre).map (Value.int .i64)) (fun _ v => v.ownBlock ≠ some (w.heap.size + 1 + 1 + 1 + 1) ∧ v.ownBlock ≠ some (w.heap.size + 1 + 1 + 1))) _) (OwnFrom.and (ownFrom_below (Nat.le_refl _) h) (fun s X Y row hs hg _ => Nat.le_trans hs hg.size))
def mkT (w : World) (b : Nat) (T : ByteArray) (K : Nat) (bl bm : Nat) (x g : Nat) (C : Array Value) : Act := { tmps := #[.agg #[.pointer (some ⟨b, 0, none⟩), .string T, .int .i64 (K : Int)], .pointer (some ⟨w.heap.size, 0, none⟩), .slice none 0 0, .pointer (some ⟨w.heap.size + 1 + 1, 0, none⟩), .int .i64 ((x : Int) + 1), .pointer (some ⟨g, 0, none⟩), .slice (some ⟨w.heap.size + 1, 0, none⟩) 1 1, .agg #[.pointer (some ⟨b, 0, none⟩), .string T, .int .i64 (K : Int)], .pointer (some ⟨w.heap.size, 2, none⟩), .int .i64 (K : Int), .func (.func 119) #[] #[.pointer (some ⟨bm, 0, none⟩), .pointer (some ⟨bl, 0, none⟩)], .int .i64 ((x : Int) + 1), .agg C, undef, undef, undef, undef, undef, undef, undef], defers := [] }

set_option maxRecDepth 100000 in
set_option maxHeartbeats 4000000 in
theorem marksW_w (w : World) (b : Nat) (t : List UInt8) (K : Nat) (hK : K ≤ 180) (N E : Nat → Nat) (P : Nat → List UInt8) (h : Frs t K N E P) (ha : Fra N E P) :
    Calls Tryz.prog 43 #[lgV b t K] w fun x w' => (∃ v, x = .returned v ∧ w'.ownsRow w.heap.size 3 1 v (mks E (List.range K)).length ((mks E (List.range K)).map (Value.int .i64))) ∧ Below w.heap.size w w' := by
  have HFm := hideJ (fun V => frames_w V b t K K)
  have HFr := hideJ h
  have HFa := hideJ ha
  obtain ⟨i0, hi, hz0, hz1, hz2⟩ := info_parts (P := Tryz.prog) (e := 3) (z := .int .i64 0) (size := 1) (bytes := 8) (by kernel_rfl)
  have hnil : ∀ (V : World) (b c : Nat), (binOp BinOp.eql 163 (.func (.func 119) #[] #[.pointer (some ⟨b, 0, none⟩), .pointer (some ⟨c, 0, none⟩)]) Value.nilFunc).run Tryz.prog V = .ok (.bool false) V := fun V b c => by kernel_rfl
  clear h ha
  rw [show lgV b t K = .agg #[.pointer (some ⟨b, 0, none⟩), .string (bstr t), .int .i64 (K : Int)] from rfl]
  refine (callsIn_wide (n := 9)).1 ?_
  refine callsIn_of_wp_marks Tryz.func43 rfl trivial ?_ rfl
  simp only [Tryz.ntmps43, List.size_toArray, List.length_cons, List.length_nil, Nat.reduceAdd, Nat.reduceSub, Array.replicate_succ, Array.replicate_zero, List.push_toArray, List.append_toArray, List.nil_append, List.cons_append]
  gi_wp2_with (refine ⟨trivial, ?_⟩; gi_at_call 83; refine CallsIn.mono (callsIn_wide.2 (HFm.out _)) ?_; rintro e w2 ⟨rfl, rfl⟩)
  have hs1 : (w.alloc (.cells #[.pointer (some ⟨b, 0, none⟩), .string (bstr t), .int .i64 (K : Int)] 93)).heap.size = w.heap.size + 1 := by simp
  obtain ⟨W1, hW1⟩ : ∃ W1, W1 = (w.alloc (.cells #[.pointer (some ⟨b, 0, none⟩), .string (bstr t), .int .i64 (K : Int)] 93)).alloc (.cells #[.int .i64 0] 3) := ⟨_, rfl⟩
  have hz1s : W1.heap.size = w.heap.size + 1 + 1 := by rw [hW1]; simp
  have hr1 : W1.ownsRow w.heap.size 3 1 (.slice (some ⟨w.heap.size + 1, 0, none⟩) 1 1) 1 [.int .i64 0] := by
    rw [hW1]
    refine ⟨by simp, .inr ⟨w.heap.size + 1, 1, #[.int .i64 0], rfl, by simp, ?_, Nat.le_refl _, by simp only [maxLen]; omega, by simp, by simp⟩⟩
    have := heap_alloc_new (w.alloc (.cells #[.pointer (some ⟨b, 0, none⟩), .string (bstr t), .int .i64 (K : Int)] 93)) (.cells #[.int .i64 0] 3)
    rwa [hs1] at this
  have hg1 : w.grownBy W1 none := by rw [hW1]; exact grown_trans' (World.grownBy_alloc _ _ _) (World.grownBy_alloc _ _ _)
  rw [← hW1]
  have bV := alloc_new W1 (.cells #[.slice (some ⟨w.heap.size + 1, 0, none⟩) 1 1] 32)
  have bC := alloc_new (W1.alloc (.cells #[.slice (some ⟨w.heap.size + 1, 0, none⟩) 1 1] 32)) (.cells #[.pointer (some ⟨b, 0, none⟩), .string (bstr t), .int .i64 (K : Int)] 93)
  have bD := alloc_new ((W1.alloc (.cells #[.slice (some ⟨w.heap.size + 1, 0, none⟩) 1 1] 32)).alloc (.cells #[.pointer (some ⟨b, 0, none⟩), .string (bstr t), .int .i64 (K : Int)] 93)) (.cells #[.int .i64 (K : Int)] 3)
  simp only [World.size_alloc, hz1s] at bV bC bD
  have bC2 := (Below.heap_alloc _ (.cells #[.int .i64 (K : Int)] 3) _ (by simp; omega)).trans bC
  have bV2 := (Below.heap_alloc _ (.cells #[.int .i64 (K : Int)] 3) _ (by simp; omega)).trans ((Below.heap_alloc _ (.cells #[.pointer (some ⟨b, 0, none⟩), .string (bstr t), .int .i64 (K : Int)] 93) _ (by simp; omega)).trans bV)
  have hg0 : W1.grownBy (((W1.alloc (.cells #[.slice (some ⟨w.heap.size + 1, 0, none⟩) 1 1] 32)).alloc (.cells #[.pointer (some ⟨b, 0, none⟩), .string (bstr t), .int .i64 (K : Int)] 93)).alloc (.cells #[.int .i64 (K : Int)] 3)) none := grown_trans' (grown_trans' (World.grownBy_alloc _ _ _) (World.grownBy_alloc _ _ _)) (World.grownBy_alloc _ _ _)
  have hB0 := gbelow (grown_trans' hg1 hg0) (Nat.le_refl _)
  have hr0 := own_grown hr1 hg0
  have hs0 : (((W1.alloc (.cells #[.slice (some ⟨w.heap.size + 1, 0, none⟩) 1 1] 32)).alloc (.cells #[.pointer (some ⟨b, 0, none⟩), .string (bstr t), .int .i64 (K : Int)] 93)).alloc (.cells #[.int .i64 (K : Int)] 3)).heap.size = w.heap.size + 5 := by simp [hz1s]
  generalize (((W1.alloc (.cells #[.slice (some ⟨w.heap.size + 1, 0, none⟩) 1 1] 32)).alloc (.cells #[.pointer (some ⟨b, 0, none⟩), .string (bstr t), .int .i64 (K : Int)] 93)).alloc (.cells #[.int .i64 (K : Int)] 3)) = W0 at hB0 bC2 bD bV2 hs0 hr0 ⊢
  have h0 : MkI w E W0.heap.size [] W0 := ⟨⟨_, bV2, hr0, by simp [Value.ownBlock]⟩, hB0, Nat.le_refl _⟩
  clear bC bV hg0 hr1 hr0 hW1 hz1s hg1 hs1
  refine wpIn_rangeFunc_ownH rfl (by omega) (gf := 119) (lb := #[.pointer (some ⟨w.heap.size + 1 + 1 + 1 + 1, 0, none⟩), .pointer (some ⟨w.heap.size + 1 + 1 + 1, 0, none⟩)]) rfl trivial (enters_of Tryz.func119 (by kernel_rfl) rfl)
    (frames_stops b t K (by omega) N E P HFr.out K (Nat.le_refl _) _ (w.heap.size + 1 + 1 + 1 + 1) (w.heap.size + 1 + 1 + 1) (fun A B => (B.heap[w.heap.size + 1 + 1 + 1 + 1]? = A.heap[w.heap.size + 1 + 1 + 1 + 1]? ∧ B.heap[w.heap.size + 1 + 1 + 1]? = A.heap[w.heap.size + 1 + 1 + 1]?)) (fun A B h => h) W0 (by omega) (by omega) bD bC2)
    (fun h h' => ⟨h'.1.trans h.1, h'.2.trans h.2⟩)
    (fun W l o o' hl ho _ _ => ⟨(grownBy_putObj' W l o').block _ (by have := (Array.getElem?_eq_some_iff.1 ho).1; omega) (fun e => by simp at e; omega), (grownBy_putObj' W l o').block _ (by have := (Array.getElem?_eq_some_iff.1 ho).1; omega) (fun e => by simp at e; omega)⟩) (Below.refl _ _) (fun _ => rfl)
    (MkI w E W0.heap.size) (fun _ _ _ => False) (mkI_own w E _ _ (by omega)) (fun _ _ _ _ _ hs _ _ => hs) h0
    (fun x a' W => ∃ g, W0.heap.size ≤ g ∧ a' = mkT w b (bstr t) K (w.heap.size + 1 + 1 + 1) (w.heap.size + 1 + 1 + 1 + 1) x g (fcl (N x : Int) (P x) (E x) true).toArray ∧ Blk W g (fcl (N x : Int) (P x) (E x) true).toArray 167)
    (fun x a' s X Y row hs hg hr => by
      obtain ⟨g, h1, h2, h3⟩ := hs
      exact ⟨g, h1, h2, blk_keep h3 hg (fun r e => (hr r e).2)⟩) ?assign ?body ?done ?stop
  case assign =>
    intro lp pre x W Kk hI hKk
    have hp := HFa.out.pg x
    obtain ⟨Z, hZs, hZ⟩ := new167 W
    have HZ := hideJ hZ
    have HI := hideJ (size167 (n := (N x : Int)) (p := P x) (e := E x) (pl := true) hp)
    have HA := hideJ (fcl_all (N x : Int) (P x) (E x) true)
    have HS : Hid ((fcl (N x : Int) (P x) (E x) true).toArray.size = Z.size) := by show _ = _; rw [List.size_toArray, fcl_length _ _ _ hp, hZs]
    have HKk := hideJ hKk
    have HIw := hideJ hI
    clear hZ hZs hp hKk hI
    simp only [encF]
    generalize hC : (fcl (N x : Int) (P x) (E x) true).toArray = C at HI HA HS HKk ⊢
    gi_wp2_with (refine wpIn_storeB (c := C) HI.out HS.out HA.out HZ.out _ _ (by rfl) (by rfl) (by rfl) (by rfl) ?_; intro W5 hb5 ho5 hk5)
    have hgr : W.grownBy W5 none := grown_only (World.grownBy_alloc _ _ _) ho5 (Nat.le_refl _)
    obtain ⟨⟨v, i1, i2, i0⟩, i3, i4⟩ := HIw.out
    have hke : ∀ k, k < W.heap.size → W5.heap[k]? = W.heap[k]? := fun k hk => hgr.block k hk (by simp)
    exact HKk.out _ _ (((KeepsOthers.alloc W _).trans hk5).from _) ⟨hke _ (by omega), hke _ (by omega)⟩ ⟨⟨v, (hke _ (by omega)).trans i1, own_grown i2 hgr, i0⟩, i3.trans (gbelow hgr (by omega)), Nat.le_trans i4 hgr.size⟩ ⟨W.heap.size, by omega, rfl, hb5⟩
  case body =>
    rintro lp pre x a' W hl hr ⟨⟨v, hv, hrow, hnb⟩, hB, hsz⟩ ⟨g, hg0, rfl, hg⟩ hlt
    have hp := HFa.out.pg x
    have HEn := hideJ (fun V => ends_w V (N x : Int) (P x) (E x) true hp)
    have HI := hideJ (size167 (n := (N x : Int)) (p := P x) (e := E x) (pl := true) hp)
    have HG := hideJ hg
    have HV := hideJ hv
    have HNb := hideJ hnb
    clear hnb
    have HR := hideJ hrow
    have HB := hideJ hB
    have HSz := hideJ hsz
    have HLn := hideJ (mks_len E pre)
    have HLt : Hid (pre.length < K) := hlt
    clear hp hg hv hrow hB hsz hlt
    simp only [mkT]
    generalize hC : (fcl (N x : Int) (P x) (E x) true).toArray = C at HI HG HEn ⊢
    clear hC
    by_cases he : E x = 0
    · have HM := hideJ (mks_miss pre he)
      have HE : Hid (decide (E x ≠ 0) = false) := by show _ = _; simp [he]
      rw [HE.out] at HEn
      clear he
      gi_wp2_with (first
        | (refine wpIn_loadB (c := C) HI.out u167 HG.out _ (by rfl) (by rfl) (by rfl) ?_)
        | (first | refine ⟨trivial, ?_⟩ | refine ⟨trivial, (fun h => absurd h (by decide)), ?_⟩); gi_at_call 84; refine CallsIn.mono (CallsIn.inRound _ (callsIn_wide.2 (HEn.out _))) ?_; rintro e w4 ⟨rfl, hg4⟩; have HR4 := hideJ hg4; clear hg4)
      have hke : ∀ k, k < W.heap.size → w4.heap[k]? = W.heap[k]? := fun k hk => HR4.out.block k hk (by simp)
      have hsW := HSz.out
      refine ⟨(KeepsOthers.of_grownBy HR4.out (fun j o e => by cases e)).from _, ⟨hke _ (by omega), hke _ (by omega)⟩, ⟨⟨_, (hke _ (by omega)).trans HV.out, ?_, HNb.out⟩, HB.out.trans (gbelow HR4.out (by omega)), Nat.le_trans HSz.out HR4.out.size⟩⟩
      rw [HM.out]; exact own_grown HR.out HR4.out
    · have HM := hideJ (mks_hit pre he)
      have HE : Hid (decide (E x ≠ 0) = true) := by show _ = _; simp [he]
      rw [HE.out] at HEn
      clear he
      gi_wp2_with (first
        | (refine wpIn_loadB (c := C) HI.out u167 HG.out _ (by rfl) (by rfl) (by rfl) ?_)
        | (first | refine ⟨trivial, ?_⟩ | refine ⟨trivial, (fun h => absurd h (by decide)), ?_⟩); gi_at_call 84; refine CallsIn.mono (CallsIn.inRound _ (callsIn_wide.2 (HEn.out _))) ?_; rintro e w4 ⟨rfl, hg4⟩; have HR4 := hideJ hg4; have HV4 := hideJ (show Boxed w4 (w.heap.size + 1 + 1) 32 _ from (hg4.block _ (by have := HSz.out; omega) (by simp)).trans HV.out); have HO4 := hideJ (own_grown HR.out hg4); have hc4 := HV4.out.cell; clear hg4
        | (gi_at_builtin; refine wpListIn_append_own_at _ rfl _ _ 32 rfl w.heap.size 3 i0 (.int .i64 0) 1 8 Tryz.underlying32 hi hz0 hz1 hz2 rfl (by decide) _ _ _ rfl (HO4.out.alloc _) ⟨w4.heap.size, 0, none⟩ 1 1 [.int .i64 ((x : Int) + 1)] rfl rfl (cell_one_new _ _ _) (by simp [Value.oneCell']) (by have := HLn.out; have := HLt.out; unfold maxLen; omega) (by have := HLn.out; have := HLt.out; omega) (by have := HB.out.size; have := HR4.out.size; simp; omega) ?_; intro v' w1 hown' hgrow _ hob; have HOb := hideJ hob; have HGw := hideJ hgrow; clear hob; obtain ⟨g', cap', rfl⟩ := ownsRow_succ hown'; obtain ⟨hv1, hv2, hr2, hk2, hb2⟩ := HV4.out.appended (by decide) HO4.out (by have := HB.out.size; have := HR4.out.size; omega) (by omega) hown' hgrow; have hc1 := hv1.cell; have hf1 := hv1.frozen))
      have hsW := HSz.out
      have h4 := HR4.out.size
      have hke : ∀ k, k < W.heap.size → k ≠ w.heap.size + 1 + 1 → v.ownBlock ≠ some k → (w1.setCell ⟨w.heap.size + 1 + 1, 0, none⟩ (.slice (some ⟨g', 0, none⟩) ((mks E pre).length + 1) cap')).heap[k]? = W.heap[k]? := fun k hk hn ho =>
        (Below.heap_setCell w1 ⟨w.heap.size + 1 + 1, 0, none⟩ _ k hn).trans ((HGw.out.block k (by simp; omega) (fun e => ho e.symm)).trans ((Below.heap_alloc _ _ _ (by omega)).trans (HR4.out.block k hk (by simp))))
      have hzz : w4.heap.size ≤ (w1.setCell ⟨w.heap.size + 1 + 1, 0, none⟩ (.slice (some ⟨g', 0, none⟩) ((mks E pre).length + 1) cap')).heap.size := hb2.size
      refine ⟨((KeepsOthers.of_grownBy HR4.out (fun j o e => by cases e)).trans hk2).from _, ⟨hke _ (by omega) (by omega) HNb.out.1, hke _ (by omega) (by omega) HNb.out.2⟩, ⟨⟨_, hv2, ?_, ?_⟩, HB.out.trans ((gbelow HR4.out (by omega)).trans hb2), by omega⟩⟩
      · rw [HM.out]; simpa using hr2
      · rcases HOb.out with e | e
        · rw [e]; exact HNb.out
        · rw [e, World.size_alloc]
          exact ⟨fun e2 => by simp at e2; omega, fun e2 => by simp at e2; omega⟩
  case done =>
    rintro D2 ys W hD rfl ⟨⟨v, hv, hrow, _⟩, hB, hsz⟩ hK0
    have hc := hv.cell
    gi_wp2
    refine ⟨by simp, .inl ⟨_, _, rfl, run_takeDeferred hK0, ?_⟩⟩
    exact ⟨_, results_tmp rfl _ _ _, ⟨v, rfl, ownsRow_putObj hrow _ hK0 rfl⟩, hB.trans (belowK_b (w := w) (Nat.le_refl _) W D2 _ _ (by omega) hK0 rfl rfl)⟩
  case stop =>
    rintro D2 cc pre W _ _ h _
    exact h.elim
end Go.Proofs.YteocmhbllckpjaaGreat

namespace Go.Proofs.YteocmhbllckpjaaGreat
open Go.ChangeShapes Go.WideShapes Go.ChangeAt Go.RowKit Go.Shelf Go.Maps
set_option linter.unusedVariables false
attribute [local go_sem] Oper.semAt_some

/-- A value of the map stands for itself. -/
def heldR (v : Value) : Option (DataW Value × List MemPlace) := some (.held v, [])
def frV (N E : Nat → Nat) (P : Nat → List UInt8) (x : Nat) : Value := .agg (fcl (N x : Int) (P x) (E x) true).toArray
/-- The map behind some frames. -/
def mpD (N E : Nat → Nat) (P : Nat → List UInt8) (pre : List Nat) : DataW Value := pre.foldl (fun D x => D.put (.int .i64 (N x : Int)) (.held (frV N E P x))) (.map [])
theorem mpD_snoc (N E : Nat → Nat) (P : Nat → List UInt8) (pre : List Nat) (x : Nat) : mpD N E P (pre ++ [x]) = (mpD N E P pre).put (.int .i64 (N x : Int)) (.held (frV N E P x)) := by unfold mpD; rw [List.foldl_append]; rfl
theorem snoc_rec {α : Type} {motive : List α → Prop} (nil : motive []) (snoc : ∀ l a, motive l → motive (l ++ [a])) (l : List α) : motive l := by
  have h : ∀ n (l : List α), l.length = n → motive l := fun n => by
    induction n with
    | zero => intro l h; rw [List.length_eq_zero_iff.1 h]; exact nil
    | succ n ih =>
      intro l h
      have hne : l ≠ [] := fun e => by rw [e] at h; simp at h
      rw [← List.dropLast_concat_getLast hne]
      exact snoc _ _ (ih _ (by rw [List.length_dropLast]; omega))
  exact h _ l rfl
theorem mpD_isMap (N E : Nat → Nat) (P : Nat → List UInt8) (pre : List Nat) : IsMap (mpD N E P pre) := by
  induction pre using snoc_rec with
  | nil => exact ⟨[], rfl⟩
  | snoc l a ih =>
    obtain ⟨es, e⟩ := ih
    rw [mpD_snoc, e]
    exact ⟨_, rfl⟩
/-- What the map holds at a number: the last frame with it. -/
theorem mpD_at (N E : Nat → Nat) (P : Nat → List UInt8) (n : Nat) (zd : DataW Value) (p0 : List UInt8) (pre : List Nat) (h : ∃ x ∈ pre, N x = n) : ∃ e, (mpD N E P pre).atKey (.int .i64 (n : Int)) zd = .held (.agg (fcl (n : Int) (foldP N P n p0 pre) e true).toArray) := by
  induction pre using snoc_rec with
  | nil => obtain ⟨x, hx, _⟩ := h; cases hx
  | snoc l a ih =>
    rw [mpD_snoc, foldP_snoc]
    by_cases e : N a = n
    · have hk : WideAt.IsKeyLit (Lit.int .i64 (n : Int)) := trivial
      rw [if_pos e, e, atKey_put_same (mpD_isMap N E P l) hk]
      exact ⟨E a, by unfold frV; rw [e]⟩
    · rw [if_neg e, atKey_put_other (by intro h; simp at h; omega)]
      obtain ⟨x, hx, hn⟩ := h
      rcases List.mem_append.1 hx with hx | hx
      · exact ih ⟨x, hx, hn⟩
      · rw [List.mem_singleton.1 hx] at hn; exact absurd hn e
theorem mem_insert {x y : Lit × DataW Value} : ∀ {l : List (Lit × DataW Value)}, y ∈ DataW.insert x l ↔ y = x ∨ y ∈ l
  | [] => by simp [DataW.insert]
  | z :: r => by
    unfold DataW.insert
    split
    · simp
    · rw [List.mem_cons, mem_insert, List.mem_cons]
      constructor
      · rintro (h | h | h)
        · exact .inr (.inl h)
        · exact .inl h
        · exact .inr (.inr h)
      · rintro (h | h | h)
        · exact .inr (.inl h)
        · exact .inl h
        · exact .inr (.inr h)
/-- Its keys are the frames' numbers. -/
theorem mpD_ent (N E : Nat → Nat) (P : Nat → List UInt8) (pre : List Nat) : ∃ es, mpD N E P pre = .map es ∧ es.length ≤ pre.length ∧ ∀ k : Int, (∃ p ∈ es, p.1 = .int .i64 k) ↔ ∃ x ∈ pre, (N x : Int) = k := by
  induction pre using snoc_rec with
  | nil => exact ⟨[], rfl, Nat.le_refl _, fun k => by simp⟩
  | snoc l a ih =>
    obtain ⟨es, e, hl, hk⟩ := ih
    refine ⟨_, by rw [mpD_snoc, e]; rfl, ?_, fun k => ?_⟩
    · rw [length_insert, List.length_append]
      have := List.length_filter_le (fun p : Lit × DataW Value => !p.1.sameKey (.int .i64 (N a : Int))) es
      simp at this ⊢
      omega
    · constructor
      · rintro ⟨p, hp, e2⟩
        rcases mem_insert.1 hp with rfl | hp
        · simp at e2; exact ⟨a, by simp, e2⟩
        · obtain ⟨x, hx, hn⟩ := (hk k).1 ⟨p, (List.mem_filter.1 hp).1, e2⟩
          exact ⟨x, by simp [hx], hn⟩
      · rintro ⟨x, hx, hn⟩
        by_cases c : (N a : Int) = k
        · exact ⟨_, mem_insert.2 (.inl rfl), by rw [c]⟩
        · rcases List.mem_append.1 hx with hx | hx
          · obtain ⟨p, hp, e2⟩ := (hk k).2 ⟨x, hx, hn⟩
            refine ⟨p, mem_insert.2 (.inr (List.mem_filter.2 ⟨hp, ?_⟩)), e2⟩
            rw [e2]; simp [Lit.sameKey]; omega
          · rw [List.mem_singleton.1 hx] at hn; exact absurd hn c
/-- All keys are numbers. -/
theorem mpD_ints (N E : Nat → Nat) (P : Nat → List UInt8) (pre : List Nat) {es : List (Lit × DataW Value)} (h : mpD N E P pre = .map es) : ∀ p ∈ es, ∃ x ∈ pre, p.1 = .int .i64 (N x : Int) := by
  induction pre using snoc_rec generalizing es with
  | nil => cases h; intro p hp; cases hp
  | snoc l a ih =>
    obtain ⟨es0, e0⟩ := mpD_isMap N E P l
    rw [mpD_snoc, e0] at h
    cases h
    intro p hp
    rcases mem_insert.1 hp with rfl | hp
    · exact ⟨a, by simp, rfl⟩
    · obtain ⟨x, hx, e⟩ := ih e0 p (List.mem_filter.1 hp).1
      exact ⟨x, by simp [hx], e⟩
theorem mem_keys (N E : Nat → Nat) (P : Nat → List UInt8) (pre : List Nat) (k : Int) : k ∈ intKeys (mpD N E P pre) ↔ ∃ x ∈ pre, (N x : Int) = k := by
  obtain ⟨es, e, hl, hk⟩ := mpD_ent N E P pre
  rw [e]
  show k ∈ es.map (fun p => Go.intOf p.1) ↔ _
  rw [List.mem_map, ← hk k]
  constructor
  · rintro ⟨p, hp, e2⟩
    obtain ⟨x, hx, e3⟩ := mpD_ints N E P pre e p hp
    refine ⟨p, hp, ?_⟩
    rw [e3] at e2 ⊢
    simp [Go.intOf] at e2
    rw [e2]
  · rintro ⟨p, hp, e2⟩
    exact ⟨p, hp, by rw [e2]; rfl⟩
theorem len_keys (N E : Nat → Nat) (P : Nat → List UInt8) (pre : List Nat) : (intKeys (mpD N E P pre)).length ≤ pre.length := by
  obtain ⟨es, e, hl, hk⟩ := mpD_ent N E P pre
  rw [e]
  show (es.map (fun p => Go.intOf p.1)).length ≤ _
  rw [List.length_map]; exact hl
theorem size_map (N E : Nat → Nat) (P : Nat → List UInt8) (pre : List Nat) : Maps.size (mpD N E P pre) ≤ pre.length := by
  obtain ⟨es, e, hl, hk⟩ := mpD_ent N E P pre
  rw [e]; exact hl
theorem num_wf {n : Nat} (h : n ≤ 4096) : (Lit.int .i64 (n : Int)).wf = true := by
  simp only [Lit.wf, Bool.and_eq_true, decide_eq_true_eq]
  have h1 : IntKind.i64.min = -9223372036854775808 := by decide
  have h2 : IntKind.i64.max = 9223372036854775807 := by decide
  rw [h1, h2]
  omega
def MpI (w : World) (N E : Nat → Nat) (P : Nat → List UInt8) (sz : Nat) (pre : List Nat) (W : World) : Prop := Boxed W (w.heap.size + 1 + 1) 177 (.map (some (w.heap.size + 1))) ∧ W.ownsMap Tryz.prog 3 heldR (w.heap.size + 1) pre.length (mpD N E P pre) ∧ Below w.heap.size w W ∧ sz ≤ W.heap.size
theorem mpI_own (w : World) (N E : Nat → Nat) (P : Nat → List UInt8) (sz B : Nat) (h : w.heap.size + 1 < B) : OwnFrom B (MpI w N E P sz) :=
  OwnFrom.and (Own.from (boxed_own _ _ (fun _ : List Nat => .map (some (w.heap.size + 1)))) _) (fun s X Y row hs hg hr => ⟨hs.1.kept hg (fun e => by have := (hr _ e.symm).1; omega), (ownFrom_below (w₀ := w) (Nat.le_refl _) (by omega)) s X Y row hs.2.1 hg hr, Nat.le_trans hs.2.2 hg.size⟩)
def mpT (w : World) (b : Nat) (T : ByteArray) (K m : Nat) (bl bm : Nat) (x g : Nat) (C : Array Value) : Act := { tmps := #[.agg #[.pointer (some ⟨b, 0, none⟩), .string T, .int .i64 (K : Int)], .int .i64 (m : Int), .pointer (some ⟨w.heap.size, 0, none⟩), undef, .map none, .pointer (some ⟨w.heap.size + 1 + 1, 0, none⟩), undef, .pointer (some ⟨g, 0, none⟩), .map (some (w.heap.size + 1)), .agg #[.pointer (some ⟨b, 0, none⟩), .string T, .int .i64 (K : Int)], .int .i64 (m : Int), .func (.func 119) #[] #[.pointer (some ⟨bm, 0, none⟩), .pointer (some ⟨bl, 0, none⟩)], .int .i64 ((x : Int) + 1), .agg C, undef, undef, undef, undef, undef, undef], defers := [] }

set_option maxRecDepth 100000 in
set_option maxHeartbeats 4000000 in
theorem logPages_w (w : World) (b : Nat) (t : List UInt8) (K : Nat) (hK : K ≤ 180) (N E : Nat → Nat) (P : Nat → List UInt8) (h : Frs t K N E P) (ha : Fra N E P) (m : Nat) (hm : m ≤ K) :
    Calls Tryz.prog 93 #[lgV b t K, .int .i64 (m : Int)] w fun x w' => (∃ mb, x = .returned (.map (some mb)) ∧ w.heap.size ≤ mb ∧ w'.ownsMap Tryz.prog 3 heldR mb m (mpD N E P (List.range m))) ∧ Below w.heap.size w w' := by
  have HFm := hideJ (fun V => frames_w V b t K m)
  have HFr := hideJ h
  have HFa := hideJ ha
  have hnil : ∀ (V : World) (b c : Nat), (binOp BinOp.eql 163 (.func (.func 119) #[] #[.pointer (some ⟨b, 0, none⟩), .pointer (some ⟨c, 0, none⟩)]) Value.nilFunc).run Tryz.prog V = .ok (.bool false) V := fun V b c => by kernel_rfl
  have hmk : ∀ V : World, (Instr.makeMap 177 none).run Tryz.prog V = .ok (.map (some V.heap.size)) (V.alloc (.map #[] 0)) := fun V => rfl
  clear h ha
  rw [show lgV b t K = .agg #[.pointer (some ⟨b, 0, none⟩), .string (bstr t), .int .i64 (K : Int)] from rfl]
  refine (callsIn_wide (n := 9)).1 ?_
  refine callsIn_of_wp_marks Tryz.func93 rfl trivial ?_ rfl
  simp only [Tryz.ntmps93, List.size_toArray, List.length_cons, List.length_nil, Nat.reduceAdd, Nat.reduceSub, Array.replicate_succ, Array.replicate_zero, List.push_toArray, List.append_toArray, List.nil_append, List.cons_append]
  gi_wp2_with (refine ⟨trivial, ?_⟩; gi_at_call 83; refine CallsIn.mono (callsIn_wide.2 (HFm.out _)) ?_; rintro e w2 ⟨rfl, rfl⟩)
  have hs1 : (w.alloc (.cells #[.pointer (some ⟨b, 0, none⟩), .string (bstr t), .int .i64 (K : Int)] 93)).heap.size = w.heap.size + 1 := by simp
  obtain ⟨W1, hW1⟩ : ∃ W1, W1 = (w.alloc (.cells #[.pointer (some ⟨b, 0, none⟩), .string (bstr t), .int .i64 (K : Int)] 93)).alloc (.map #[] 0) := ⟨_, rfl⟩
  have hz1s : W1.heap.size = w.heap.size + 1 + 1 := by rw [hW1]; simp
  have hr1 : W1.ownsMap Tryz.prog 3 heldR (w.heap.size + 1) 0 (.map []) := by
    have := World.ownsMap_made (w.alloc (.cells #[.pointer (some ⟨b, 0, none⟩), .string (bstr t), .int .i64 (K : Int)] 93)) Tryz.prog 3 heldR
    rw [hs1, ← hW1] at this
    exact this
  have hg1 : w.grownBy W1 none := by rw [hW1]; exact grown_trans' (World.grownBy_alloc _ _ _) (World.grownBy_alloc _ _ _)
  rw [← hW1]
  have bV := alloc_new W1 (.cells #[.map (some (w.heap.size + 1))] 177)
  have bC := alloc_new (W1.alloc (.cells #[.map (some (w.heap.size + 1))] 177)) (.cells #[.pointer (some ⟨b, 0, none⟩), .string (bstr t), .int .i64 (K : Int)] 93)
  have bD := alloc_new ((W1.alloc (.cells #[.map (some (w.heap.size + 1))] 177)).alloc (.cells #[.pointer (some ⟨b, 0, none⟩), .string (bstr t), .int .i64 (K : Int)] 93)) (.cells #[.int .i64 (m : Int)] 3)
  simp only [World.size_alloc, hz1s] at bV bC bD
  have bC2 := (Below.heap_alloc _ (.cells #[.int .i64 (m : Int)] 3) _ (by simp; omega)).trans bC
  have bV2 := (Below.heap_alloc _ (.cells #[.int .i64 (m : Int)] 3) _ (by simp; omega)).trans ((Below.heap_alloc _ (.cells #[.pointer (some ⟨b, 0, none⟩), .string (bstr t), .int .i64 (K : Int)] 93) _ (by simp; omega)).trans bV)
  have hg0 : W1.grownBy (((W1.alloc (.cells #[.map (some (w.heap.size + 1))] 177)).alloc (.cells #[.pointer (some ⟨b, 0, none⟩), .string (bstr t), .int .i64 (K : Int)] 93)).alloc (.cells #[.int .i64 (m : Int)] 3)) none := grown_trans' (grown_trans' (World.grownBy_alloc _ _ _) (World.grownBy_alloc _ _ _)) (World.grownBy_alloc _ _ _)
  have hB0 := gbelow (grown_trans' hg1 hg0) (Nat.le_refl _)
  have hr0 := hr1.kept hg0 (by simp)
  have hs0 : (((W1.alloc (.cells #[.map (some (w.heap.size + 1))] 177)).alloc (.cells #[.pointer (some ⟨b, 0, none⟩), .string (bstr t), .int .i64 (K : Int)] 93)).alloc (.cells #[.int .i64 (m : Int)] 3)).heap.size = w.heap.size + 5 := by simp [hz1s]
  generalize (((W1.alloc (.cells #[.map (some (w.heap.size + 1))] 177)).alloc (.cells #[.pointer (some ⟨b, 0, none⟩), .string (bstr t), .int .i64 (K : Int)] 93)).alloc (.cells #[.int .i64 (m : Int)] 3)) = W0 at hB0 bC2 bD bV2 hs0 hr0 ⊢
  have h0 : MpI w N E P W0.heap.size [] W0 := ⟨bV2, hr0, hB0, Nat.le_refl _⟩
  clear bC bV hg0 hr1 hr0 hW1 hz1s hg1 hs1
  refine wpIn_rangeFunc_ownH rfl (by omega) (gf := 119) (lb := #[.pointer (some ⟨w.heap.size + 1 + 1 + 1 + 1, 0, none⟩), .pointer (some ⟨w.heap.size + 1 + 1 + 1, 0, none⟩)]) rfl trivial (enters_of Tryz.func119 (by kernel_rfl) rfl)
    (frames_stops b t K (by omega) N E P HFr.out m hm _ (w.heap.size + 1 + 1 + 1 + 1) (w.heap.size + 1 + 1 + 1) (fun A B => (B.heap[w.heap.size + 1 + 1 + 1 + 1]? = A.heap[w.heap.size + 1 + 1 + 1 + 1]? ∧ B.heap[w.heap.size + 1 + 1 + 1]? = A.heap[w.heap.size + 1 + 1 + 1]?)) (fun A B h => h) W0 (by omega) (by omega) bD bC2)
    (fun h h' => ⟨h'.1.trans h.1, h'.2.trans h.2⟩)
    (fun W l o o' hl ho _ _ => ⟨(grownBy_putObj' W l o').block _ (by have := (Array.getElem?_eq_some_iff.1 ho).1; omega) (fun e => by simp at e; omega), (grownBy_putObj' W l o').block _ (by have := (Array.getElem?_eq_some_iff.1 ho).1; omega) (fun e => by simp at e; omega)⟩) (Below.refl _ _) (fun _ => rfl)
    (MpI w N E P W0.heap.size) (fun _ _ _ => False) (mpI_own w N E P _ _ (by omega)) (fun _ _ _ _ _ hs _ _ => hs) h0
    (fun x a' W => ∃ g, W0.heap.size ≤ g ∧ a' = mpT w b (bstr t) K m (w.heap.size + 1 + 1 + 1) (w.heap.size + 1 + 1 + 1 + 1) x g (fcl (N x : Int) (P x) (E x) true).toArray ∧ Blk W g (fcl (N x : Int) (P x) (E x) true).toArray 167)
    (fun x a' s X Y row hs hg hr => by
      obtain ⟨g, h1, h2, h3⟩ := hs
      exact ⟨g, h1, h2, blk_keep h3 hg (fun r e => (hr r e).2)⟩) ?assign ?body ?done ?stop
  case assign =>
    intro lp pre x W Kk hI hKk
    have hp := HFa.out.pg x
    obtain ⟨Z, hZs, hZ⟩ := new167 W
    have HZ := hideJ hZ
    have HI := hideJ (size167 (n := (N x : Int)) (p := P x) (e := E x) (pl := true) hp)
    have HA := hideJ (fcl_all (N x : Int) (P x) (E x) true)
    have HS : Hid ((fcl (N x : Int) (P x) (E x) true).toArray.size = Z.size) := by show _ = _; rw [List.size_toArray, fcl_length _ _ _ hp, hZs]
    have HKk := hideJ hKk
    have HIw := hideJ hI
    clear hZ hZs hp hKk hI
    simp only [encF]
    generalize hC : (fcl (N x : Int) (P x) (E x) true).toArray = C at HI HA HS HKk ⊢
    gi_wp2_with (refine wpIn_storeB (c := C) HI.out HS.out HA.out HZ.out _ _ (by rfl) (by rfl) (by rfl) (by rfl) ?_; intro W5 hb5 ho5 hk5)
    have hgr : W.grownBy W5 none := grown_only (World.grownBy_alloc _ _ _) ho5 (Nat.le_refl _)
    obtain ⟨i1, i2, i3, i4⟩ := HIw.out
    have hke : ∀ k, k < W.heap.size → W5.heap[k]? = W.heap[k]? := fun k hk => hgr.block k hk (by simp)
    exact HKk.out _ _ (((KeepsOthers.alloc W _).trans hk5).from _) ⟨hke _ (by omega), hke _ (by omega)⟩ ⟨(hke _ (by omega)).trans i1, i2.kept hgr (by simp), i3.trans (gbelow hgr (by omega)), Nat.le_trans i4 hgr.size⟩ ⟨W.heap.size, by omega, rfl, hb5⟩
  case body =>
    rintro lp pre x a' W hl hr ⟨hv, hown, hB, hsz⟩ ⟨g, hg0, rfl, hg⟩ hlt
    have hp := HFa.out.pg x
    have cN : W.cell? ⟨g, 0, none⟩ = some (.int .i64 (N x : Int)) := (hg.cell 0).trans rfl
    have cm := hv.cell
    have HI := hideJ (size167 (n := (N x : Int)) (p := P x) (e := E x) (pl := true) hp)
    have HG := hideJ hg
    have HO := hideJ hown
    have HLt : Hid (pre.length < maxLen) := by show _ < _; unfold maxLen; omega
    have HKy : Hid (keyOf Tryz.prog 3 (.int .i64 (N x : Int)) = some (.int .i64 (N x : Int))) := keyOf_int_mk Tryz.underlying3 (num_wf (HFa.out.num x))
    have HSn := hideJ (mpD_snoc N E P pre x)
    have HFv : Hid (frV N E P x = .agg (fcl (N x : Int) (P x) (E x) true).toArray) := rfl
    rw [HFv.out] at HSn
    clear hp hg
    simp only [mpT]
    generalize hC : (fcl (N x : Int) (P x) (E x) true).toArray = C at HI HG HSn ⊢
    clear hC
    gi_wp2_with (first
      | (refine wpIn_loadB (c := C) HI.out u167 HG.out _ (by rfl) (by rfl) (by rfl) ?_)
      | (refine wpListIn_mapUpdate_own _ rfl _ _ _ 177 rfl 3 167 (int_keyed Tryz.underlying3) Tryz.underlying177 heldR (w.heap.size + 1) pre.length (mpD N E P pre) rfl HO.out HLt.out _ _ _ rfl rfl HKy.out _ _ rfl ?_; intro w1 hown1 hgrow1))
    have hke : ∀ k, k < W.heap.size → k ≠ w.heap.size + 1 → w1.heap[k]? = W.heap[k]? := fun k hk hn => hgrow1.block k hk (fun e => hn (by simpa using e))
    have hbe : Below w.heap.size W w1 := ⟨hgrow1.os, hgrow1.tape, hgrow1.output, hgrow1.size, fun k hk => hke k (by omega) (by omega)⟩
    exact ⟨KeepsFrom.of_grownBy hgrow1 (fun j e => by simp at e; omega), ⟨hke _ (by omega) (by omega), hke _ (by omega) (by omega)⟩, (hke _ (by omega) (by omega)).trans hv, by rw [HSn.out, List.length_append]; exact hown1, hB.trans hbe, by have := hgrow1.size; omega⟩
  case done =>
    rintro D2 ys W hD rfl ⟨hv, hown, hB, hsz⟩ hK0
    have hc := hv.cell
    rw [List.length_range] at hown
    gi_wp2
    refine ⟨by simp, .inl ⟨_, _, rfl, run_takeDeferred hK0, ?_⟩⟩
    refine ⟨_, results_tmp rfl _ _ _, ⟨w.heap.size + 1, rfl, by omega, hown.kept (grownBy_putObj' W D2 _) (fun e => by simp at e; omega)⟩, hB.trans (belowK_b (w := w) (Nat.le_refl _) W D2 _ _ (by omega) hK0 rfl rfl)⟩
  case stop =>
    rintro D2 cc pre W _ _ h _
    exact h.elim
end Go.Proofs.YteocmhbllckpjaaGreat

namespace Go.Proofs
open Go.Shelf
def Tryz.keysA_ren : Go.Shelf.Ren := ⟨fun | 7 => 95 | 10 => 131 | n => n, fun | 23 => 177 | 26 => 3 | 3 => 167 | 28 => 181 | 0 => 0 | 27 => 180 | 33 => 211 | 4 => 4 | n => n, fun | n => n⟩
theorem Tryz.keysA : Go.Proofs.SlLaysZI.n7 Tryz.prog Tryz.keysA_ren := {
  mixed := by kernel_rfl
  f7 := ⟨Tryz.f95.name, by decide, Tryz.func95.trans (congrArg some (by kernel_rfl))⟩
  f10 := ⟨Tryz.f131.name, by decide, Tryz.func131.trans (congrArg some (by kernel_rfl))⟩
  t0 := Tryz.underlying0
  a0 := Tryz.isAgg0
  z0 := Tryz.sizeOf0
  v0 := Tryz.zeroValue0
  t4 := Tryz.underlying4
  a4 := Tryz.isAgg4
  z4 := Tryz.sizeOf4
  v4 := Tryz.zeroValue4
  t23 := Tryz.underlying177
  a23 := Tryz.isAgg177
  z23 := Tryz.sizeOf177
  v23 := Tryz.zeroValue177
  t26 := Tryz.underlying3
  a26 := Tryz.isAgg3
  z26 := Tryz.sizeOf3
  v26 := Tryz.zeroValue3
  t27 := Tryz.underlying180
  a27 := Tryz.isAgg180
  z27 := Tryz.sizeOf180
  v27 := Tryz.zeroValue180
  t28 := Tryz.underlying181
  a28 := Tryz.isAgg181
  z28 := Tryz.sizeOf181
  v28 := Tryz.zeroValue181
  t33 := Tryz.underlying211
  a33 := Tryz.isAgg211
  z33 := Tryz.sizeOf211
  v33 := Tryz.zeroValue211 }
def Tryz.sortedA_ren : Go.Shelf.Ren := ⟨fun | 6 => 94 | 8 => 129 | 9 => 130 | 11 => 143 | 13 => 145 | 12 => 144 | 23 => 158 | 24 => 159 | 14 => 149 | 15 => 150 | 16 => 151 | 17 => 152 | 18 => 153 | 19 => 154 | 20 => 155 | 21 => 156 | 22 => 157 | 25 => 161 | 26 => 162 | 27 => 163 | 28 => 164 | 29 => 165 | 30 => 166 | 31 => 167 | n => n, fun | 26 => 3 | 28 => 181 | 24 => 32 | 0 => 0 | 3 => 3 | 37 => 214 | 48 => 157 | 50 => 235 | 4 => 4 | 40 => 227 | 39 => 226 | 45 => 97 | 5 => 5 | 9 => 9 | 51 => 237 | 55 => 241 | 57 => 243 | 58 => 244 | 33 => 211 | n => n, fun | n => n⟩
theorem Tryz.sortedA : Go.Proofs.SlLaysZI.n6 Tryz.prog Tryz.sortedA_ren := {
  mixed := by kernel_rfl
  f6 := ⟨Tryz.f94.name, by decide, Tryz.func94.trans (congrArg some (by kernel_rfl))⟩
  f8 := ⟨Tryz.f129.name, by decide, Tryz.func129.trans (congrArg some (by kernel_rfl))⟩
  f11 := ⟨Tryz.f143.name, by decide, Tryz.func143.trans (congrArg some (by kernel_rfl))⟩
  t0 := Tryz.underlying0
  a0 := Tryz.isAgg0
  z0 := Tryz.sizeOf0
  v0 := Tryz.zeroValue0
  t24 := Tryz.underlying32
  a24 := Tryz.isAgg32
  z24 := Tryz.sizeOf32
  v24 := Tryz.zeroValue32
  t26 := Tryz.underlying3
  a26 := Tryz.isAgg3
  z26 := Tryz.sizeOf3
  v26 := Tryz.zeroValue3
  t28 := Tryz.underlying181
  a28 := Tryz.isAgg181
  z28 := Tryz.sizeOf181
  v28 := Tryz.zeroValue181
  i26 := by kernel_rfl }
def Tryz.sortA_ren : Go.Shelf.Ren := ⟨fun | 5 => 130 | 8 => 145 | 7 => 144 | 19 => 158 | 20 => 159 | 10 => 149 | 11 => 150 | 12 => 151 | 13 => 152 | 14 => 153 | 15 => 154 | 16 => 155 | 17 => 156 | 18 => 157 | 30 => 161 | 31 => 162 | 32 => 163 | 33 => 164 | 34 => 165 | 35 => 166 | 40 => 167 | n => n, fun | 23 => 32 | 25 => 3 | 3 => 3 | 32 => 214 | 22 => 32 | 0 => 0 | 44 => 157 | 46 => 235 | 4 => 4 | 36 => 227 | 35 => 226 | 41 => 97 | 5 => 5 | 9 => 9 | 53 => 237 | 57 => 241 | 63 => 243 | 64 => 244 | n => n, fun | n => n⟩
theorem Tryz.sortA : Go.Proofs.SlLaysM.n5 Tryz.prog Tryz.sortA_ren := {
  mixed := by kernel_rfl
  f5 := ⟨Tryz.f130.name, by decide, Tryz.func130.trans (congrArg some (by kernel_rfl))⟩
  f7 := ⟨Tryz.f144.name, by decide, Tryz.func144.trans (congrArg some (by kernel_rfl))⟩
  f8 := Tryz.func145.trans (congrArg some (by kernel_rfl))
  f10 := ⟨Tryz.f149.name, by decide, Tryz.func149.trans (congrArg some (by kernel_rfl))⟩
  f11 := ⟨Tryz.f150.name, by decide, Tryz.func150.trans (congrArg some (by kernel_rfl))⟩
  f12 := ⟨Tryz.f151.name, by decide, Tryz.func151.trans (congrArg some (by kernel_rfl))⟩
  f13 := ⟨Tryz.f152.name, by decide, Tryz.func152.trans (congrArg some (by kernel_rfl))⟩
  f14 := ⟨Tryz.f153.name, by decide, Tryz.func153.trans (congrArg some (by kernel_rfl))⟩
  f15 := ⟨Tryz.f154.name, by decide, Tryz.func154.trans (congrArg some (by kernel_rfl))⟩
  f16 := ⟨Tryz.f155.name, by decide, Tryz.func155.trans (congrArg some (by kernel_rfl))⟩
  f17 := ⟨Tryz.f156.name, by decide, Tryz.func156.trans (congrArg some (by kernel_rfl))⟩
  f18 := ⟨Tryz.f157.name, by decide, Tryz.func157.trans (congrArg some (by kernel_rfl))⟩
  f19 := Tryz.func158.trans (congrArg some (by kernel_rfl))
  f20 := Tryz.func159.trans (congrArg some (by kernel_rfl))
  f30 := ⟨Tryz.f161.name, by decide, Tryz.func161.trans (congrArg some (by kernel_rfl))⟩
  f31 := Tryz.func162.trans (congrArg some (by kernel_rfl))
  f32 := Tryz.func163.trans (congrArg some (by kernel_rfl))
  f33 := ⟨Tryz.f164.name, by decide, Tryz.func164.trans (congrArg some (by kernel_rfl))⟩
  f34 := ⟨Tryz.f165.name, by decide, Tryz.func165.trans (congrArg some (by kernel_rfl))⟩
  f35 := ⟨Tryz.f166.name, by decide, Tryz.func166.trans (congrArg some (by kernel_rfl))⟩
  f40 := ⟨Tryz.f167.name, by decide, Tryz.func167.trans (congrArg some (by kernel_rfl))⟩
  t0 := Tryz.underlying0
  a0 := Tryz.isAgg0
  z0 := Tryz.sizeOf0
  v0 := Tryz.zeroValue0
  t3 := Tryz.underlying3
  a3 := Tryz.isAgg3
  z3 := Tryz.sizeOf3
  v3 := Tryz.zeroValue3
  t4 := Tryz.underlying4
  a4 := Tryz.isAgg4
  z4 := Tryz.sizeOf4
  v4 := Tryz.zeroValue4
  t5 := Tryz.underlying5
  a5 := Tryz.isAgg5
  z5 := Tryz.sizeOf5
  v5 := Tryz.zeroValue5
  t9 := Tryz.underlying9
  a9 := Tryz.isAgg9
  z9 := Tryz.sizeOf9
  v9 := Tryz.zeroValue9
  t22 := Tryz.underlying32
  a22 := Tryz.isAgg32
  z22 := Tryz.sizeOf32
  v22 := Tryz.zeroValue32
  t23 := Tryz.underlying32
  a23 := Tryz.isAgg32
  z23 := Tryz.sizeOf32
  v23 := Tryz.zeroValue32
  t25 := Tryz.underlying3
  a25 := Tryz.isAgg3
  z25 := Tryz.sizeOf3
  v25 := Tryz.zeroValue3
  t32 := Tryz.underlying214
  a32 := Tryz.isAgg214
  z32 := Tryz.sizeOf214
  v32 := Tryz.zeroValue214
  t35 := Tryz.underlying226
  a35 := Tryz.isAgg226
  z35 := Tryz.sizeOf226
  v35 := Tryz.zeroValue226
  t36 := Tryz.underlying227
  a36 := Tryz.isAgg227
  z36 := Tryz.sizeOf227
  v36 := Tryz.zeroValue227
  t41 := Tryz.underlying97
  a41 := Tryz.isAgg97
  z41 := Tryz.sizeOf97
  v41 := Tryz.zeroValue97
  t44 := Tryz.underlying157
  a44 := Tryz.isAgg157
  z44 := Tryz.sizeOf157
  v44 := Tryz.zeroValue157
  t46 := Tryz.underlying235
  a46 := Tryz.isAgg235
  z46 := Tryz.sizeOf235
  v46 := Tryz.zeroValue235
  t53 := Tryz.underlying237
  a53 := Tryz.isAgg237
  z53 := Tryz.sizeOf237
  v53 := Tryz.zeroValue237
  t57 := Tryz.underlying241
  a57 := Tryz.isAgg241
  z57 := Tryz.sizeOf241
  v57 := Tryz.zeroValue241
  t63 := Tryz.underlying243
  a63 := Tryz.isAgg243
  z63 := Tryz.sizeOf243
  v63 := Tryz.zeroValue243
  t64 := Tryz.underlying244
  a64 := Tryz.isAgg244
  z64 := Tryz.sizeOf244
  v64 := Tryz.zeroValue244 }
end Go.Proofs

namespace Go.Proofs.YteocmhbllckpjaaGreat
open Go.ChangeShapes Go.WideShapes Go.ChangeAt Go.RowKit Go.Shelf Go.Maps Go.Sort
set_option linter.unusedVariables false

theorem sortsA (m : Nat) : AnyZI.SortsIn Tryz.prog Tryz.sortedA_ren Fence.wide m :=
  ⟨fun blk off cap ss W hH hblk hsz => callsIn_wide.2 (AnyM.slices_Sort_int Tryz.sortA blk off cap ss W hH hblk hsz),
   fun p cap W => callsIn_wide.2 (AnyM.slices_Sort_int_none Tryz.sortA p cap W)⟩
theorem keys_w (mb : Option Nat) (W : World) : Calls Tryz.prog 95 #[.map mb] W fun e w' => e = .returned (.func (.func 131) #[] #[.pointer (some ⟨W.heap.size, 0, none⟩)]) ∧ w' = W.alloc (.cells #[.map mb] 177) :=
  (callsIn_wide (n := 5)).1 (AnyZI.keys_in Tryz.keysA Fence.wide 5 trivial rfl mb W)
set_option maxHeartbeats 1000000 in
theorem sorted_w (w : World) (b nn : Nat) (N E : Nat → Nat) (P : Nat → List UInt8) (pre : List Nat) (hown : w.ownsMap Tryz.prog 3 heldR b nn (mpD N E P pre)) (hlen : pre.length ≤ 180) :
    Calls Tryz.prog 94 #[.func (.func 131) #[] #[.pointer (some ⟨w.heap.size, 0, none⟩)]] (w.alloc (.cells #[.map (some b)] 177)) fun e w' => (∃ v, ∃ ss : List Int, e = .returned v ∧ w'.ownsRow w.heap.size 3 1 v ss.length (ss.map (Value.int .i64)) ∧ (∀ k, k ∈ ss ↔ ∃ x ∈ pre, (N x : Int) = k) ∧ ss.length ≤ pre.length) ∧ (w.alloc (.cells #[.map (some b)] 177)).grownBy w' none := by
  have hbl := hown.lt
  have hsize := size_map N E P pre
  have hseq : SeqGives Fence.wide 2 Tryz.prog 131 #[.pointer (some ⟨w.heap.size, 0, none⟩)] encZ (fun ss => ss.Perm (intKeys (mpD N E P pre))) (Maps.size (mpD N E P pre)) (w.alloc (.cells #[.map (some b)] 177)) :=
    AnyZI.keys_gives (ρ := Tryz.keysA_ren) { Tryz.keysA with } Fence.wide _ trivial rfl (by omega) w.heap.size b nn (mpD N E P pre) _ (by simp) (by simp) (by
      obtain ⟨es, clock, hb, Ft, hs, hD⟩ := hown
      exact ⟨es, clock, (Below.heap_alloc _ _ b hbl).trans hb, Ft, hs, hD⟩)
  have cS := AnyZI.sorted_in Tryz.sortedA Fence.wide 5 trivial trivial trivial trivial rfl (by omega) (sortsA _) (enters_of Tryz.func130 (by kernel_rfl) rfl) 131 #[.pointer (some ⟨w.heap.size, 0, none⟩)] trivial (enters_of Tryz.func131 (by kernel_rfl) rfl) _ _ (by unfold maxLen; omega) (by omega) _ hseq
  change CallsIn _ _ Tryz.prog 94 _ _ _ at cS
  refine (callsIn_wide (n := 5)).1 (cS.mono ?_)
  rintro e w' ⟨v, ss, rfl, hS, hrow, hnil, hb⟩
  have hperm : (ss.mergeSort (fun x y => decide (x ≤ y))).Perm (intKeys (mpD N E P pre)) := (List.mergeSort_perm ss _).trans hS
  refine ⟨⟨v, ss.mergeSort (fun x y => decide (x ≤ y)), rfl, ?_, fun k => ?_, ?_⟩, grown_of_below hb⟩
  · rw [List.length_mergeSort]
    exact ownsRow_base hrow (by simp)
  · rw [hperm.mem_iff, mem_keys]
  · rw [hperm.length_eq]; exact len_keys N E P pre
end Go.Proofs.YteocmhbllckpjaaGreat

namespace Go.Proofs.YteocmhbllckpjaaGreat
open Go.ChangeShapes Go.WideShapes Go.ChangeAt Go.RowKit
open Go.ChangeMaps (setBlock)
set_option linter.unusedVariables false

theorem field_frame (V : World) (n : Int) (p : List UInt8) (e : Nat) (pl : Bool) (h : p.length = 256) : (Instr.field 167 (.agg (fcl n p e pl).toArray) 0).run Tryz.prog V = .ok (.agg (pcl n p).toArray) V := by
  obtain ⟨fs, h1, h2⟩ : ∃ fs, Tryz.prog.underlying 167 = some (.struct fs) ∧ (fs[0]?).map (fun f => (f.type, f.offset)) = some (72, 0) := ⟨_, Tryz.underlying167, by kernel_rfl⟩
  obtain ⟨f, h3, h4⟩ := Option.map_eq_some_iff.1 h2
  simp only [Prod.mk.injEq] at h4
  have hA : (isAgg 72).run Tryz.prog V = .ok true V := by kernel_rfl
  have hS : (sizeOf 72).run Tryz.prog V = .ok 257 V := by kernel_rfl
  have hx : (fcl n p e pl).toArray.extract 0 (0 + 257) = (pcl n p).toArray := by
    apply Array.ext'
    rw [Array.toList_extract, List.extract_eq_take_drop]
    simp only [List.drop_zero, Nat.sub_zero, Nat.zero_add]
    unfold fcl pcl
    rw [show (257 : Nat) = 256 + 1 from rfl, List.take_succ_cons, List.take_append_of_le_length (by rw [length_bcs, h]; omega), List.take_of_length_le (by rw [length_bcs, h]; omega)]
  simp only [Instr.field, Sem.run_bind, run_underlying h1, Result.andThen_ok, h3, asAgg, Sem.run_pure, part, h4.1, h4.2, hA, if_true, hS, hx]
theorem field_page (V : World) (n : Int) (p : List UInt8) (h : p.length = 256) : (Instr.field 72 (.agg (pcl n p).toArray) 1).run Tryz.prog V = .ok (.agg (bcs p).toArray) V := by
  obtain ⟨fs, h1, h2⟩ : ∃ fs, Tryz.prog.underlying 72 = some (.struct fs) ∧ (fs[1]?).map (fun f => (f.type, f.offset)) = some (49, 1) := ⟨_, Tryz.underlying72, by kernel_rfl⟩
  obtain ⟨f, h3, h4⟩ := Option.map_eq_some_iff.1 h2
  simp only [Prod.mk.injEq] at h4
  have hA : (isAgg 49).run Tryz.prog V = .ok true V := by kernel_rfl
  have hS : (sizeOf 49).run Tryz.prog V = .ok 256 V := by kernel_rfl
  have hx : (pcl n p).toArray.extract 1 (1 + 256) = (bcs p).toArray := by
    apply Array.ext'
    rw [Array.toList_extract, List.extract_eq_take_drop]
    unfold pcl
    rw [List.drop_succ_cons, List.drop_zero]
    rw [List.take_of_length_le (by rw [length_bcs, h]; omega)]
  simp only [Instr.field, Sem.run_bind, run_underlying h1, Result.andThen_ok, h3, asAgg, Sem.run_pure, part, h4.1, h4.2, hA, if_true, hS, hx]
theorem foldP_cov {N : Nat → Nat} {P : Nat → List UInt8} {n : Nat} (a b : List UInt8) {pre : List Nat} (h : ∃ x ∈ pre, N x = n) : foldP N P n a pre = foldP N P n b pre := by
  induction pre using snoc_rec with
  | nil => obtain ⟨x, hx, _⟩ := h; cases hx
  | snoc l y ih =>
    rw [foldP_snoc, foldP_snoc]
    by_cases e : N y = n
    · rw [if_pos e, if_pos e]
    · rw [if_neg e, if_neg e]
      obtain ⟨x, hx, hn⟩ := h
      rcases List.mem_append.1 hx with hx | hx
      · exact ih ⟨x, hx, hn⟩
      · rw [List.mem_singleton.1 hx] at hn; exact absurd hn e
theorem foldP_none {N : Nat → Nat} {P : Nat → List UInt8} {n : Nat} (a : List UInt8) {pre : List Nat} (h : ∀ x ∈ pre, N x ≠ n) : foldP N P n a pre = a := by
  induction pre using snoc_rec with
  | nil => rfl
  | snoc l y ih => rw [foldP_snoc, if_neg (h y (by simp)), ih (fun x hx => h x (by simp [hx]))]
theorem range_mem {M : Nat} {N : Nat → Nat} {n : Nat} : (∃ x ∈ List.range M, N x = n) ↔ ∃ x, x < M ∧ N x = n := by simp [List.mem_range]
/-- The row of a map's numbers, as loads meet it. -/
theorem own_ints {w : World} {base n : Nat} {v : Value} {ss : List Int} (h : w.ownsRow base 3 1 v n (ss.map (Value.int .i64))) (hn : ss.length = n) (T : Nat → Nat) (hT : ∀ k x, ss[k]? = some x → x = (T k : Int)) : ∃ p cap, v = .slice p n cap ∧ IntA w p n T := by
  rcases h.2 with ⟨rfl, h0⟩ | ⟨g, cap, cur, rfl, hb, hg, hnc, hcm, hcs, htake⟩
  · exact ⟨none, 0, by rw [h0], fun h => by omega⟩
  · refine ⟨_, cap, rfl, fun _ => ⟨g, cur, rfl, hg, fun k hk => ?_⟩⟩
    obtain ⟨x, hx⟩ : ∃ x, ss[k]? = some x := ⟨_, List.getElem?_eq_getElem (by omega)⟩
    have hv : (ss.map (Value.int .i64))[k]? = some (.int .i64 x) := by rw [List.getElem?_map, hx]; rfl
    have := h.cells (g := g) rfl k _ hv
    rw [show (⟨g, 0, none⟩ : Addr).add k = ⟨g, k, none⟩ by unfold Addr.add; split <;> simp_all, Blk.cell hg] at this
    rw [this, hT k x hx]
theorem step_appH {ops : Array Oper} {o : Oper} {a : Act} {K : Act → World → Prop} {Q : Exit → Act → World → Prop} {E : Prop} {W : World} {base b n m : Nat} {v : Value} {S S' : Nat → Stp} (vs : List Value) (hst : StO W base b v n S) (hvs : vs.length = m) (hm : 0 < m)
    (hsv : ∀ k u, vs[k]? = some u → SV W b (S' k) u) (hone : ∀ u ∈ vs, u.oneCell' = true) (hn : n + m ≤ 1000) (hbase : base ≤ W.heap.size) (s x : Operand) (hgd : o.guard = none) (ho : o.op = .call { callee := .builtin .append, args := #[s, x], argTypes := #[103, 103] })
    (hs : a.eval s = v) (hx : a.eval x = .slice (some ⟨W.heap.size, 0, none⟩) m m)
    (hk : ∀ p cap w', StO w' base b (.slice p (n + m) cap) (n + m) (catS S n S') → App base W w' → (∀ (k : Nat) (o : Obj), o.isCells = false → W.heap[k]? = some o → w'.heap[k]? = some o) → K (a.put o.dst (.slice p (n + m) cap)) w') :
    if Region.wanted o (yielded ops a.tmps) = true then Oper.wp Tryz.prog o a (W.alloc (.cells vs.toArray 171)) K Q else E := by
  obtain ⟨i, z, hi, hz0, hz1, hz2, hz3⟩ := infoF
  obtain ⟨us, hu, hul, hus⟩ := hst
  have hg0 := World.grownBy_alloc W (.cells vs.toArray 171) none
  have hu2 := hu.alloc (.cells vs.toArray 171)
  have hnews : ∀ j u, vs[j]? = some u → (W.alloc (.cells vs.toArray 171)).cell? ((⟨W.heap.size, 0, none⟩ : Addr).add j) = some u := fun j u hj => by
    rw [show (⟨W.heap.size, 0, none⟩ : Addr).add j = ⟨W.heap.size, j, none⟩ by unfold Addr.add; split <;> simp_all]
    have hb : Blk (W.alloc (.cells vs.toArray 171)) W.heap.size vs.toArray 171 := alloc_new _ _
    rw [hb.cell]; simpa using hj
  refine step_append_lies (w := W.alloc (.cells vs.toArray 171)) hgd s x 103 ho base 171 i z 1 8 Tryz.underlying103 hi hz0 hz1 hz2 hz3 (by omega) v n us hs hu2 ⟨W.heap.size, 0, none⟩ m m vs hx (by omega) hnews hone hm (by simp only [maxLen]; omega) (by omega) (by simp; omega) _ rfl ?_
  intro g cap w' hown hgr hgg hlt
  have hblk : ∀ k c t, t ≠ 171 → Blk W k c t → Blk w' k c t := fun k c t ht hb => by
    refine (hgr.block k (by have := hb.lt; simp; omega) (fun e => ?_)).trans ((Below.heap_alloc _ _ _ hb.lt).trans hb)
    exact ht (own_type hu e.symm hb)
  refine hk _ _ _ ⟨us ++ vs, hown, by simp; omega, fun k u hk => ?_⟩ ⟨fun w0 h0 hW => ?_, hblk⟩ ?_
  · have hmap : ∀ s, SV W b s u → SV w' b s u := fun s h => h.map (fun k c t ht hb => hblk k c t (by rcases ht with rfl | rfl | rfl <;> decide) hb)
    unfold catS
    by_cases hlt : k < n
    · rw [if_pos hlt]
      rw [List.getElem?_append_left (by omega)] at hk
      exact hmap _ (hus k u hk)
    · rw [if_neg hlt]
      rw [List.getElem?_append_right (by omega), hul] at hk
      exact hmap _ (hsv _ u hk)
  · refine ⟨hgr.os.trans hW.os, hgr.tape.trans hW.tape, hgr.output.trans hW.output, Nat.le_trans hW.size (Nat.le_trans (by simp) hgr.size), fun k hk hn => ?_⟩
    have hkW : k < W.heap.size := Nat.lt_of_lt_of_le hk hW.size
    refine (hgr.block k (by simp; omega) (fun e => ?_)).trans ((Below.heap_alloc _ _ _ hkW).trans (hW.block k hk hn))
    have := (hu.lt k e.symm).1
    omega
  · intro k o ho hk
    have hkW : k < W.heap.size := (Array.getElem?_eq_some_iff.1 hk).1
    refine (hgr.block k (by simp; omega) (fun e => ?_)).trans ((Below.heap_alloc _ _ _ hkW).trans hk)
    rcases hu.2 with ⟨rfl, _⟩ | ⟨g', cap', cur', rfl, _, hgb, _⟩
    · cases e
    · have e2 : k = g' := by simpa [Value.ownBlock] using e
      rw [e2, hgb] at hk
      cases hk
      cases ho

/-- Which of a row's numbers are brought home. -/
def homF (count : Nat) : Nat → Bool := fun p => decide (1 ≤ p ∧ p ≤ count)
def homL (count : Nat) (ks : List Nat) : List Nat := ks.filter (homF count)
theorem homL_yes {count : Nat} {ks : List Nat} {i x : Nat} (hx : ks[i]? = some x) (h : homF count x = true) : homL count (ks.take (i + 1)) = homL count (ks.take i) ++ [x] ∧ (homL count ks).getD (homL count (ks.take i)).length 0 = x := by
  have hi : i < ks.length := (List.getElem?_eq_some_iff.1 hx).1
  have e1 : ks.take (i + 1) = ks.take i ++ [x] := by rw [List.take_add_one, hx]; rfl
  refine ⟨by unfold homL; rw [e1, List.filter_append]; simp [h], ?_⟩
  have e2 : ks = ks.take i ++ (x :: ks.drop (i + 1)) := by
    have := List.drop_eq_getElem_cons hi
    have hx' : ks[i] = x := by simpa using (List.getElem?_eq_some_iff.1 hx).2
    rw [hx'] at this
    rw [← this, List.take_append_drop]
  have e3 : homL count ks = homL count (ks.take i) ++ (x :: homL count (ks.drop (i + 1))) := by
    conv => lhs; rw [e2]
    unfold homL
    rw [List.filter_append, List.filter_cons, h]
    rfl
  rw [e3]
  simp [List.getD]
theorem homL_no {count : Nat} {ks : List Nat} {i x : Nat} (hx : ks[i]? = some x) (h : homF count x = false) : homL count (ks.take (i + 1)) = homL count (ks.take i) := by
  have e1 : ks.take (i + 1) = ks.take i ++ [x] := by rw [List.take_add_one, hx]; rfl
  unfold homL; rw [e1, List.filter_append]; simp [h]
theorem homL_len (count : Nat) (ks : List Nat) (i : Nat) : (homL count (ks.take i)).length ≤ i := by
  have h1 := List.length_filter_le (homF count) (ks.take i)
  have h2 : (ks.take i).length ≤ i := List.length_take_le _ _
  unfold homL
  omega
theorem homL_mem {count : Nat} {ks : List Nat} {p : Nat} : p ∈ homL count ks ↔ p ∈ ks ∧ 1 ≤ p ∧ p ≤ count := by unfold homL homF; simp [List.mem_filter]
/-- The steps that end what brings pages home. -/
def tlH (count : Nat) : Nat → Stp
  | 0 => .cut nmD (256 * count)
  | 1 => .sync nmD
  | 2 => .put nmJ 0 (bstr (sealB 0 0 0 0))
  | _ => .sync nmJ
def homS (K count n : Nat) (T : Nat → Nat) (L : Nat → List UInt8) : Nat → Stp := catS (catS (hdSt (sealB K 0 0 0)) 2 (pgS T L)) (2 + n) (tlH count)
theorem two_svC {V : World} {b count a1 a2 a3 d1 d2 : Nat} (h1 : SV V b (.cut nmD (256 * count)) (fun3 132 a1 a2 a3)) (h2 : SV V b (.sync nmD) (fun2 126 d1 d2)) : ∀ k u, [fun3 132 a1 a2 a3, fun2 126 d1 d2][k]? = some u → SV V b (tlH count k) u
  | 0, u, h => by cases h; exact h1
  | 1, u, h => by cases h; exact h2
theorem two_oneC {a1 a2 a3 d1 d2 : Nat} : ∀ u ∈ [fun3 132 a1 a2 a3, fun2 126 d1 d2], u.oneCell' = true := by
  intro u hu
  simp at hu
  rcases hu with rfl | rfl <;> rfl
theorem two_svH {V : World} {b count a1 a2 a3 a4 d1 d2 : Nat} (h1 : SV V b (.put nmJ 0 (bstr (sealB 0 0 0 0))) (fun4 124 a1 a2 a3 a4)) (h2 : SV V b (.sync nmJ) (fun2 126 d1 d2)) : ∀ k u, [fun4 124 a1 a2 a3 a4, fun2 126 d1 d2][k]? = some u → SV V b (tlH count (2 + k)) u
  | 0, u, h => by cases h; exact h1
  | 1, u, h => by cases h; exact h2
theorem two_oneH {a1 a2 a3 a4 d1 d2 : Nat} : ∀ u ∈ [fun4 124 a1 a2 a3 a4, fun2 126 d1 d2], u.oneCell' = true := by
  intro u hu
  simp at hu
  rcases hu with rfl | rfl <;> rfl
theorem own_kept {w w' : World} {b n : Nat} {D : DataW Value} (h : w.ownsMap Tryz.prog 3 heldR b n D) (hk : ∀ (k : Nat) (o : Obj), o.isCells = false → w.heap[k]? = some o → w'.heap[k]? = some o) : w'.ownsMap Tryz.prog 3 heldR b n D := by
  obtain ⟨es, clock, hb, Ft, hs, hD⟩ := h
  exact ⟨es, clock, hk b _ rfl hb, Ft, hs, hD⟩
end Go.Proofs.YteocmhbllckpjaaGreat
