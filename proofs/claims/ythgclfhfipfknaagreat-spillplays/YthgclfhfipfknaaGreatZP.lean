/- Take where the first free page is none. -/
/- Package space: Get and Set. -/
/- The document's space: what lies in memory; Has. -/
/- The document's space: Take. -/
/- The document's space: Take of a new page. -/
/- The document's space: Give. -/
import Derived.Test.YthgclfhfipfknaaGreatOHP
import Derived.Test.YthgclfhfipfknaaGreatQH
import Derived.Test.YthgclfhfipfknaaGreatRWA
import Derived.Test.YthgclfhfipfknaaGreatZD
import Derived.Test.YthgclfhfipfknaaGreatPNB
namespace Go.Proofs.YthgclfhfipfknaaGreat
variable {sv : Value}
open Go.ChangeShapes Go.WideShapes Go.ChangeAt Go.RowKit Go.Maps
set_option linter.unusedVariables false

theorem mt_bad1 (w : World) (A M C B L n t pm : Nat) {P : Nat → List UInt8} {K : Nat} {b : Bool} (ht : Tr sv w t pm n P K b) (hL : L < 4294967296) (hm : MtB w A M C B L 1 n t) (h0 : L ≠ 0) (hok : ¬ ((1 ≠ n ∧ 2 ≤ L ∧ L ≤ n) ∧ isFree (P L) = true)) :
    Calls Tryz.prog 122 #[.pointer (some ⟨A, 0, none⟩), .pointer (some ⟨M, 0, none⟩), .pointer (some ⟨C, 0, none⟩), .pointer (some ⟨B, 0, none⟩)] w fun e w' => e = .returned (.tuple #[.agg #[.int .i64 0, .int .u32 0], .int .i64 8]) ∧ Only [A, M] w w' := by
  by_cases hf : 1 = n ∨ ¬ (2 ≤ L ∧ L ≤ n)
  · exact (mt_far w A M C B L 1 n t hL h0 hm hf).mono fun e w' hh => ⟨hh.1, Only.of_below hh.2⟩
  · have h1 : 1 ≠ n ∧ 2 ≤ L ∧ L ≤ n := by omega
    have hfr : isFree (P L) = false := by
      cases hq : isFree (P L) with
      | false => rfl
      | true => exact absurd ⟨h1, hq⟩ hok
    exact (mt_meet w A M C B L 1 n t pm ht hL hm h1.1 h1.2.1 h1.2.2 (by omega)).mono fun e w' hh => ⟨(hh.2 hfr).1, (hh.2 hfr).2.2⟩
set_option maxRecDepth 20000 in
set_option maxHeartbeats 2000000 in
theorem take_bad (w : World) (t pm n : Nat) {P : Nat → List UInt8} {K L : Nat} {N : Nat → Nat} (h : Ld sv w t pm n P K L N) (h0 : L ≠ 0) (hok : ¬ ((1 ≠ n ∧ 2 ≤ L ∧ L ≤ n) ∧ isFree (P L) = true)) : Calls Tryz.prog 119 #[.pointer (some ⟨t, 0, none⟩)] w fun e w' => e = .returned (.tuple #[.int .i64 0, .int .i64 8]) ∧ Below w.heap.size w w' := by
  have HF := hide (firstToChange_e w _ _ 0 h.fc)
  have HI := hide (sizeF L N)
  have HSz := hide (size_fst L 0 N zN)
  have HOn := hide (fstL_one L N)
  have HFn := hide fst_new
  have HMe := hide (fun X (hb : Below w.heap.size w X) => meeting_e X t pm n (h.tr.later hb) L)
  have HMt := hide (fun X A M C B (hb : Below w.heap.size w X) (hm : MtB X A M C B L 1 n t) => mt_bad1 X A M C B L n t pm (h.tr.later hb) h.lk hm h0 hok)
  have HIr := hide infoFr
  have HFr := hide (fun V => Blk.new V #[.int .i64 0, .int .u32 0] 111)
  clear h hok
  go_enter Tryz.func119, Tryz.ntmps119
  go_wp2_with (first
    | (go_at_call 113; (with_reducible refine Calls.mono HF.out ?_); rintro e w4 ⟨rfl, hb⟩; have HB4 := hide (below_trans hb (below_alloc w4 (.cells #[.int .u32 0, .int .u32 0, .int .u32 0, .int .u32 0, .int .u32 0, .int .u32 0, .int .u32 0, .int .u32 0, .int .u32 0] 105))); have HF4 := hide (HFn.out w4); have HS4 := hide hb.size; clear hb)
    | ((with_reducible refine atSt 105 ?_); refine wp_storeB (c := (fstL L N).toArray) HI.out HSz.out HOn.out HF4.out _ _ (by rfl) (by rfl) (by rfl) (by rfl) ?_; intro W5 hb5 ho5; have c5 := FstB.link hb5; have HB5 := hide (below_only1 HB4.out ho5 HS4.out); clear hb5 ho5)
    | (go_at_call 51; (with_reducible refine Calls.mono (HMe.out _ HB5.out) ?_); rintro e w6 ⟨A, M, C, B, rfl, hm, hb, hA, hM, _⟩; have HM6 := hide hm; have HA6 := hide (And.intro hA hM); have HB6 := hide (below_trans HB5.out hb); clear hm hb hA hM)
    | (go_at_call 122; (with_reducible refine Calls.mono (HMt.out _ _ _ _ _ HB6.out HM6.out) ?_); rintro e w7 ⟨rfl, ho⟩; have hb := below_only HB6.out ho (two_in (Nat.le_trans HB5.out.size HA6.out.1) (Nat.le_trans HB5.out.size HA6.out.2)); have HS7 := hide hb.size; have HB7 := hide (below_trans hb (below_alloc w7 (.cells #[.int .i64 0, .int .u32 0] 111))); clear hb ho)
    | ((with_reducible refine atSt 111 ?_); refine wp_storeB (c := #[.int .i64 0, .int .u32 0]) (z := #[.int .i64 0, .int .u32 0]) HIr.out rfl (fr_one _ _) (HFr.out _) _ _ (by rfl) (by rfl) (by rfl) (by rfl) ?_; intro W8 hb8 ho8; have HB8 := hide (below_only1 HB7.out ho8 HS7.out); clear hb8 ho8))
  go_ret2
  exact ⟨rfl, HB8.out⟩
end Go.Proofs.YthgclfhfipfknaaGreat

namespace Go.Proofs.YthgclfhfipfknaaGreat
variable {sv : Value}
open Go.ChangeShapes Go.WideShapes Go.ChangeAt Go.RowKit Go.Maps
set_option linter.unusedVariables false

end Go.Proofs.YthgclfhfipfknaaGreat

namespace Go.Proofs.YthgclfhfipfknaaGreat
variable {sv : Value}
open Go.ChangeShapes Go.WideShapes Go.ChangeAt Go.RowKit Go.Maps
set_option linter.unusedVariables false

theorem lt8m {i : Nat} (h : i < 8) : i = 0 ∨ i = 1 ∨ i = 2 ∨ i = 3 ∨ i = 4 ∨ i = 5 ∨ i = 6 ∨ i = 7 := by omega
def spL (d : Bool) (c : Int) (f : Value) (N : Nat → Nat) : List Value := .bool d :: .int .i64 c :: f :: nmL N
theorem spL_len (d : Bool) (c : Int) (f : Value) (N : Nat → Nat) : (spL d c f N).length = 11 := rfl
def SpB (w : World) (b : Nat) (d : Bool) (c : Int) (f : Value) (N : Nat → Nat) : Prop := Blk w b (spL d c f N).toArray 31
theorem infoSp (d : Bool) (c : Int) (f : Value) (N : Nat → Nat) : (Tryz.prog.info? 31).map (·.size) = some (spL d c f N).toArray.size := by
  have : (Tryz.prog.info? 31).map (·.size) = some 11 := by kernel_rfl
  exact this
theorem uSp : ∃ d, Tryz.prog.underlying 31 = some d ∧ d.isRow = true := ⟨_, Tryz.underlying31, rfl⟩
theorem sp_one (d : Bool) (c : Int) (p : Option Addr) (l k : Nat) (N : Nat → Nat) : (spL d c (.slice p l k) N).toArray.all (·.oneCell') = true := all_oneCell_toArray (by
  intro v hv
  simp only [spL, nmL, List.mem_cons, List.mem_map] at hv
  rcases hv with rfl | rfl | rfl | ⟨i, _, rfl⟩ <;> rfl)
theorem sp_size (d d' : Bool) (c c' : Int) (f f' : Value) (N N' : Nat → Nat) : (spL d c f N).toArray.size = (spL d' c' f' N').toArray.size := rfl
theorem SpB.c0 {w : World} {b : Nat} {d : Bool} {c : Int} {f : Value} {N : Nat → Nat} (h : SpB w b d c f N) : w.cell? ⟨b, 0, none⟩ = some (.bool d) := Blk.cell h 0
theorem SpB.c1 {w : World} {b : Nat} {d : Bool} {c : Int} {f : Value} {N : Nat → Nat} (h : SpB w b d c f N) : w.cell? ⟨b, 1, none⟩ = some (.int .i64 c) := Blk.cell h 1
theorem SpB.c2 {w : World} {b : Nat} {d : Bool} {c : Int} {f : Value} {N : Nat → Nat} (h : SpB w b d c f N) : w.cell? ⟨b, 2, none⟩ = some f := Blk.cell h 2
theorem SpB.num {w : World} {b i : Nat} {d : Bool} {c : Int} {f : Value} {N : Nat → Nat} (h : SpB w b d c f N) (hi : i < 8) : w.cell? ⟨b, 3 + i, none⟩ = some (.int .u32 (N i : Int)) := by
  rw [Blk.cell h]
  rcases lt8m hi with rfl | rfl | rfl | rfl | rfl | rfl | rfl | rfl <;> rfl
theorem SpB.later {w w' : World} {b : Nat} {d : Bool} {c : Int} {f : Value} {N : Nat → Nat} (h : SpB w b d c f N) (hb : Below w.heap.size w w') : SpB w' b d c f N := Blk.later h hb
/-- A row of free pages as the document has it. -/
def FrP (w : World) (p : Option Addr) (cap : Nat) (G : List Nat) : Prop := G.length ≤ cap ∧ (p = none → G = [] ∧ cap = 0) ∧ (0 < G.length → ∃ b o, p = some ⟨b, o, none⟩ ∧ (∃ c, Blk w b c 3) ∧ ∀ (j x : Nat), G[j]? = some x → w.cell? ⟨b, o + j, none⟩ = some (.int .i64 (x : Int)))
theorem FrP.later {w w' : World} {p : Option Addr} {cap : Nat} {G : List Nat} (h : FrP w p cap G) (hb : Below w.heap.size w w') : FrP w' p cap G :=
  ⟨h.1, h.2.1, fun h0 => let ⟨b, o, e, ⟨c, hc⟩, g⟩ := h.2.2 h0; ⟨b, o, e, ⟨c, hc.later hb⟩, fun j x hj => cell_later1 hb (g j x hj)⟩⟩
theorem FrP.only {w w' : World} {p : Option Addr} {cap : Nat} {G : List Nat} (h : FrP w p cap G) {X : List Nat} (ho : Only X w w') (hX : ∀ b ∈ X, ∀ c, ¬ Blk w b c 3) : FrP w' p cap G :=
  ⟨h.1, h.2.1, fun h0 => by
    obtain ⟨b, o, e, ⟨c, hc⟩, g⟩ := h.2.2 h0
    have hc' := hc.only ho (fun hb => hX b hb c hc)
    exact ⟨b, o, e, ⟨c, hc'⟩, fun j x hj => by rw [hc'.cell]; have := g j x hj; rwa [hc.cell] at this⟩⟩
theorem zSp (w : World) : SpB (w.alloc (.cells #[.bool false, .int .i64 0, .slice none 0 0, .int .u32 0, .int .u32 0, .int .u32 0, .int .u32 0, .int .u32 0, .int .u32 0, .int .u32 0, .int .u32 0] 31)) w.heap.size false 0 (.slice none 0 0) zN := Blk.new w _ _
/-- A Space that comes back with two numbers. -/
theorem ret_sp3 {W : World} {g j k l : Nat} {t : TypeId} {c : Array Value} {v u : Value} (hi : (Tryz.prog.info? t).map (·.size) = some c.size) (hu : ∃ d, Tryz.prog.underlying t = some d ∧ d.isRow = true) {fn : Func} (hres : fn.results = #[.cell j t, .tmp k, .tmp l]) {tmps : Array Value} (ht : tmps.getD j undef = .pointer (some ⟨g, 0, none⟩)) (hv : tmps.getD k undef = v) (hw : tmps.getD l undef = u)
    (hg : Blk W g c t) {R : Ending → World → Prop} (h : R (.returned (.tuple #[.agg c, v, u])) W) : bodyPost Tryz.prog fn R Exit.ret { tmps := tmps, defers := [] } W := by
  obtain ⟨d, hd, hr⟩ := hu
  have hld := run_loadVar_mid (P := Tryz.prog) W g 0 t c.toList d hg.range hd hr (by simpa using hi)
  refine bodyPost_ret (v := .tuple #[.agg c, v, u]) ?_ rfl h
  have ht' : tmps[j]?.getD undef = .pointer (some ⟨g, 0, none⟩) := by simpa using ht
  have hv' : tmps[k]?.getD undef = v := by simpa using hv
  have hw' : tmps[l]?.getD undef = u := by simpa using hw
  simp [results, hres, ht', hv', hw', asAddr, hld]
end Go.Proofs.YthgclfhfipfknaaGreat

namespace Go.Proofs.YthgclfhfipfknaaGreat
variable {sv : Value}
open Go.ChangeShapes Go.WideShapes Go.ChangeAt Go.RowKit Go.Maps
set_option linter.unusedVariables false

/-- The two blocks that the document's functions begin with. -/
theorem two_sp (w : World) (d : Bool) (c : Int) (f : Value) (N : Nat → Nat) : ∃ W, W = (w.alloc (.cells (spL d c f N).toArray 31)).alloc (.cells #[.bool false, .int .i64 0, .slice none 0 0, .int .u32 0, .int .u32 0, .int .u32 0, .int .u32 0, .int .u32 0, .int .u32 0, .int .u32 0, .int .u32 0] 31) ∧ SpB W w.heap.size d c f N ∧ SpB W (w.heap.size + 1) false 0 (.slice none 0 0) zN ∧ Below w.heap.size w W := by
  refine ⟨_, rfl, Blk.later (Blk.new w _ _) (below_alloc _ _), ?_, below_trans (below_alloc _ _) (below_alloc _ _)⟩
  have := zSp (w.alloc (.cells (spL d c f N).toArray 31))
  rwa [show (w.alloc (.cells (spL d c f N).toArray 31)).heap.size = w.heap.size + 1 by simp] at this
theorem SpB.setF {w : World} {b : Nat} {d : Bool} {c : Int} {f : Value} {N : Nat → Nat} (h : SpB w b d c f N) (v : Value) : SpB (w.setCell ⟨b, 2, none⟩ v) b d c v N := Blk.set h 2 v
theorem SpB.setC {w : World} {b : Nat} {d : Bool} {c : Int} {f : Value} {N : Nat → Nat} (h : SpB w b d c f N) (k : Int) : SpB (w.setCell ⟨b, 1, none⟩ (.int .i64 k)) b d k f N := Blk.set h 1 _
theorem SpB.far {w : World} {b a o : Nat} {d : Bool} {c : Int} {f : Value} {N : Nat → Nat} (h : SpB w b d c f N) (hn : b ≠ a) (v : Value) : SpB (w.setCell ⟨a, o, none⟩ v) b d c f N := Blk.setOther h hn o v
set_option maxRecDepth 20000 in
theorem rtake_bad (w : World) (c : Int) (p : Option Addr) (l cap : Nat) (N : Nat → Nat) : Calls Tryz.prog 14 #[.agg (spL false c (.slice p l cap) N).toArray] w fun e w' => e = .returned (.tuple #[.agg (spL false c (.slice p l cap) N).toArray, .int .i64 0, .int .i64 8]) ∧ Below w.heap.size w w' := by
  obtain ⟨W, hW, k1, k2, hb⟩ := two_sp w false c (.slice p l cap) N
  have c0 := k1.c0
  have HI := hide (infoSp false c (.slice p l cap) N)
  have HSz := hide (sp_size false false c 0 (.slice p l cap) (.slice none 0 0) N zN)
  have HOn := hide (sp_one false c p l cap N)
  have HK1 := hide k1
  have HK2 := hide k2
  have HB := hide hb
  have HWn := hide (show w.heap.size ≤ w.heap.size + 1 by omega)
  clear k1 k2 hb
  go_enter Tryz.func14, Tryz.ntmps14
  go_upto_region 1 with fail
  rw [← hW]
  clear hW
  go_wp2_with (first
    | ((with_reducible refine atLd 31 ?_); refine wp_loadB (c := (spL false c (.slice p l cap) N).toArray) HI.out uSp HK1.out _ (by rfl) (by rfl) (by rfl) ?_)
    | ((with_reducible refine atSt 31 ?_); refine wp_storeB (c := (spL false c (.slice p l cap) N).toArray) HI.out HSz.out HOn.out HK2.out _ _ (by rfl) (by rfl) (by rfl) (by rfl) ?_; intro W5 hb5 ho5; have HF5 := hide hb5; have HB5 := hide (below_only1 HB.out ho5 HWn.out); clear hb5 ho5))
  refine ret_sp3 (c := (spL false c (.slice p l cap) N).toArray) HI.out uSp Tryz.results14 (by rfl) (by rfl) (by rfl) HF5.out ?_
  exact ⟨rfl, HB5.out⟩
set_option maxRecDepth 20000 in
set_option maxHeartbeats 1000000 in
theorem rtake_some (w : World) (c : Int) (b o cap : Nat) (g : Nat) (G : List Nat) (N : Nat → Nat) (hf : FrP w (some ⟨b, o, none⟩) cap (g :: G)) (hG : G.length ≤ 5000) : Calls Tryz.prog 14 #[.agg (spL true c (.slice (some ⟨b, o, none⟩) (G.length + 1) cap) N).toArray] w fun e w' => ∃ p', e = .returned (.tuple #[.agg (spL true c (.slice p' G.length (cap - 1)) N).toArray, .int .i64 (g : Int), .int .i64 0]) ∧ FrP w' p' (cap - 1) G ∧ Below w.heap.size w w' := by
  obtain ⟨W, hW, k1, k2, hb⟩ := two_sp w true c (.slice (some ⟨b, o, none⟩) (G.length + 1) cap) N
  obtain ⟨q, hq⟩ : ∃ q : Option Addr, q = (if cap = 1 then some ⟨b, o, none⟩ else some ⟨b, o + 1, none⟩) := ⟨_, rfl⟩
  have hcap : G.length + 1 ≤ cap := hf.1
  have hfr : FrP w q (cap - 1) G := by
    refine ⟨by omega, (fun hn => by rw [hq] at hn; split at hn <;> cases hn), fun h0 => ?_⟩
    obtain ⟨b', o', e, hc, hg⟩ := hf.2.2 (by simp)
    simp only [Option.some.injEq, Addr.mk.injEq] at e
    obtain ⟨rfl, rfl, _⟩ := e
    refine ⟨b, o + 1, by rw [hq, if_neg (by omega)], hc, fun j x hj => ?_⟩
    have := hg (j + 1) x (by simpa using hj)
    rw [show o + 1 + j = o + (j + 1) by omega]
    exact this
  have c0 := k1.c0
  have c2 := k1.c2
  have f2 := Blk.frozen k1 2
  have cg : W.cell? ⟨b, o, none⟩ = some (.int .i64 (g : Int)) := by
    obtain ⟨b', o', e, hc, hg⟩ := (hf.later hb).2.2 (by simp)
    simp only [Option.some.injEq, Addr.mk.injEq] at e
    obtain ⟨rfl, rfl, _⟩ := e
    exact hg 0 g rfl
  have HI := hide (infoSp true c (.slice q G.length (cap - 1)) N)
  have HSz := hide (sp_size true false c 0 (.slice q G.length (cap - 1)) (.slice none 0 0) N zN)
  have HOn := hide (sp_one true c q G.length (cap - 1) N)
  have HK1 := hide (k1.setF (.slice q G.length (cap - 1)))
  have HK2 := hide (k2.far (a := w.heap.size) (o := 2) (by omega) (.slice q G.length (cap - 1)))
  have HB := hide (hb.setCell (p := ⟨w.heap.size, 2, none⟩) (Nat.le_refl _) (.slice q G.length (cap - 1)))
  have HFr := hide hfr
  have HWn := hide (show w.heap.size ≤ w.heap.size + 1 by omega)
  have l1 : (0 : Int) < (G.length : Int) + 1 := by omega
  have l2 : (1 : Int) ≤ (G.length : Int) + 1 := by omega
  have l3 : (G.length : Int) + 1 ≤ (cap : Int) := by omega
  have l4 : (1 : Int) ≤ (cap : Int) := by omega
  clear k1 k2 hb hf hG hfr
  have HCp := hide hcap
  clear hcap
  go_enter Tryz.func14, Tryz.ntmps14
  go_upto_region 1 with fail
  rw [← hW]
  clear hW
  by_cases hc1 : cap = 1
  · rw [if_pos hc1] at hq
    subst hq
    subst hc1
    obtain rfl : G = [] := List.eq_nil_of_length_eq_zero (by have := HCp.out; omega)
    simp only [Nat.sub_self, List.length_nil] at HI HSz HOn HK1 HK2 HB HFr
    clear l1 l2 l3 l4
    go_wp2_with (first
      | ((with_reducible refine atLd 31 ?_); refine wp_loadB (c := (spL true c (.slice (some ⟨b, o, none⟩) 0 0) N).toArray) HI.out uSp HK1.out _ (by rfl) (by rfl) (by rfl) ?_)
      | ((with_reducible refine atSt 31 ?_); refine wp_storeB (c := (spL true c (.slice (some ⟨b, o, none⟩) 0 0) N).toArray) HI.out HSz.out HOn.out HK2.out _ _ (by rfl) (by rfl) (by rfl) (by rfl) ?_; intro W5 hb5 ho5; have HF5 := hide hb5; have HB5 := hide (below_only1 HB.out ho5 HWn.out); clear hb5 ho5))
    refine ret_sp3 (c := (spL true c (.slice (some ⟨b, o, none⟩) 0 0) N).toArray) HI.out uSp Tryz.results14 (by rfl) (by rfl) (by rfl) HF5.out ?_
    exact ⟨_, rfl, HFr.out.later HB5.out, HB5.out⟩
  · rw [if_neg hc1] at hq
    subst hq
    go_wp2_with (first
      | ((with_reducible refine atLd 31 ?_); refine wp_loadB (c := (spL true c (.slice (some ⟨b, o + 1, none⟩) G.length (cap - 1)) N).toArray) HI.out uSp HK1.out _ (by rfl) (by rfl) (by rfl) ?_)
      | ((with_reducible refine atSt 31 ?_); refine wp_storeB (c := (spL true c (.slice (some ⟨b, o + 1, none⟩) G.length (cap - 1)) N).toArray) HI.out HSz.out HOn.out HK2.out _ _ (by rfl) (by rfl) (by rfl) (by rfl) ?_; intro W5 hb5 ho5; have HF5 := hide hb5; have HB5 := hide (below_only1 HB.out ho5 HWn.out); clear hb5 ho5))
    refine ret_sp3 (c := (spL true c (.slice (some ⟨b, o + 1, none⟩) G.length (cap - 1)) N).toArray) HI.out uSp Tryz.results14 (by rfl) (by rfl) (by rfl) HF5.out ?_
    exact ⟨_, rfl, HFr.out.later HB5.out, HB5.out⟩
end Go.Proofs.YthgclfhfipfknaaGreat

namespace Go.Proofs.YthgclfhfipfknaaGreat
variable {sv : Value}
open Go.ChangeShapes Go.WideShapes Go.ChangeAt Go.RowKit Go.Maps
set_option linter.unusedVariables false

theorem SpB.rng {w : World} {b : Nat} {d : Bool} {c : Int} {f : Value} {N : Nat → Nat} (h : SpB w b d c f N) : w.rangeAt b 0 (spL d c f N) := by
  have := Blk.range h
  simpa using this
set_option maxRecDepth 20000 in
set_option maxHeartbeats 1000000 in
theorem rtake_more (w : World) (c : Nat) (p : Option Addr) (cap : Nat) (N : Nat → Nat) (hc : c < 4096) : Calls Tryz.prog 14 #[.agg (spL true (c : Int) (.slice p 0 cap) N).toArray] w fun e w' => e = .returned (.tuple #[.agg (spL true ((c : Int) + 1) (.slice p 0 cap) N).toArray, .int .i64 ((c : Int) + 1), .int .i64 0]) ∧ Below w.heap.size w w' := by
  obtain ⟨W, hW, k1, k2, hb⟩ := two_sp w true (c : Int) (.slice p 0 cap) N
  have c0 := k1.c0
  have c1 := k1.c1
  have c2 := k1.c2
  have f1 := Blk.frozen k1 1
  have HI := hide (infoSp true ((c : Int) + 1) (.slice p 0 cap) N)
  have HSz := hide (sp_size true false ((c : Int) + 1) 0 (.slice p 0 cap) (.slice none 0 0) N zN)
  have HOn := hide (sp_one true ((c : Int) + 1) p 0 cap N)
  have HK1 := hide (k1.setC ((c : Int) + 1))
  have HK2 := hide (k2.far (a := w.heap.size) (o := 1) (by omega) (.int .i64 ((c : Int) + 1)))
  have HB := hide (hb.setCell (p := ⟨w.heap.size, 1, none⟩) (Nat.le_refl _) (.int .i64 ((c : Int) + 1)))
  have hw1 : IntKind.i64.wrap ((c : Int) + 1) = (c : Int) + 1 := by rw [IntKind.wrap_i64]; omega
  have l1 : ¬ (4096 : Int) ≤ (c : Int) := by omega
  have HWn := hide (show w.heap.size ≤ w.heap.size + 1 by omega)
  have HNe := hide (show w.heap.size ∉ [w.heap.size + 1] by simp)
  clear k1 k2 hb hc
  go_enter Tryz.func14, Tryz.ntmps14
  go_upto_region 1 with fail
  rw [← hW]
  clear hW
  go_upto_region 10 with fail
  generalize W.setCell ⟨w.heap.size, 1, none⟩ (.int .i64 ((c : Int) + 1)) = W2 at HK1 HK2 HB ⊢
  have hK1d : SpB W2.drew w.heap.size true ((c : Int) + 1) (.slice p 0 cap) N := HK1.out
  refine wp_region_held_drew (S := fun V => SpB V w.heap.size true ((c : Int) + 1) (.slice p 0 cap) N) (by kernel_rfl) hK1d (fun hHeld => ?_)
  refine wpAnyH_take (i := 0) (v := .agg (spL true ((c : Int) + 1) (.slice p 0 cap) N).toArray) rfl (by kernel_rfl) (by kernel_rfl) (by kernel_rfl) (fun _ _ _ h => h) (yieldsIf_load_mid (by rfl) _ _ rfl _ _ rfl _ _ (fun V hV => SpB.rng hV) Tryz.underlying31 rfl HI.out) hHeld ?_
  try simp only [Act.put, List.getElem_toArray, List.getElem_cons_zero, List.setIfInBounds_toArray, List.set_cons_zero, List.set_cons_succ]
  refine wpAnyH_take (i := 1) (v := .pointer (some ⟨w.heap.size, 1, none⟩)) rfl (by kernel_rfl) (by kernel_rfl) (by kernel_rfl) (fun _ _ _ h => h) (Or.inl ⟨by rfl, fun V hV => by (try dsimp only at hV); go_simp⟩) hHeld ?_
  try simp only [Act.put, List.getElem_toArray, List.getElem_cons_succ, List.getElem_cons_zero, List.setIfInBounds_toArray, List.set_cons_zero, List.set_cons_succ]
  refine wpAnyH_take (i := 2) (v := .int .i64 ((c : Int) + 1)) rfl (by kernel_rfl) (by kernel_rfl) (by kernel_rfl) (fun _ _ _ h => h) (Or.inl ⟨by rfl, fun V hV => by have := SpB.c1 hV; go_simp⟩) hHeld ?_
  try simp only [Act.put, List.getElem_toArray, List.getElem_cons_succ, List.getElem_cons_zero, List.setIfInBounds_toArray, List.set_cons_zero, List.set_cons_succ]
  refine wpAnyH_ready (rs := [3]) (by kernel_rfl) (by simp) ?_
  refine AllReadyH.cons rfl (fun KK hKK => ?_) AllReadyH.nil
  refine step_storeB (c := (spL true ((c : Int) + 1) (.slice p 0 cap) N).toArray) (z := (spL false 0 (.slice none 0 0) zN).toArray) HI.out HSz.out HOn.out HK2.out _ _ (by rfl) (by rfl) (by rfl) (by rfl) ?_
  intro W5 hb5 ho5
  have HF5 := hide hb5
  have HB5 := hide (below_only1 (below_trans HB.out (below_drew _)) ho5 HWn.out)
  refine hKK.out _ _ (Blk.only hK1d ho5 HNe.out) (fun hHeld => ?_)
  clear hKK KK ho5 hb5
  try simp only [Act.put, List.getElem_toArray, List.getElem_cons_succ, List.getElem_cons_zero]
  refine wpAnyH_take (i := 4) (v := .int .i64 ((c : Int) + 1)) rfl (by kernel_rfl) (by kernel_rfl) (by kernel_rfl) (fun _ _ _ h => h) (Or.inl ⟨by rfl, fun V hV => by (try dsimp only at hV); go_simp⟩) hHeld ?_
  try simp only [Act.put, List.getElem_toArray, List.getElem_cons_succ, List.getElem_cons_zero, List.setIfInBounds_toArray, List.set_cons_zero, List.set_cons_succ]
  refine wpAnyH_take (i := 5) (v := .int .i64 0) rfl (by kernel_rfl) (by kernel_rfl) (by kernel_rfl) (fun _ _ _ h => h) (Or.inl ⟨by rfl, fun V hV => by (try dsimp only at hV); go_simp⟩) hHeld ?_
  try simp only [Act.put, List.getElem_toArray, List.getElem_cons_succ, List.getElem_cons_zero, List.setIfInBounds_toArray, List.set_cons_zero, List.set_cons_succ]
  refine wpAnyH_done (by kernel_rfl) ?_ _
  clear hHeld
  go_wp2_with fail
  refine ret_sp3 (c := (spL true ((c : Int) + 1) (.slice p 0 cap) N).toArray) HI.out uSp Tryz.results14 (by rfl) (by rfl) (by rfl) HF5.out ?_
  exact ⟨rfl, HB5.out⟩
end Go.Proofs.YthgclfhfipfknaaGreat

namespace Go.Proofs.YthgclfhfipfknaaGreat
variable {sv : Value}
open Go.ChangeShapes Go.WideShapes Go.ChangeAt Go.RowKit Go.Maps
set_option linter.unusedVariables false

set_option maxRecDepth 20000 in
theorem rgive_bad (w : World) (c x : Int) (p : Option Addr) (l cap : Nat) (N : Nat → Nat) : Calls Tryz.prog 10 #[.agg (spL false c (.slice p l cap) N).toArray, .int .i64 x] w fun e w' => e = .returned (.tuple #[.agg (spL false c (.slice p l cap) N).toArray, .int .i64 8]) ∧ Below w.heap.size w w' := by
  obtain ⟨W, hW, k1, k2, hb⟩ := two_sp w false c (.slice p l cap) N
  have c0 := k1.c0
  have HI := hide (infoSp false c (.slice p l cap) N)
  have HSz := hide (sp_size false false c 0 (.slice p l cap) (.slice none 0 0) N zN)
  have HOn := hide (sp_one false c p l cap N)
  have HK1 := hide k1
  have HK2 := hide k2
  have HB := hide hb
  have HWn := hide (show w.heap.size ≤ w.heap.size + 1 by omega)
  clear k1 k2 hb
  go_enter Tryz.func10, Tryz.ntmps10
  go_upto_region 1 with fail
  rw [← hW]
  clear hW
  go_wp2_with (first
    | ((with_reducible refine atLd 31 ?_); refine wp_loadB (c := (spL false c (.slice p l cap) N).toArray) HI.out uSp HK1.out _ (by rfl) (by rfl) (by rfl) ?_)
    | ((with_reducible refine atSt 31 ?_); refine wp_storeB (c := (spL false c (.slice p l cap) N).toArray) HI.out HSz.out HOn.out HK2.out _ _ (by rfl) (by rfl) (by rfl) (by rfl) ?_; intro W5 hb5 ho5; have HF5 := hide hb5; have HB5 := hide (below_only1 HB.out ho5 HWn.out); clear hb5 ho5))
  refine ret_blk2 (c := (spL false c (.slice p l cap) N).toArray) HI.out uSp Tryz.results10 (by rfl) (by rfl) HF5.out ?_
  exact ⟨rfl, HB5.out⟩
set_option maxRecDepth 20000 in
theorem rgive_arg (w : World) (c x : Int) (p : Option Addr) (l cap : Nat) (N : Nat → Nat) (hx : mbF x c = false) : Calls Tryz.prog 10 #[.agg (spL true c (.slice p l cap) N).toArray, .int .i64 x] w fun e w' => e = .returned (.tuple #[.agg (spL true c (.slice p l cap) N).toArray, .int .i64 2]) ∧ Below w.heap.size w w' := by
  obtain ⟨W, hW, k1, k2, hb⟩ := two_sp w true c (.slice p l cap) N
  have c0 := k1.c0
  have c1 := k1.c1
  have HI := hide (infoSp true c (.slice p l cap) N)
  have HSz := hide (sp_size true false c 0 (.slice p l cap) (.slice none 0 0) N zN)
  have HOn := hide (sp_one true c p l cap N)
  have HK1 := hide k1
  have HK2 := hide k2
  have HB := hide hb
  have HWn := hide (show w.heap.size ≤ w.heap.size + 1 by omega)
  have hx' : x < 2 ∨ (¬ x < 2 ∧ c < x) := by
    have := of_decide_eq_false hx
    omega
  clear k1 k2 hb hx
  rcases hx' with hx1 | ⟨hx1, hx2⟩
  all_goals
    go_enter Tryz.func10, Tryz.ntmps10
    go_upto_region 1 with fail
    rw [← hW]
    clear hW
    go_wp2_with (first
      | ((with_reducible refine atLd 31 ?_); refine wp_loadB (c := (spL true c (.slice p l cap) N).toArray) HI.out uSp HK1.out _ (by rfl) (by rfl) (by rfl) ?_)
      | ((with_reducible refine atSt 31 ?_); refine wp_storeB (c := (spL true c (.slice p l cap) N).toArray) HI.out HSz.out HOn.out HK2.out _ _ (by rfl) (by rfl) (by rfl) (by rfl) ?_; intro W5 hb5 ho5; have HF5 := hide hb5; have HB5 := hide (below_only1 HB.out ho5 HWn.out); clear hb5 ho5))
    refine ret_blk2 (c := (spL true c (.slice p l cap) N).toArray) HI.out uSp Tryz.results10 (by rfl) (by rfl) HF5.out ?_
    exact ⟨rfl, HB5.out⟩
/-- A row that is owned as a row of free pages. -/
theorem frp_own {w : World} {base n cap : Nat} {p : Option Addr} {G : List Nat} (h : w.ownsRow base 3 1 (.slice p G.length cap) G.length (inL G)) : FrP w p cap G := by
  have h1 := h.1
  rcases h.2 with ⟨e, h0⟩ | ⟨g, cap', cur, e, hb, hh, hn, hm, hs, ht⟩
  · injection e with e1 e2 e3
    subst e1
    have : G = [] := List.eq_nil_of_length_eq_zero h0
    subst this
    exact ⟨by simp, fun _ => ⟨rfl, e3⟩, fun h => by simp at h⟩
  · injection e with e1 e2 e3
    subst e1; subst e3
    refine ⟨hn, (fun h => by cases h), fun _ => ⟨g, 0, rfl, ⟨cur, hh⟩, fun j x hj => ?_⟩⟩
    have hlt : j < G.length := (List.getElem?_eq_some_iff.1 hj).1
    have := h.cellAt j (by omega)
    rw [Nat.zero_add, this]
    simp [inL, hj]
/-- What Give of the document leaves. -/
structure RgW (w w' : World) (p' : Option Addr) (cap' : Nat) (G : List Nat) : Prop where
  fr : FrP w' p' cap' G
  bel : Below w.heap.size w w'
theorem one_own (W : World) (x : Nat) : (W.alloc (.cells #[.int .i64 (x : Int)] 3)).ownsRow W.heap.size 3 1 (.slice (some ⟨W.heap.size, 0, none⟩) 1 1) 1 (inL [x]) :=
  ⟨rfl, .inr ⟨W.heap.size, 1, #[.int .i64 (x : Int)], rfl, Nat.le_refl _, Blk.new _ _ _, Nat.le_refl _, by simp [maxLen], rfl, rfl⟩⟩
set_option maxRecDepth 20000 in
set_option maxHeartbeats 2000000 in
theorem rgive_cons (w : World) (c x : Nat) (b o cap : Nat) (g : Nat) (G : List Nat) (N : Nat → Nat) (hf : FrP w (some ⟨b, o, none⟩) cap (g :: G)) (hG : G.length ≤ 5000) (h1 : 2 ≤ x) (h2 : x ≤ c) : Calls Tryz.prog 10 #[.agg (spL true (c : Int) (.slice (some ⟨b, o, none⟩) (G.length + 1) cap) N).toArray, .int .i64 (x : Int)] w fun e w' => ∃ p' cap', e = .returned (.tuple #[.agg (spL true (c : Int) (.slice p' (G.length + 2) cap') N).toArray, .int .i64 0]) ∧ RgW w w' p' cap' (x :: g :: G) := by
  obtain ⟨W, hW, k1, k2, hb⟩ := two_sp w true (c : Int) (.slice (some ⟨b, o, none⟩) (G.length + 1) cap) N
  have c0 := k1.c0
  have c1 := k1.c1
  have HK := hide (fun V (hv : Below W.heap.size W V) => And.intro (SpB.later k1 hv).c2 (And.intro (Blk.frozen (SpB.later k1 hv) 2) (And.intro (SpB.later k1 hv) (SpB.later k2 hv))))
  have c2a := (HK.out _ (below_alloc W (.cells #[.int .i64 (x : Int)] 3))).1
  have HOw := hide (one_own W x)
  have HNw := hide (fun j u (hj : (inL (g :: G))[j]? = some u) => (show (W.alloc (.cells #[.int .i64 (x : Int)] 3)).cell? ((⟨b, o, none⟩ : Addr).add j) = some u by
    obtain ⟨b', o', e, hc, hg⟩ := ((hf.later hb).later (below_alloc W (.cells #[.int .i64 (x : Int)] 3))).2.2 (by simp)
    simp only [Option.some.injEq, Addr.mk.injEq] at e
    obtain ⟨rfl, rfl, _⟩ := e
    rw [add_plain]
    simp only [inL, List.getElem?_map] at hj
    cases hq : (g :: G)[j]? with
    | none => rw [hq] at hj; cases hj
    | some y =>
      rw [hq] at hj
      simp only [Option.map_some, Option.some.injEq] at hj
      subst hj
      exact hg j y hq))
  have HN1 : Hid (∀ u ∈ inL (g :: G), u.oneCell' = true) := hide (fun u hu => by
    simp only [inL, List.mem_map] at hu
    obtain ⟨y, _, rfl⟩ := hu
    rfl)
  have HLn : Hid ((inL (g :: G)).length = (G.length + 1) * 1) := hide (by simp [inL])
  have HBs : Hid ((1 + (G.length + 1)) * 8 ≤ 140737488355328) := hide (by omega)
  have HWs : Hid (W.heap.size ≤ (W.alloc (.cells #[.int .i64 (x : Int)] 3)).heap.size) := hide (below_alloc W _).size
  have HB := hide hb
  have l1 : ¬ (x : Int) < 2 := by omega
  have l2 : ¬ (c : Int) < (x : Int) := by omega
  have HI := hide (fun (f : Value) => infoSp true (c : Int) f N)
  have HOn := hide (fun p l k => sp_one true (c : Int) p l k N)
  have HSz := hide (fun (f : Value) => sp_size true false (c : Int) 0 f (.slice none 0 0) N zN)
  have HWn := hide (show w.heap.size ≤ w.heap.size + 1 by omega)
  have HNe := hide (show w.heap.size + 1 ≠ w.heap.size by omega)
  clear k1 k2 hb hf hG h1 h2
  go_enter Tryz.func10, Tryz.ntmps10
  go_upto_region 1 with fail
  rw [← hW]
  clear hW
  go_wp2_with (first
    | (at_builtin; refine wp_appI HOw.out (m := G.length + 1) (news := inL (g :: G)) HLn.out HNw.out HN1.out HBs.out HWs.out _ _ (by rfl) (by rfl) (by rfl) (by rfl) ?_; intro v5 w5 ho5 hb5; obtain ⟨p5, k5, rfl, _, _, _⟩ := own_formC ho5; have hbl := hb5 _ (below_alloc W (.cells #[.int .i64 (x : Int)] 3)); obtain ⟨c25, f25, q1, q2⟩ := HK.out _ hbl; have HQ1 := hide (q1.setF (.slice p5 (1 + (G.length + 1)) k5)); have HQ2 := hide (SpB.far q2 HNe.out (o := 2) (.slice p5 (1 + (G.length + 1)) k5)); have HSp := hide (And.intro q1 q2); have HO5 := hide ho5; have HB5 := hide (Below.setCell (below_trans HB.out hbl) (p := ⟨w.heap.size, 2, none⟩) (Nat.le_refl _) (.slice p5 (1 + (G.length + 1)) k5)); clear ho5 hb5 hbl q1 q2)
    | ((with_reducible refine atLd 31 ?_); refine wp_loadB (c := (spL true (c : Int) (.slice p5 (1 + (G.length + 1)) k5) N).toArray) (HI.out _) uSp HQ1.out _ (by rfl) (by rfl) (by rfl) ?_)
    | ((with_reducible refine atSt 31 ?_); refine wp_storeB (c := (spL true (c : Int) (.slice p5 (1 + (G.length + 1)) k5) N).toArray) (HI.out _) (HSz.out _) (HOn.out _ _ _) HQ2.out _ _ (by rfl) (by rfl) (by rfl) (by rfl) ?_; intro W6 hb6 ho6; have HF6 := hide hb6; have HO6 := hide ho6; have HB6 := hide (below_only1 HB5.out ho6 HWn.out); clear hb6 ho6))
  refine ret_blk2 (c := (spL true (c : Int) (.slice p5 (1 + (G.length + 1)) k5) N).toArray) (HI.out _) uSp Tryz.results10 (by rfl) (by rfl) HF6.out ?_
  refine ⟨p5, k5, by rw [show 1 + (G.length + 1) = G.length + 2 by omega]; rfl, ?_, HB6.out⟩
  have ho : w5.ownsRow W.heap.size 3 1 (.slice p5 (x :: g :: G).length k5) (x :: g :: G).length (inL (x :: g :: G)) := by
    have := HO5.out
    rw [show 1 + (G.length + 1) = (x :: g :: G).length by simp; omega] at this
    exact this
  refine FrP.only (FrP.only (frp_own (n := 0) ho) (Only.setCell w5 ⟨w.heap.size, 2, none⟩ (.slice p5 (1 + (G.length + 1)) k5)) ?_) HO6.out ?_
  · intro k hk cc hc
    simp at hk
    subst hk
    exact blk_ne HSp.out.1 hc (by decide) rfl
  · intro k hk cc hc
    simp at hk
    subst hk
    exact blk_ne HQ2.out hc (by decide) rfl
set_option maxRecDepth 20000 in
set_option maxHeartbeats 2000000 in
theorem rgive_nil (w : World) (c x : Nat) (p : Option Addr) (cap : Nat) (N : Nat → Nat) (h1 : 2 ≤ x) (h2 : x ≤ c) : Calls Tryz.prog 10 #[.agg (spL true (c : Int) (.slice p 0 cap) N).toArray, .int .i64 (x : Int)] w fun e w' => ∃ p' cap', e = .returned (.tuple #[.agg (spL true (c : Int) (.slice p' 1 cap') N).toArray, .int .i64 0]) ∧ RgW w w' p' cap' [x] := by
  obtain ⟨W, hW, k1, k2, hb⟩ := two_sp w true (c : Int) (.slice p 0 cap) N
  have c0 := k1.c0
  have c1 := k1.c1
  have hv := below_alloc W (.cells #[.int .i64 (x : Int)] 3)
  have c2a := (SpB.later k1 hv).c2
  have f2a := Blk.frozen (SpB.later k1 hv) 2
  have HQ1 := hide ((SpB.later k1 hv).setF (.slice (some ⟨W.heap.size, 0, none⟩) 1 1))
  have HQ2 := hide ((SpB.later k2 hv).far (a := w.heap.size) (o := 2) (by omega) (.slice (some ⟨W.heap.size, 0, none⟩) 1 1))
  have HSp := hide (SpB.later k1 hv)
  have HOw := hide (one_own W x)
  have HB5 := hide ((below_trans hb hv).setCell (p := ⟨w.heap.size, 2, none⟩) (Nat.le_refl _) (.slice (some ⟨W.heap.size, 0, none⟩) 1 1))
  have l1 : ¬ (x : Int) < 2 := by omega
  have l2 : ¬ (c : Int) < (x : Int) := by omega
  have HI := hide (fun (f : Value) => infoSp true (c : Int) f N)
  have HOn := hide (fun p l k => sp_one true (c : Int) p l k N)
  have HSz := hide (fun (f : Value) => sp_size true false (c : Int) 0 f (.slice none 0 0) N zN)
  have HWn := hide (show w.heap.size ≤ w.heap.size + 1 by omega)
  clear k1 k2 hb hv h1 h2
  cases p
  all_goals
    go_enter Tryz.func10, Tryz.ntmps10
    go_upto_region 1 with fail
    rw [← hW]
    clear hW
    go_wp2_with (first
      | ((with_reducible refine atLd 31 ?_); refine wp_loadB (c := (spL true (c : Int) (.slice (some ⟨W.heap.size, 0, none⟩) 1 1) N).toArray) (HI.out _) uSp HQ1.out _ (by rfl) (by rfl) (by rfl) ?_)
      | ((with_reducible refine atSt 31 ?_); refine wp_storeB (c := (spL true (c : Int) (.slice (some ⟨W.heap.size, 0, none⟩) 1 1) N).toArray) (HI.out _) (HSz.out _) (HOn.out _ _ _) HQ2.out _ _ (by rfl) (by rfl) (by rfl) (by rfl) ?_; intro W6 hb6 ho6; have HF6 := hide hb6; have HO6 := hide ho6; have HB6 := hide (below_only1 HB5.out ho6 HWn.out); clear hb6 ho6))
    refine ret_blk2 (c := (spL true (c : Int) (.slice (some ⟨W.heap.size, 0, none⟩) 1 1) N).toArray) (HI.out _) uSp Tryz.results10 (by rfl) (by rfl) HF6.out ?_
    refine ⟨_, 1, rfl, ?_, HB6.out⟩
    refine FrP.only (FrP.only (frp_own (n := 0) (G := [x]) HOw.out) (Only.setCell _ ⟨w.heap.size, 2, none⟩ (.slice (some ⟨W.heap.size, 0, none⟩) 1 1)) ?_) HO6.out ?_
    · intro k hk cc hc
      simp at hk
      subst hk
      exact blk_ne HSp.out hc (by decide) rfl
    · intro k hk cc hc
      simp at hk
      subst hk
      exact blk_ne HQ2.out hc (by decide) rfl
theorem rgive_ok (w : World) (c x : Nat) (p : Option Addr) (cap : Nat) (G : List Nat) (N : Nat → Nat) (hf : FrP w p cap G) (hG : G.length ≤ 5000) (h1 : 2 ≤ x) (h2 : x ≤ c) : Calls Tryz.prog 10 #[.agg (spL true (c : Int) (.slice p G.length cap) N).toArray, .int .i64 (x : Int)] w fun e w' => ∃ p' cap', e = .returned (.tuple #[.agg (spL true (c : Int) (.slice p' (G.length + 1) cap') N).toArray, .int .i64 0]) ∧ RgW w w' p' cap' (x :: G) := by
  cases G with
  | nil => exact rgive_nil w c x p cap N h1 h2
  | cons g G =>
    obtain ⟨b, o, rfl, _⟩ := hf.2.2 (by simp)
    exact rgive_cons w c x b o cap g G N hf (by simp at hG; omega) h1 h2
end Go.Proofs.YthgclfhfipfknaaGreat
