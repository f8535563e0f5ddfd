/- Page; without a disk. -/
/- Some answers that the document fixes. -/
/- Some answers that the document fixes: what is seen, step by step. -/
/- Some answers that the document fixes: what awake's calls answer. -/
import Derived.Test.YtfcgjedanhmpiaaAJN
import Derived.Stop.BytesEq
import Derived.Great.BuildSlice
namespace Go.Proofs.Ytfcgjedanhmpiaa
open Go.ChangeShapes Go.WideShapes Go.ChangeAt Go.RowKit
open Go.ChangeMaps (setBlock)
set_option linter.unusedVariables false

theorem ret_pair {W : World} {g j i : Nat} {t : TypeId} {c : Array Value} (hi : (Try.prog.info? t).map (·.size) = some c.size) (hu : ∃ d, Try.prog.underlying t = some d ∧ d.isRow = true) {fn : Func} (hres : fn.results = #[.cell j t, .tmp i]) {tmps : Array Value} (ht : tmps.getD j undef = .pointer (some ⟨g, 0, none⟩)) {u : Value} (hv : tmps.getD i undef = u)
    (hg : Blk W g c t) {R : Ending → World → Prop} (h : R (.returned (.tuple #[.agg c, u])) W) : bodyPost Try.prog fn R Exit.ret { tmps := tmps, defers := [] } W := by
  obtain ⟨d, hd, hr⟩ := hu
  have hld := run_loadVar_mid (P := Try.prog) W g 0 t c.toList d (range_of_blk hg) hd hr (by simpa using hi)
  refine bodyPost_ret (v := .tuple #[.agg c, u]) ?_ rfl h
  have ht' : tmps[j]?.getD undef = .pointer (some ⟨g, 0, none⟩) := by simpa using ht
  have hu' : tmps[i]?.getD undef = u := by simpa using hv
  simp [results, hres, ht', hu', asAddr, hld]

theorem read_nil (w : World) (nm : ByteArray) (a n : Int) : Calls Try.prog 33 #[.pointer none, .string nm, .int .i64 a, .int .i64 n] w fun e w' => e = .returned (.tuple #[.string ⟨#[]⟩, .int .i64 1]) ∧ w = w' := by
  go_enter Try.func33, Try.ntmps33
  go_wp2_with (go_at_call 44; (with_reducible refine Calls.mono (refusal_nil _) ?_); rintro e w0 ⟨rfl, rfl⟩)
  go_ret2
  exact ⟨rfl, rfl⟩
theorem len_nil (w : World) (nm : ByteArray) : Calls Try.prog 28 #[.pointer none, .string nm] w fun e w' => e = .returned (.int .i64 0) ∧ w = w' := by
  go_enter Try.func28, Try.ntmps28
  go_wp2_with (go_at_call 44; (with_reducible refine Calls.mono (refusal_nil _) ?_); rintro e w0 ⟨rfl, rfl⟩)
  go_ret
  exact ⟨rfl, rfl⟩
theorem count_nil (w : World) : Calls Try.prog 9 #[.pointer none] w fun e w' => e = .returned (.int .i64 0) ∧ w = w' := by
  have HL := hideJ (fun V => len_nil V nmD)
  go_enter Try.func9, Try.ntmps9
  go_wp2_with (go_at_call 28; (with_reducible refine Calls.mono (HL.out _) ?_); rintro e w0 ⟨rfl, rfl⟩)
  go_ret
  exact ⟨rfl, rfl⟩
theorem refusal_j_nil (w : World) : Calls Try.prog 21 #[.agg #[.pointer none]] w fun e w' => e = .returned (.int .i64 1) ∧ w.grownBy w' none := by
  have HG := hideJ (World.grownBy_alloc w (.cells #[.pointer none] 53) none)
  have HR := hideJ (fun V => read_nil V nmJ 0 0)
  go_enter Try.func21, Try.ntmps21
  go_wp2_with (go_at_call 33; (with_reducible refine Calls.mono (HR.out _) ?_); rintro e w0 ⟨rfl, rfl⟩)
  go_ret
  exact ⟨rfl, HG.out⟩
theorem commit_nil (w : World) (c : Int) (p : Option Addr) (n cap : Nat) : Calls Try.prog 8 #[.pointer none, .int .i64 c, .slice p n cap] w fun e w' => e = .returned (.int .i64 1) ∧ w.grownBy w' none := by
  have HG := hideJ (World.grownBy_alloc w (.cells #[.pointer none] 53) none)
  have HR := hideJ refusal_j_nil
  go_enter Try.func8, Try.ntmps8
  go_wp2_with (go_at_call 21; (with_reducible refine Calls.mono (HR.out _) ?_); rintro e w0 ⟨rfl, hg⟩; have HG1 := hideJ (grown_trans' HG.out hg); clear hg)
  go_ret
  exact ⟨rfl, HG1.out⟩
theorem recover_nil (w : World) : Calls Try.prog 7 #[.pointer none] w fun e w' => e = .returned (.tuple #[.bool false, .int .i64 1]) ∧ w.grownBy w' none := by
  have HG := hideJ (World.grownBy_alloc w (.cells #[.pointer none] 53) none)
  have HR := hideJ refusal_j_nil
  go_enter Try.func7, Try.ntmps7
  go_wp2_with (go_at_call 21; (with_reducible refine Calls.mono (HR.out _) ?_); rintro e w0 ⟨rfl, hg⟩; have HG1 := hideJ (grown_trans' HG.out hg); clear hg)
  go_ret2
  exact ⟨rfl, HG1.out⟩
set_option maxRecDepth 20000 in
theorem head_nil (w : World) : Calls Try.prog 29 #[.agg #[.pointer none]] w fun e w' => e = .returned (.agg #[.int .u32 0, .int .u32 0, .int .u32 0, .int .u32 0]) ∧ w.grownBy w' none := by
  have hbn := blk_next w #[.pointer none] #[.int .u32 0, .int .u32 0, .int .u32 0, .int .u32 0] 53 63
  have HG : Hid (w.grownBy ((w.alloc (.cells #[.pointer none] 53)).alloc (.cells #[.int .u32 0, .int .u32 0, .int .u32 0, .int .u32 0] 63)) none) := grown_trans' (World.grownBy_alloc _ _ _) (World.grownBy_alloc _ _ _)
  have HR := hideJ (fun V => read_nil V nmJ 0 64)
  have HZ := hideJ hbn.2
  have HI := hideJ info40s
  clear hbn
  go_enter Try.func29, Try.ntmps29
  go_wp2_with (first
    | (go_at_call 33; (with_reducible refine Calls.mono (HR.out _) ?_); rintro e w0 ⟨rfl, rfl⟩)
    | ((with_reducible refine at63S ?_); refine wp_storeB (c := #[.int .u32 0, .int .u32 0, .int .u32 0, .int .u32 0]) HI.out (by rfl) four_one HZ.out _ _ (by rfl) (by rfl) (by rfl) (by rfl) ?_; intro W5 hb5 ho5; have HB5 := hideJ hb5; have HG5 := hideJ (grown_only HG.out ho5 (by omega)); clear hb5 ho5))
  refine ret_blk HI.out u63 (by rfl) (by rfl) HB5.out ?_
  exact ⟨rfl, HG5.out⟩
set_option maxRecDepth 20000 in
theorem hot_nil (w : World) : Calls Try.prog 10 #[.pointer none] w fun e w' => e = .returned (.bool false) ∧ w.grownBy w' none := by
  have HH := hideJ head_nil
  have hix : ∀ V, (Instr.index 63 (.agg #[.int .u32 0, .int .u32 0, .int .u32 0, .int .u32 0]) (.int .i64 0)).run Try.prog V = .ok (.int .u32 0) V := fun V => by
    simp [Instr.index, run_underlying Try.underlying63, asIntOf, go_sem]
  go_enter Try.func10, Try.ntmps10
  go_wp2_with (go_at_call 29; (with_reducible refine Calls.mono (HH.out _) ?_); rintro e w4 ⟨rfl, hg⟩; have HG := hideJ hg; clear hg)
  go_ret
  exact ⟨rfl, HG.out⟩
theorem built24 : Try.prog.built 24 [] = some (bcs z256).toArray := by kernel_rfl
set_option maxRecDepth 20000 in
theorem pageF_nil (w : World) (n : Int) : Calls Try.prog 6 #[.pointer none, .int .i64 n] w fun e w' => e = .returned (.tuple #[.agg (bcs z256).toArray, .int .i64 1]) ∧ w.grownBy w' none := by
  have HR := hideJ refusal_j_nil
  have HN := hideJ (new24 w)
  have HI := hideJ (size24 z256_length)
  have HA := hideJ (bytes_all z256)
  have HG : Hid (w.grownBy ((w.alloc (.cells Try.zeroCells24 24)).alloc (.cells #[.pointer none] 53)) none) := grown_trans' (World.grownBy_alloc _ _ _) (World.grownBy_alloc _ _ _)
  have HB : Hid (Blk ((w.alloc (.cells Try.zeroCells24 24)).alloc (.cells #[.pointer none] 53)) w.heap.size (bcs z256).toArray 24) := (Below.heap_alloc _ _ _ HN.out.lt).trans HN.out
  have hbu := built24
  go_enter Try.func6, Try.ntmps6
  go_wp2_with (first
    | (go_at_call 21; (with_reducible refine Calls.mono (HR.out _) ?_); rintro e w1 ⟨rfl, hg⟩; have HG1 := hideJ (grown_trans' HG.out hg); have HB1 := hideJ (Blk.grown HB.out hg); clear hg)
    | ((with_reducible refine at24S ?_); refine wp_storeB (c := (bcs z256).toArray) HI.out (by rfl) HA.out HB1.out _ _ (by rfl) (by rfl) (by rfl) (by rfl) ?_; intro W5 hb5 ho5; have HB5 := hideJ hb5; have HG5 := hideJ (grown_only HG1.out ho5 (Nat.le_refl _)); clear hb5 ho5))
  refine ret_pair HI.out u24 (by rfl) (by rfl) (by rfl) HB5.out ?_
  exact ⟨rfl, HG5.out⟩
set_option maxRecDepth 20000 in
theorem pageF_j (w : World) (base b : Nat) (D : DS) (who : Nat → Nat) (R : Rep w base b D who) {r : Int} {i : Nat} (h : JI r D i) (n : Nat) (h1 : 1 ≤ n) (hn : 256 * n ≤ (seenOf D nmD).length) :
    Calls Try.prog 6 #[.pointer (some ⟨b, 0, none⟩), .int .i64 (n : Int)] w fun e w' => e = .returned (.tuple #[.agg (bcs (pgL (seenOf D nmD) n)).toArray, .int .i64 0]) ∧ w.grownBy w' none := by
  have hpl := pgL_length h1 hn
  have HRf := hideJ (fun V (hV : w.grownBy V none) => refusal_j V base b D who (R.keep hV) h)
  have HCt := hideJ (fun V (hV : w.grownBy V none) => count_j V base b D who (R.keep hV) h)
  have HPg := hideJ (fun V (hV : w.grownBy V none) => page_j V base b D who (R.keep hV) h n h1 hn)
  have HN := hideJ (new24 w)
  have HI := hideJ (size24 hpl)
  have HA := hideJ (bytes_all (pgL (seenOf D nmD) n))
  have HSz : Hid ((bcs (pgL (seenOf D nmD) n)).toArray.size = (bcs z256).toArray.size) := by show _ = _; rw [List.size_toArray, List.size_toArray, length_bcs, length_bcs, hpl, z256_length]
  have HG : Hid (w.grownBy ((w.alloc (.cells Try.zeroCells24 24)).alloc (.cells #[.pointer (some ⟨b, 0, none⟩)] 53)) none) := grown_trans' (World.grownBy_alloc _ _ _) (World.grownBy_alloc _ _ _)
  have HB : Hid (Blk ((w.alloc (.cells Try.zeroCells24 24)).alloc (.cells #[.pointer (some ⟨b, 0, none⟩)] 53)) w.heap.size (bcs z256).toArray 24) := (Below.heap_alloc _ _ _ HN.out.lt).trans HN.out
  have HX : Hid (Blk ((w.alloc (.cells Try.zeroCells24 24)).alloc (.cells #[.pointer (some ⟨b, 0, none⟩)] 53)) (w.heap.size + 1) #[.pointer (some ⟨b, 0, none⟩)] 53) := by
    have := alloc_new (w.alloc (.cells Try.zeroCells24 24)) (.cells #[.pointer (some ⟨b, 0, none⟩)] 53)
    rw [show (w.alloc (.cells Try.zeroCells24 24)).heap.size = w.heap.size + 1 by simp] at this
    exact this
  obtain ⟨C, hC⟩ : ∃ C : Nat, C = (seenOf D nmD).length / 256 := ⟨_, rfl⟩
  rw [← hC] at HCt
  have l1 : ¬ (n : Int) < 1 := by omega
  have l2 : ¬ (C : Int) < (n : Int) := by omega
  generalize pgL (seenOf D nmD) n = P at HPg HI HA HSz ⊢
  clear R h hpl hn h1 hC
  go_enter Try.func6, Try.ntmps6
  go_wp2_with (first
    | (go_at_call 21; (with_reducible refine Calls.mono (HRf.out _ HG.out) ?_); rintro e w1 ⟨rfl, hg⟩; have HG1 := hideJ (grown_trans' HG.out hg); have HB1 := hideJ (Blk.grown HB.out hg); have HX1 := hideJ (Blk.grown HX.out hg); clear hg)
    | (go_at_call 9; (with_reducible refine Calls.mono (HCt.out _ HG1.out) ?_); rintro e w2 ⟨rfl, hg⟩; have HG2 := hideJ (grown_trans' HG1.out hg); have HB2 := hideJ (Blk.grown HB1.out hg); have HX2 := hideJ (Blk.grown HX1.out hg); have cb := box_cell HX2.out; clear hg)
    | (go_at_call 22; (with_reducible refine Calls.mono (HPg.out _ HG2.out) ?_); rintro e w3 ⟨rfl, hg⟩; have HG3 := hideJ (grown_trans' HG2.out hg); have HB3 := hideJ (Blk.grown HB2.out hg); clear hg)
    | ((with_reducible refine at24S ?_); refine wp_storeB (c := (bcs P).toArray) HI.out HSz.out HA.out HB3.out _ _ (by rfl) (by rfl) (by rfl) (by rfl) ?_; intro W5 hb5 ho5; have HB5 := hideJ hb5; have HG5 := hideJ (grown_only HG3.out ho5 (Nat.le_refl _)); clear hb5 ho5))
  refine ret_pair HI.out u24 (by rfl) (by rfl) (by rfl) HB5.out ?_
  exact ⟨rfl, HG5.out⟩
end Go.Proofs.Ytfcgjedanhmpiaa

namespace Go.Proofs.Ytfcgjedanhmpiaa
open Go.ChangeShapes Go.WideShapes Go.ChangeAt Go.RowKit
open Go.ChangeMaps (setBlock)
set_option linter.unusedVariables false

theorem JI.fresh (mb : Nat) (r : Int) : JI r (DS.fresh mb r) 0 := by
  refine ⟨⟨?_, ?_, ?_, ?_, ?_, ?_, ?_, ?_, rfl, ⟨Int.le_refl _, show (0 : Int) ≤ 9223372036854775807 by decide⟩, ?_, ?_, fun nm => rfl⟩, rfl⟩
  · intro f hf; cases hf
  · exact List.nodup_nil
  · intro f hf; cases hf
  · intro f hf; cases hf
  · intro f hf; cases hf
  · intro f hf; cases hf
  · intro f hf; cases hf
  · exact Nat.le_refl _
  · exact ⟨Int.le_refl _, Int.le_refl _⟩
  · exact ⟨Int.le_refl _, Int.le_refl _⟩
def one8 : UInt8 := 1
def two8 : UInt8 := 2
theorem built1 : Try.prog.built 67 [(0, .int .i64 1), (1, .agg (bcs (fullL one8)).toArray)] = some (pcl 1 (fullL one8)).toArray := by kernel_rfl
theorem built2 : Try.prog.built 67 [(0, .int .i64 2), (1, .agg (bcs (fullL two8)).toArray)] = some (pcl 2 (fullL two8)).toArray := by kernel_rfl
theorem built4 : Try.prog.built 67 [(0, .int .i64 4)] = some (pcl 4 z256).toArray := by kernel_rfl
def cell2 : List Value := pcl 1 (fullL one8) ++ pcl 2 (fullL two8)
theorem fill2 : (Try.prog.info? 67).bind (fun ie => ie.zero.bind fun z => Instr.fill (fun i => some (i * ie.size, ie.size)) ((Array.range (2 * ie.size)).map (z.cells[· % z.cells.size]!)) [(0, .agg (pcl 1 (fullL one8)).toArray), (1, .agg (pcl 2 (fullL two8)).toArray)]) = some cell2.toArray := by kernel_rfl
theorem fill4 : (Try.prog.info? 67).bind (fun ie => ie.zero.bind fun z => Instr.fill (fun i => some (i * ie.size, ie.size)) ((Array.range (1 * ie.size)).map (z.cells[· % z.cells.size]!)) [(0, .agg (pcl 4 z256).toArray)]) = some (pcl 4 z256).toArray := by kernel_rfl
theorem wp_b67 {ops : Array Oper} {rest : List Oper} {o : Oper} {a : Act} {Q : Exit → Act → World → Prop} {w : World} {vals : List (Nat × Value)} {c : Array Value} (hf : Try.prog.built 67 vals = some c) (parts : Array (Nat × Operand)) (hg : o.guard = none) (ho : o.op = .build 67 parts) (hv : (parts.map fun (i, x) => (i, a.eval x)).toList = vals)
    (hk : wpList Try.prog ops Q rest (a.put o.dst (.agg c)) w) : wpList Try.prog ops Q (o :: rest) a w :=
  wpList_buildTo hg 67 parts ho o.dst rfl c (by rw [hv]; exact hf) hk
theorem wp_bs22 {ops : Array Oper} {rest : List Oper} {o : Oper} {a : Act} {Q : Exit → Act → World → Prop} {w : World} {vals : List (Nat × Value)} {c : Array Value} {n : Nat} (hn : 0 < n ∧ n ≤ 1000) (hf : (Try.prog.info? 67).bind (fun ie => ie.zero.bind fun z => Instr.fill (fun i => some (i * ie.size, ie.size)) ((Array.range (n * ie.size)).map (z.cells[· % z.cells.size]!)) vals) = some c)
    (parts : Array (Nat × Operand)) (hg : o.guard = none) (ho : o.op = .buildSlice 22 n parts) (hv : (parts.map fun (i, x) => (i, a.eval x)).toList = vals)
    (hk : wpList Try.prog ops Q rest (a.put o.dst (.slice (some ⟨w.heap.size, 0, none⟩) n n)) (w.alloc (.cells c 67))) : wpList Try.prog ops Q (o :: rest) a w := by
  have hi := info67
  cases hq : Try.prog.info? 67 with
  | none => simp [hq] at hi
  | some ie =>
    rw [hq] at hf hi
    have hs : ie.size = 257 := by simpa using hi
    cases hz : ie.zero with
    | none => simp [hz] at hf
    | some z =>
      have hf' : Instr.fill (fun i => some (i * ie.size, ie.size)) ((Array.range (n * ie.size)).map (z.cells[· % z.cells.size]!)) vals = some c := by simpa [hz] using hf
      refine wpList_buildSlice hg 22 67 n parts ho c ie z Try.underlying22 hq hz (by rw [hs]; omega) (by rw [hs]; omega) (by rw [hv]; exact hf') hk
theorem at67B {P : Program} {ops : Array Oper} {Q : Exit → Act → World → Prop} {d : Option Tmp} {ps : Array (Nat × Operand)} {ty : TypeId} {pos : String} {af : Array Edge} {gd : Option (Nat × Bool)} {rest : List Oper} {a : Act} {w : World} (h : wpList P ops Q ({ dst := d, op := .build 67 ps, type := ty, pos := pos, after := af, guard := gd } :: rest) a w) : wpList P ops Q ({ dst := d, op := .build 67 ps, type := ty, pos := pos, after := af, guard := gd } :: rest) a w := h
theorem at22B {P : Program} {ops : Array Oper} {Q : Exit → Act → World → Prop} {d : Option Tmp} {n : Nat} {ps : Array (Nat × Operand)} {ty : TypeId} {pos : String} {af : Array Edge} {gd : Option (Nat × Bool)} {rest : List Oper} {a : Act} {w : World} (h : wpList P ops Q ({ dst := d, op := .buildSlice 22 n ps, type := ty, pos := pos, after := af, guard := gd } :: rest) a w) : wpList P ops Q ({ dst := d, op := .buildSlice 22 n ps, type := ty, pos := pos, after := af, guard := gd } :: rest) a w := h
def aN : Nat → Nat := fun k => k + 1
def aL : Nat → List UInt8 := fun k => if k = 0 then fullL one8 else fullL two8
theorem pages2 (V : World) : PgA (V.alloc (.cells cell2.toArray 67)) (some ⟨V.heap.size, 0, none⟩) 2 (fun k => (aN k : Int)) aL := fun _ => by
  have hb : Blk (V.alloc (.cells cell2.toArray 67)) V.heap.size cell2.toArray 67 := alloc_new _ _
  refine ⟨V.heap.size, cell2.toArray, rfl, hb, fun k hk => ?_⟩
  rcases (show k = 0 ∨ k = 1 by omega) with rfl | rfl
  · refine ⟨fullL_length _, fun j v hv => ?_⟩
    rw [hb.cell]
    have hj : j < 257 := by have := (List.getElem?_eq_some_iff.1 hv).1; rw [pcl_length _ (show (aL 0).length = 256 from fullL_length _)] at this; exact this
    show cell2.toArray[0 * 257 + j]? = some v
    rw [List.getElem?_toArray, Nat.zero_mul, Nat.zero_add]
    unfold cell2
    rw [List.getElem?_append_left (by rw [pcl_length _ (fullL_length _)]; exact hj)]
    exact hv
  · refine ⟨fullL_length _, fun j v hv => ?_⟩
    rw [hb.cell]
    show cell2.toArray[1 * 257 + j]? = some v
    rw [List.getElem?_toArray]
    unfold cell2
    rw [List.getElem?_append_right (by rw [pcl_length _ (fullL_length _)]; omega), pcl_length _ (fullL_length _), show 1 * 257 + j - 257 = j by omega]
    exact hv
theorem pages4 (V : World) : PgA (V.alloc (.cells (pcl 4 z256).toArray 67)) (some ⟨V.heap.size, 0, none⟩) 1 (fun _ => 4) (fun _ => z256) := fun _ => by
  have hb : Blk (V.alloc (.cells (pcl 4 z256).toArray 67)) V.heap.size (pcl 4 z256).toArray 67 := alloc_new _ _
  refine ⟨V.heap.size, _, rfl, hb, fun k hk => ⟨z256_length, fun j v hv => ?_⟩⟩
  obtain rfl : k = 0 := by omega
  rw [hb.cell, Nat.zero_mul, Nat.zero_add, List.getElem?_toArray]
  exact hv
theorem may2 : MayF ((0 : Nat) : Int) ((2 : Nat) : Int) 2 (fun k => (aN k : Int)) := by
  refine ⟨by omega, fun j hj => ?_, by decide⟩
  rcases (show j = 0 ∨ j = 1 by omega) with rfl | rfl
  · exact ⟨by decide, by decide⟩
  · exact ⟨by decide, by decide⟩
theorem may4 : ¬ MayF ((2 : Nat) : Int) 4 1 (fun _ => 4) := fun h => absurd h.2.2 (by decide)
end Go.Proofs.Ytfcgjedanhmpiaa

namespace Go.Proofs.Ytfcgjedanhmpiaa
open Go.ChangeShapes Go.WideShapes Go.ChangeAt Go.RowKit
open Go.ChangeMaps (setBlock)
set_option linter.unusedVariables false
set_option maxRecDepth 100000

def f0 : Vw := fun _ => []
def S1a : Nat → Stp := catS (renS (f0 nmJ)) 2 (tailS 1 0)
def S2a : Nat → Stp := catS (pgS aN aL) 2 (endS 2)
theorem sz_seal (a b c d : Nat) : (bstr (sealB a b c d)).size = 64 := by
  have := sealB_length a b c d
  simp [bstr, ByteArray.size, this]
theorem sz_full (x : UInt8) : (bstr (fullL x)).size = 256 := by
  have := fullL_length x
  simp [bstr, ByteArray.size, this]
theorem len_wseen (l : List UInt8) (a : Nat) (s : List UInt8) : (wseen l a s).length = max l.length (a + s.length) := length_wseen l a s
theorem bl (l : List UInt8) : (bstr l).data.toList = l := by simp [bstr]
def v1 : Vw := vw f0 S1a 5
theorem nDJ : nmD ≠ nmJ := by decide
theorem v1D : v1 nmD = [] := rfl
theorem vJ1 : vw f0 S1a 1 nmJ = wseen [] 0 (sealB (hdw [] 0) (hdw [] 1) (hdw [] 2) (hdw [] 3)) := by
  have e : vw f0 S1a 1 nmJ = wseen (f0 nmJ) 0 (hdS (f0 nmJ)).data.toList := rfl
  rw [e]; unfold hdS; rw [bl]; rfl
theorem vJ1_len : (vw f0 S1a 1 nmJ).length = 64 := by rw [vJ1, len_wseen, sealB_length]; rfl
theorem v1J_len : (v1 nmJ).length = 64 := by
  have e : v1 nmJ = wseen (vw f0 S1a 1 nmJ) 0 (bstr (sealB 1 0 0 0)).data.toList := rfl
  rw [e, len_wseen, vJ1_len, bl, sealB_length]; rfl
theorem ok1 : ∀ k, k < 5 → (S1a k).ok (vw f0 S1a k) ∧ (S1a k).fits 5000 (vw f0 S1a k) := fun k hk => by
  rcases (show k = 0 ∨ k = 1 ∨ k = 2 ∨ k = 3 ∨ k = 4 by omega) with rfl | rfl | rfl | rfl | rfl
  · have h := sz_seal (hdw [] 0) (hdw [] 1) (hdw [] 2) (hdw [] 3)
    have h' : (hdS []).size = 64 := h
    refine ⟨⟨.inr rfl, ?_, ?_, ?_⟩, .inr ?_⟩
    · show 0 < (hdS []).size; omega
    · show (hdS []).size ≤ 2000; omega
    · show 0 + (hdS []).size ≤ 6100; omega
    · show ((0 : Nat) : Int) + ((0 + (hdS []).size : Nat) - ((0 : Nat) : Int)) ≤ 5000; omega
  · exact ⟨trivial, trivial⟩
  · exact ⟨trivial, trivial⟩
  · have h := sz_seal 1 0 0 0
    refine ⟨⟨.inr rfl, ?_, ?_, ?_⟩, .inl ?_⟩
    · show 0 < (bstr (sealB 1 0 0 0)).size; omega
    · show (bstr (sealB 1 0 0 0)).size ≤ 2000; omega
    · show 0 + (bstr (sealB 1 0 0 0)).size ≤ 6100; omega
    · show 0 + (bstr (sealB 1 0 0 0)).size ≤ (vw f0 S1a 1 nmJ).length; rw [vJ1_len]; omega
  · exact ⟨trivial, trivial⟩
def d1 : List UInt8 := wseen [] 0 (fullL one8)
def d2 : List UInt8 := wseen d1 256 (fullL two8)
theorem d1_len : d1.length = 256 := by unfold d1; rw [len_wseen, fullL_length]; rfl
theorem d2_len : d2.length = 512 := by unfold d2; rw [len_wseen, fullL_length, d1_len]; rfl
theorem e1D : vw v1 S2a 1 nmD = d1 := by
  have e : vw v1 S2a 1 nmD = wseen (v1 nmD) (256 * (1 - 1)) (bstr (fullL one8)).data.toList := rfl
  rw [e, bl, v1D]; rfl
theorem e2D : vw v1 S2a 2 nmD = d2 := by
  have e : vw v1 S2a 2 nmD = wseen (vw v1 S2a 1 nmD) (256 * (2 - 1)) (bstr (fullL two8)).data.toList := rfl
  rw [e, bl, e1D]; rfl
theorem e2J : vw v1 S2a 2 nmJ = v1 nmJ := rfl
theorem e4J : vw v1 S2a 4 nmJ = v1 nmJ := rfl
theorem e3D : vw v1 S2a 3 nmD = d2 := by
  have e : vw v1 S2a 3 nmD = rsz (vw v1 S2a 2 nmD) (256 * 2) := rfl
  rw [e, e2D]
  unfold rsz
  rw [if_pos (by rw [d2_len]; omega), List.take_of_length_le (by rw [d2_len]; omega)]
theorem e6D : vw v1 S2a 6 nmD = d2 := e3D
theorem e6J : vw v1 S2a 6 nmJ = wseen (v1 nmJ) 0 (sealB 0 0 0 0) := by
  have e : vw v1 S2a 6 nmJ = wseen (vw v1 S2a 4 nmJ) 0 (bstr (sealB 0 0 0 0)).data.toList := rfl
  rw [e, bl, e4J]
theorem ok2 : ∀ k, k < 2 + 4 → (S2a k).ok (vw v1 S2a k) ∧ (S2a k).fits 5000 (vw v1 S2a k) := fun k hk => by
  rcases (show k = 0 ∨ k = 1 ∨ k = 2 ∨ k = 3 ∨ k = 4 ∨ k = 5 by omega) with rfl | rfl | rfl | rfl | rfl | rfl
  · have h := sz_full one8
    refine ⟨⟨.inl rfl, ?_, ?_, ?_⟩, .inr ?_⟩
    · show 0 < (bstr (fullL one8)).size; omega
    · show (bstr (fullL one8)).size ≤ 2000; omega
    · show 256 * (1 - 1) + (bstr (fullL one8)).size ≤ 6100; omega
    · show (((v1 nmD).length + (v1 nmJ).length : Nat) : Int) + ((256 * (1 - 1) + (bstr (fullL one8)).size : Nat) - ((v1 nmD).length : Int)) ≤ 5000
      rw [v1J_len, v1D]; simp; omega
  · have h := sz_full two8
    refine ⟨⟨.inl rfl, ?_, ?_, ?_⟩, .inr ?_⟩
    · show 0 < (bstr (fullL two8)).size; omega
    · show (bstr (fullL two8)).size ≤ 2000; omega
    · show 256 * (2 - 1) + (bstr (fullL two8)).size ≤ 6100; omega
    · have eJ : vw v1 S2a 1 nmJ = v1 nmJ := rfl
      show (((vw v1 S2a 1 nmD).length + (vw v1 S2a 1 nmJ).length : Nat) : Int) + ((256 * (2 - 1) + (bstr (fullL two8)).size : Nat) - ((vw v1 S2a 1 nmD).length : Int)) ≤ 5000
      rw [eJ, v1J_len, e1D, d1_len]; omega
  · refine ⟨⟨.inl rfl, ?_, ?_⟩, trivial⟩
    · show 256 * 2 ≤ 6100; omega
    · show 256 * 2 ≤ (vw v1 S2a 2 nmD).length; rw [e2D, d2_len]; omega
  · exact ⟨trivial, trivial⟩
  · have h := sz_seal 0 0 0 0
    refine ⟨⟨.inr rfl, ?_, ?_, ?_⟩, .inl ?_⟩
    · show 0 < (bstr (sealB 0 0 0 0)).size; omega
    · show (bstr (sealB 0 0 0 0)).size ≤ 2000; omega
    · show 0 + (bstr (sealB 0 0 0 0)).size ≤ 6100; omega
    · show 0 + (bstr (sealB 0 0 0 0)).size ≤ (vw v1 S2a 4 nmJ).length; rw [e4J, v1J_len]; omega
  · exact ⟨trivial, trivial⟩
theorem pg2 : pgL d2 2 = fullL two8 := by
  have hf := fullL_length two8
  have hg : (grownTo d1 (256 + (fullL two8).length)).length = 512 := by
    rw [length_grownTo, d1_len, hf]; rfl
  have ht : (List.take 256 (grownTo d1 (256 + (fullL two8).length))).length = 256 := by
    rw [List.length_take, hg]; rfl
  unfold pgL d2 wseen splice
  rw [show 256 * (2 - 1) = 256 from rfl, List.drop_append_of_le_length (by omega), List.drop_of_length_le (by omega), List.nil_append, List.take_append_of_le_length (by omega), List.take_of_length_le (by omega)]
theorem cold0 : hdw (f0 nmJ) 0 = 0 := rfl
end Go.Proofs.Ytfcgjedanhmpiaa

namespace Go.Proofs.Ytfcgjedanhmpiaa
open Go.ChangeShapes Go.WideShapes Go.ChangeAt Go.RowKit
open Go.ChangeMaps (setBlock)
set_option linter.unusedVariables false
set_option maxRecDepth 100000

theorem hot6 : hdw (vw v1 S2a 6 nmJ) 0 = 0 := by
  have hl := v1J_len
  have hs := sealB_length 0 0 0 0
  have e : wseen (v1 nmJ) 0 (sealB 0 0 0 0) = sealB 0 0 0 0 := by
    have hg : (grownTo (v1 nmJ) (0 + (sealB 0 0 0 0).length)).length = 64 := by rw [length_grownTo, hl, hs]; rfl
    unfold wseen splice
    rw [List.take_zero, List.nil_append, List.drop_of_length_le (by omega), List.append_nil]
  rw [e6J, e]
  decide +kernel
theorem grown_below {w W W' : World} (h : w.heap.size ≤ W.heap.size) (hg : W.grownBy W' none) : Below w.heap.size W W' := (Only.of_grown hg).below h (fun k hk => by cases hk)
structure Aw (w W : World) (D : DS) : Prop where
  rep : ∃ who, Rep W w.heap.size (w.heap.size + 1) D who
  bel : Below w.heap.size w W
theorem Aw.grown {w W W' : World} {D : DS} (h : Aw w W D) (hg : W.grownBy W' none) : Aw w W' D :=
  ⟨h.rep.imp fun who R => R.keep hg, h.bel.trans (grown_below h.bel.size hg)⟩
structure Aw2 (w W : World) : Prop where
  ex : ∃ D, Aw w W D ∧ JI 5000 D (0 + 5 + (2 + 4)) ∧ seenOf D nmD = d2 ∧ hdw (seenOf D nmJ) 0 = 0
theorem Aw2.grown {w W W' : World} (h : Aw2 w W) (hg : W.grownBy W' none) : Aw2 w W' := by
  obtain ⟨D, a, b, c⟩ := h.ex
  exact ⟨D, a.grown hg, b, c⟩
theorem Aw2.bel {w W : World} (h : Aw2 w W) : Below w.heap.size w W := by
  obtain ⟨D, a, b, c⟩ := h.ex
  exact a.bel
def fr (w : World) : DS := DS.fresh w.heap.size 5000
theorem seen_fresh (w : World) : seenOf (fr w) = f0 := rfl
theorem aw_new (w : World) : Calls Try.prog 12 #[.int .i64 5000] w fun e w' => e = .returned (.pointer (some ⟨w.heap.size + 1, 0, none⟩)) ∧ Aw w w' (fr w) :=
  Calls.mono (new_any w 5000 (by decide)) (fun e w' h => ⟨h.1, ⟨h.2.2, grown_below (Nat.le_refl _) h.2.1⟩⟩)
theorem cm_a (w V : World) (h : Aw w V (fr w)) (p : Option Addr) (cap : Nat) (hp : PgA V p 2 (fun k => (aN k : Int)) aL) :
    Calls Try.prog 8 #[.pointer (some ⟨w.heap.size + 1, 0, none⟩), .int .i64 2, .slice p 2 cap] V fun e w' => e = .returned (.int .i64 0) ∧ Aw2 w w' := by
  obtain ⟨who, R⟩ := h.rep
  have hJ : JI 5000 (fr w) 0 := JI.fresh _ _
  have := commit_none V w.heap.size (w.heap.size + 1) (fr w) who R hJ rfl 2 0 (by rw [seen_fresh]; rfl) p 2 cap aN aL hp (by omega) (by omega) may2 (by rw [seen_fresh]; exact cold0) (by omega)
    (fun j hj => by unfold aN; omega) (by rw [seen_fresh]; exact ok1) (by rw [seen_fresh]; exact ok2)
  rw [seen_fresh] at this
  refine Calls.mono this ?_
  rintro e w' ⟨rfl, D', who', hm, hj, hs⟩
  refine ⟨rfl, D', ⟨⟨who', hm.rep⟩, h.bel.trans (hm.mv.below R)⟩, hj, ?_, ?_⟩
  · rw [hs]; exact e6D
  · rw [hs]; exact hot6
theorem pg_a (w V : World) (h : Aw2 w V) : Calls Try.prog 6 #[.pointer (some ⟨w.heap.size + 1, 0, none⟩), .int .i64 2] V fun e w' => e = .returned (.tuple #[.agg (bcs (fullL two8)).toArray, .int .i64 0]) ∧ V.grownBy w' none := by
  obtain ⟨D, ha, hj, hs, hh⟩ := h.ex
  obtain ⟨who, R⟩ := ha.rep
  have := pageF_j V _ _ D who R hj 2 (by omega) (by rw [hs, d2_len]; omega)
  rw [hs, pg2] at this
  exact this
theorem cm_b (w V : World) (h : Aw2 w V) (p : Option Addr) (cap : Nat) (hp : PgA V p 1 (fun _ => 4) (fun _ => z256)) :
    Calls Try.prog 8 #[.pointer (some ⟨w.heap.size + 1, 0, none⟩), .int .i64 4, .slice p 1 cap] V fun e w' => e = .returned (.int .i64 2) ∧ V.grownBy w' none := by
  obtain ⟨D, ha, hj, hs, hh⟩ := h.ex
  obtain ⟨who, R⟩ := ha.rep
  exact commit_arg V _ _ D who R hj 4 2 (by rw [hs, d2_len]) p 1 cap _ _ hp (by omega) may4
theorem ct_a (w V : World) (h : Aw2 w V) : Calls Try.prog 9 #[.pointer (some ⟨w.heap.size + 1, 0, none⟩)] V fun e w' => e = .returned (.int .i64 2) ∧ V.grownBy w' none := by
  obtain ⟨D, ha, hj, hs, hh⟩ := h.ex
  obtain ⟨who, R⟩ := ha.rep
  have := count_j V _ _ D who R hj
  rw [hs, d2_len] at this
  exact this
theorem ht_a (w V : World) (h : Aw2 w V) : Calls Try.prog 10 #[.pointer (some ⟨w.heap.size + 1, 0, none⟩)] V fun e w' => e = .returned (.bool false) ∧ V.grownBy w' none := by
  obtain ⟨D, ha, hj, hs, hh⟩ := h.ex
  obtain ⟨who, R⟩ := ha.rep
  exact hot_j V _ _ D who R hj false (by rw [hh]; rfl)
end Go.Proofs.Ytfcgjedanhmpiaa
