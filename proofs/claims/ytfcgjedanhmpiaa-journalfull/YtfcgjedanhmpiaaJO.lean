/- Page; without a disk. -/
import Derived.Test.YtfcgjedanhmpiaaJN
namespace Go.Proofs.Ytfcgjedanhmpiaa
open Go.ChangeShapes Go.WideShapes Go.ChangeAt Go.RowKit
open Go.ChangeMaps (setBlock)
set_option linter.unusedVariables false

theorem ret_pair {W : World} {g j i : Nat} {t : TypeId} {c : Array Value} (hi : (Try.prog.info? t).map (·.size) = some c.size) (hu : ∃ d, Try.prog.underlying t = some d ∧ d.isRow = true) {fn : Func} (hres : fn.results = #[.cell j t, .tmp i]) {tmps : Array Value} (ht : tmps.getD j undef = .pointer (some ⟨g, 0, none⟩)) {u : Value} (hv : tmps.getD i undef = u)
    (hg : Blk W g c t) {R : Ending → World → Prop} (h : R (.returned (.tuple #[.agg c, u])) W) : bodyPost Try.prog fn R Exit.ret { tmps := tmps, defers := [] } W := by
  obtain ⟨d, hd, hr⟩ := hu
  have hld := run_loadVar_mid (P := Try.prog) W g 0 t c.toList d (range_of_blk hg) hd hr (by simpa using hi)
  refine bodyPost_ret (v := .tuple #[.agg c, u]) ?_ rfl h
  have ht' : tmps[j]?.getD undef = .pointer (some ⟨g, 0, none⟩) := by simpa using ht
  have hu' : tmps[i]?.getD undef = u := by simpa using hv
  simp [results, hres, ht', hu', asAddr, hld]

theorem read_nil (w : World) (nm : ByteArray) (a n : Int) : Calls Try.prog 33 #[.pointer none, .string nm, .int .i64 a, .int .i64 n] w fun e w' => e = .returned (.tuple #[.string ⟨#[]⟩, .int .i64 1]) ∧ w = w' := by
  go_enter Try.func33, Try.ntmps33
  go_wp2_with (go_at_call 44; (with_reducible refine Calls.mono (refusal_nil _) ?_); rintro e w0 ⟨rfl, rfl⟩)
  go_ret2
  exact ⟨rfl, rfl⟩
theorem len_nil (w : World) (nm : ByteArray) : Calls Try.prog 28 #[.pointer none, .string nm] w fun e w' => e = .returned (.int .i64 0) ∧ w = w' := by
  go_enter Try.func28, Try.ntmps28
  go_wp2_with (go_at_call 44; (with_reducible refine Calls.mono (refusal_nil _) ?_); rintro e w0 ⟨rfl, rfl⟩)
  go_ret
  exact ⟨rfl, rfl⟩
theorem count_nil (w : World) : Calls Try.prog 9 #[.pointer none] w fun e w' => e = .returned (.int .i64 0) ∧ w = w' := by
  have HL := hideJ (fun V => len_nil V nmD)
  go_enter Try.func9, Try.ntmps9
  go_wp2_with (go_at_call 28; (with_reducible refine Calls.mono (HL.out _) ?_); rintro e w0 ⟨rfl, rfl⟩)
  go_ret
  exact ⟨rfl, rfl⟩
theorem refusal_j_nil (w : World) : Calls Try.prog 21 #[.agg #[.pointer none]] w fun e w' => e = .returned (.int .i64 1) ∧ w.grownBy w' none := by
  have HG := hideJ (World.grownBy_alloc w (.cells #[.pointer none] 53) none)
  have HR := hideJ (fun V => read_nil V nmJ 0 0)
  go_enter Try.func21, Try.ntmps21
  go_wp2_with (go_at_call 33; (with_reducible refine Calls.mono (HR.out _) ?_); rintro e w0 ⟨rfl, rfl⟩)
  go_ret
  exact ⟨rfl, HG.out⟩
theorem commit_nil (w : World) (c : Int) (p : Option Addr) (n cap : Nat) : Calls Try.prog 8 #[.pointer none, .int .i64 c, .slice p n cap] w fun e w' => e = .returned (.int .i64 1) ∧ w.grownBy w' none := by
  have HG := hideJ (World.grownBy_alloc w (.cells #[.pointer none] 53) none)
  have HR := hideJ refusal_j_nil
  go_enter Try.func8, Try.ntmps8
  go_wp2_with (go_at_call 21; (with_reducible refine Calls.mono (HR.out _) ?_); rintro e w0 ⟨rfl, hg⟩; have HG1 := hideJ (grown_trans' HG.out hg); clear hg)
  go_ret
  exact ⟨rfl, HG1.out⟩
theorem recover_nil (w : World) : Calls Try.prog 7 #[.pointer none] w fun e w' => e = .returned (.tuple #[.bool false, .int .i64 1]) ∧ w.grownBy w' none := by
  have HG := hideJ (World.grownBy_alloc w (.cells #[.pointer none] 53) none)
  have HR := hideJ refusal_j_nil
  go_enter Try.func7, Try.ntmps7
  go_wp2_with (go_at_call 21; (with_reducible refine Calls.mono (HR.out _) ?_); rintro e w0 ⟨rfl, hg⟩; have HG1 := hideJ (grown_trans' HG.out hg); clear hg)
  go_ret2
  exact ⟨rfl, HG1.out⟩
set_option maxRecDepth 20000 in
theorem head_nil (w : World) : Calls Try.prog 29 #[.agg #[.pointer none]] w fun e w' => e = .returned (.agg #[.int .u32 0, .int .u32 0, .int .u32 0, .int .u32 0]) ∧ w.grownBy w' none := by
  have hbn := blk_next w #[.pointer none] #[.int .u32 0, .int .u32 0, .int .u32 0, .int .u32 0] 53 63
  have HG : Hid (w.grownBy ((w.alloc (.cells #[.pointer none] 53)).alloc (.cells #[.int .u32 0, .int .u32 0, .int .u32 0, .int .u32 0] 63)) none) := grown_trans' (World.grownBy_alloc _ _ _) (World.grownBy_alloc _ _ _)
  have HR := hideJ (fun V => read_nil V nmJ 0 64)
  have HZ := hideJ hbn.2
  have HI := hideJ info40s
  clear hbn
  go_enter Try.func29, Try.ntmps29
  go_wp2_with (first
    | (go_at_call 33; (with_reducible refine Calls.mono (HR.out _) ?_); rintro e w0 ⟨rfl, rfl⟩)
    | ((with_reducible refine at63S ?_); refine wp_storeB (c := #[.int .u32 0, .int .u32 0, .int .u32 0, .int .u32 0]) HI.out (by rfl) four_one HZ.out _ _ (by rfl) (by rfl) (by rfl) (by rfl) ?_; intro W5 hb5 ho5; have HB5 := hideJ hb5; have HG5 := hideJ (grown_only HG.out ho5 (by omega)); clear hb5 ho5))
  refine ret_blk HI.out u63 (by rfl) (by rfl) HB5.out ?_
  exact ⟨rfl, HG5.out⟩
set_option maxRecDepth 20000 in
theorem hot_nil (w : World) : Calls Try.prog 10 #[.pointer none] w fun e w' => e = .returned (.bool false) ∧ w.grownBy w' none := by
  have HH := hideJ head_nil
  have hix : ∀ V, (Instr.index 63 (.agg #[.int .u32 0, .int .u32 0, .int .u32 0, .int .u32 0]) (.int .i64 0)).run Try.prog V = .ok (.int .u32 0) V := fun V => by
    simp [Instr.index, run_underlying Try.underlying63, asIntOf, go_sem]
  go_enter Try.func10, Try.ntmps10
  go_wp2_with (go_at_call 29; (with_reducible refine Calls.mono (HH.out _) ?_); rintro e w4 ⟨rfl, hg⟩; have HG := hideJ hg; clear hg)
  go_ret
  exact ⟨rfl, HG.out⟩
theorem built24 : Try.prog.built 24 [] = some (bcs z256).toArray := by kernel_rfl
set_option maxRecDepth 20000 in
theorem pageF_nil (w : World) (n : Int) : Calls Try.prog 6 #[.pointer none, .int .i64 n] w fun e w' => e = .returned (.tuple #[.agg (bcs z256).toArray, .int .i64 1]) ∧ w.grownBy w' none := by
  have HR := hideJ refusal_j_nil
  have HN := hideJ (new24 w)
  have HI := hideJ (size24 z256_length)
  have HA := hideJ (bytes_all z256)
  have HG : Hid (w.grownBy ((w.alloc (.cells Try.zeroCells24 24)).alloc (.cells #[.pointer none] 53)) none) := grown_trans' (World.grownBy_alloc _ _ _) (World.grownBy_alloc _ _ _)
  have HB : Hid (Blk ((w.alloc (.cells Try.zeroCells24 24)).alloc (.cells #[.pointer none] 53)) w.heap.size (bcs z256).toArray 24) := (Below.heap_alloc _ _ _ HN.out.lt).trans HN.out
  have hbu := built24
  go_enter Try.func6, Try.ntmps6
  go_wp2_with (first
    | (go_at_call 21; (with_reducible refine Calls.mono (HR.out _) ?_); rintro e w1 ⟨rfl, hg⟩; have HG1 := hideJ (grown_trans' HG.out hg); have HB1 := hideJ (Blk.grown HB.out hg); clear hg)
    | ((with_reducible refine at24S ?_); refine wp_storeB (c := (bcs z256).toArray) HI.out (by rfl) HA.out HB1.out _ _ (by rfl) (by rfl) (by rfl) (by rfl) ?_; intro W5 hb5 ho5; have HB5 := hideJ hb5; have HG5 := hideJ (grown_only HG1.out ho5 (Nat.le_refl _)); clear hb5 ho5))
  refine ret_pair HI.out u24 (by rfl) (by rfl) (by rfl) HB5.out ?_
  exact ⟨rfl, HG5.out⟩
set_option maxRecDepth 20000 in
theorem pageF_j (w : World) (base b : Nat) (D : DS) (who : Nat → Nat) (R : Rep w base b D who) {r : Int} {i : Nat} (h : JI r D i) (n : Nat) (h1 : 1 ≤ n) (hn : 256 * n ≤ (seenOf D nmD).length) :
    Calls Try.prog 6 #[.pointer (some ⟨b, 0, none⟩), .int .i64 (n : Int)] w fun e w' => e = .returned (.tuple #[.agg (bcs (pgL (seenOf D nmD) n)).toArray, .int .i64 0]) ∧ w.grownBy w' none := by
  have hpl := pgL_length h1 hn
  have HRf := hideJ (fun V (hV : w.grownBy V none) => refusal_j V base b D who (R.keep hV) h)
  have HCt := hideJ (fun V (hV : w.grownBy V none) => count_j V base b D who (R.keep hV) h)
  have HPg := hideJ (fun V (hV : w.grownBy V none) => page_j V base b D who (R.keep hV) h n h1 hn)
  have HN := hideJ (new24 w)
  have HI := hideJ (size24 hpl)
  have HA := hideJ (bytes_all (pgL (seenOf D nmD) n))
  have HSz : Hid ((bcs (pgL (seenOf D nmD) n)).toArray.size = (bcs z256).toArray.size) := by show _ = _; rw [List.size_toArray, List.size_toArray, length_bcs, length_bcs, hpl, z256_length]
  have HG : Hid (w.grownBy ((w.alloc (.cells Try.zeroCells24 24)).alloc (.cells #[.pointer (some ⟨b, 0, none⟩)] 53)) none) := grown_trans' (World.grownBy_alloc _ _ _) (World.grownBy_alloc _ _ _)
  have HB : Hid (Blk ((w.alloc (.cells Try.zeroCells24 24)).alloc (.cells #[.pointer (some ⟨b, 0, none⟩)] 53)) w.heap.size (bcs z256).toArray 24) := (Below.heap_alloc _ _ _ HN.out.lt).trans HN.out
  have HX : Hid (Blk ((w.alloc (.cells Try.zeroCells24 24)).alloc (.cells #[.pointer (some ⟨b, 0, none⟩)] 53)) (w.heap.size + 1) #[.pointer (some ⟨b, 0, none⟩)] 53) := by
    have := alloc_new (w.alloc (.cells Try.zeroCells24 24)) (.cells #[.pointer (some ⟨b, 0, none⟩)] 53)
    rw [show (w.alloc (.cells Try.zeroCells24 24)).heap.size = w.heap.size + 1 by simp] at this
    exact this
  obtain ⟨C, hC⟩ : ∃ C : Nat, C = (seenOf D nmD).length / 256 := ⟨_, rfl⟩
  rw [← hC] at HCt
  have l1 : ¬ (n : Int) < 1 := by omega
  have l2 : ¬ (C : Int) < (n : Int) := by omega
  generalize pgL (seenOf D nmD) n = P at HPg HI HA HSz ⊢
  clear R h hpl hn h1 hC
  go_enter Try.func6, Try.ntmps6
  go_wp2_with (first
    | (go_at_call 21; (with_reducible refine Calls.mono (HRf.out _ HG.out) ?_); rintro e w1 ⟨rfl, hg⟩; have HG1 := hideJ (grown_trans' HG.out hg); have HB1 := hideJ (Blk.grown HB.out hg); have HX1 := hideJ (Blk.grown HX.out hg); clear hg)
    | (go_at_call 9; (with_reducible refine Calls.mono (HCt.out _ HG1.out) ?_); rintro e w2 ⟨rfl, hg⟩; have HG2 := hideJ (grown_trans' HG1.out hg); have HB2 := hideJ (Blk.grown HB1.out hg); have HX2 := hideJ (Blk.grown HX1.out hg); have cb := box_cell HX2.out; clear hg)
    | (go_at_call 22; (with_reducible refine Calls.mono (HPg.out _ HG2.out) ?_); rintro e w3 ⟨rfl, hg⟩; have HG3 := hideJ (grown_trans' HG2.out hg); have HB3 := hideJ (Blk.grown HB2.out hg); clear hg)
    | ((with_reducible refine at24S ?_); refine wp_storeB (c := (bcs P).toArray) HI.out HSz.out HA.out HB3.out _ _ (by rfl) (by rfl) (by rfl) (by rfl) ?_; intro W5 hb5 ho5; have HB5 := hideJ hb5; have HG5 := hideJ (grown_only HG3.out ho5 (Nat.le_refl _)); clear hb5 ho5))
  refine ret_pair HI.out u24 (by rfl) (by rfl) (by rfl) HB5.out ?_
  exact ⟨rfl, HG5.out⟩
end Go.Proofs.Ytfcgjedanhmpiaa
