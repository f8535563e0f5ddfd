/- A page of one byte; a page of the database. -/
import Derived.Test.YteocmhbllckpjaaGreatXA
import Derived.Laws.StructEq
namespace Go.Proofs.YteocmhbllckpjaaGreat
open Go.ChangeShapes Go.WideShapes Go.ChangeAt Go.RowKit
open Go.ChangeMaps (setBlock)
set_option linter.unusedVariables false

theorem box_cell {w : World} {k b : Nat} (hb : Blk w k #[.pointer (some ⟨b, 0, none⟩)] 205) : w.cell? ⟨k, 0, none⟩ = some (.pointer (some ⟨b, 0, none⟩)) := (hb.cell 0).trans rfl
theorem box_drew {w : World} {k b : Nat} (hb : Blk w k #[.pointer (some ⟨b, 0, none⟩)] 205) : Blk w.drew k #[.pointer (some ⟨b, 0, none⟩)] 205 := hb
theorem conv_range {w : World} {g o : Nat} {l : List UInt8} {n : Nat} (hn : l.length = n) (hb : w.rangeAt g o (bcs l)) (c : Nat) : (convert 62 9 (.slice (some ⟨g, o, none⟩) n c)).run Tryz.prog w = .ok (.string (bstr l)) w := by
  subst hn
  have hcell : ∀ i, i < l.length → w.cell? ⟨g, o + i, none⟩ = some (.int .u8 ((l.map fun b => (b.toNat : Int)).getD i 0)) := fun i hi =>
    hb i _ (by simp [bcs, hi, List.getD])
  have hcv := run_convert_bytes_arg (P := Tryz.prog) w 62 5 Tryz.underlying62 Tryz.underlying5 g o l.length c (l.map fun b => (b.toNat : Int)) (by simp) hcell 9 Tryz.underlying9
  rw [strOfNums_bstr] at hcv
  exact hcv
theorem pageStart_j (w : World) (n : Nat) (h1 : 1 ≤ n) (h2 : n ≤ 10000) : Calls Tryz.prog 140 #[.int .i64 (n : Int)] w fun e w' => e = .returned (.int .i64 ((256 * (n - 1) : Nat) : Int)) ∧ w = w' := by
  have e1 : IntKind.i64.wrap ((n : Int) - 1) = (n : Int) - 1 := by rw [IntKind.wrap_i64]; omega
  have e2 : IntKind.i64.wrap (256 * ((n : Int) - 1)) = 256 * ((n : Int) - 1) := by rw [IntKind.wrap_i64]; omega
  have HN := hideJ (And.intro h1 h2)
  clear h1 h2
  go_enter Tryz.func140, Tryz.ntmps140
  go_wp2
  go_ret
  refine ⟨?_, rfl⟩
  have := HN.out
  show Ending.returned (Value.int .i64 (256 * ((n : Int) - 1))) = _
  congr 2
  omega
theorem info24 : (Tryz.prog.info? 49).map (·.size) = some 256 := by kernel_rfl
theorem u24 : ∃ d, Tryz.prog.underlying 49 = some d ∧ d.isRow = true := ⟨_, Tryz.underlying49, rfl⟩
theorem size24 {l : List UInt8} (h : l.length = 256) : (Tryz.prog.info? 49).map (·.size) = some (bcs l).toArray.size := by rw [List.size_toArray, length_bcs, h]; exact info24
theorem zc24 : Tryz.zeroCells49 = (bcs z256).toArray := by kernel_rfl
theorem new24 (V : World) : Blk (V.alloc (.cells Tryz.zeroCells49 49)) V.heap.size (bcs z256).toArray 49 := by rw [zc24]; exact alloc_new _ _
theorem bcs_set (l : List UInt8) (k : Nat) (x : UInt8) : (bcs l).toArray.setIfInBounds k (.int .u8 (x.toNat : Int)) = (bcs (l.set k x)).toArray := by simp [bcs, List.map_set]
def fullL (x : UInt8) : List UInt8 := List.replicate 256 x
theorem fullL_length (x : UInt8) : (fullL x).length = 256 := List.length_replicate ..
/-- The first j bytes are laid. -/
def partL (x : UInt8) (j : Nat) : List UInt8 := List.replicate j x ++ List.replicate (256 - j) 0
theorem partL_length (x : UInt8) {j : Nat} (h : j ≤ 256) : (partL x j).length = 256 := by simp [partL]; omega
theorem partL_set (x : UInt8) {j : Nat} (h : j < 256) : (partL x j).set j x = partL x (j + 1) := by
  unfold partL
  rw [List.set_append_right _ _ (by simp), List.length_replicate, Nat.sub_self, show 256 - j = (256 - (j + 1)) + 1 by omega, List.replicate_succ, List.set_cons_zero, List.replicate_succ', List.append_assoc]
  rfl

set_option maxHeartbeats 2000000 in
set_option maxRecDepth 20000 in
theorem full_j (w : World) (x : UInt8) : Calls Tryz.prog 28 #[.int .u8 (x.toNat : Int)] w fun e w' => e = .returned (.agg (bcs (fullL x)).toArray) ∧ w.grownBy w' none := by
  have HN1 := hideJ (new24 w)
  have HN2 : Hid (Blk ((w.alloc (.cells Tryz.zeroCells49 49)).alloc (.cells Tryz.zeroCells49 49)) (w.heap.size + 1) (bcs z256).toArray 49) := by
    have := new24 (w.alloc (.cells Tryz.zeroCells49 49))
    rw [show (w.alloc (.cells Tryz.zeroCells49 49)).heap.size = w.heap.size + 1 by simp] at this
    exact this
  have HB1 : Hid (Blk ((w.alloc (.cells Tryz.zeroCells49 49)).alloc (.cells Tryz.zeroCells49 49)) w.heap.size (bcs z256).toArray 49) := (Below.heap_alloc _ _ _ HN1.out.lt).trans HN1.out
  have HG : Hid (w.grownBy ((w.alloc (.cells Tryz.zeroCells49 49)).alloc (.cells Tryz.zeroCells49 49)) none) := grown_trans' (World.grownBy_alloc _ _ _) (World.grownBy_alloc _ _ _)
  have HI := hideJ (size24 (fullL_length x))
  have HA := hideJ (bytes_all (fullL x))
  have HSz : Hid ((bcs (fullL x)).toArray.size = (bcs z256).toArray.size) := by show _ = _; rw [List.size_toArray, List.size_toArray, length_bcs, length_bcs, fullL_length, z256_length]
  go_enter Tryz.func28, Tryz.ntmps28
  go_wp2
  go_loopw [4] (fun iv wr => ∃ j : Nat, j ≤ 256 ∧ iv = .int .i64 (j : Int) ∧ Blk wr (w.heap.size + 1) (bcs (partL x j)).toArray 49 ∧ Blk wr w.heap.size (bcs z256).toArray 49 ∧ w.grownBy wr none) (fun iv _ => 256 - (intOf iv).toNat)
  case atStart => exact ⟨0, Nat.zero_le _, rfl, HN2.out, HB1.out, HG.out⟩
  case round =>
    obtain ⟨j, hj, rfl, hb, hb1, hg⟩ := hrel
    have HBj := hideJ hb
    have HB1j := hideJ hb1
    have HGj := hideJ hg
    clear hb hb1 hg
    by_cases hlt : j < 256
    · have l1 : (j : Int) < 256 := by omega
      have l0 : (0 : Int) ≤ (j : Int) := by omega
      have hw1 : IntKind.i64.wrap ((j : Int) + 1) = (j : Int) + 1 := by rw [IntKind.wrap_i64]; omega
      have cj : ∃ y : Int, wr.cell? ⟨w.heap.size + 1, j, none⟩ = some (.int .u8 y) := by
        rw [HBj.out.cell]
        have hl := partL_length x (Nat.le_of_lt hlt)
        obtain ⟨v, hv⟩ : ∃ v, (partL x j)[j]? = some v := ⟨_, List.getElem?_eq_getElem (by omega)⟩
        exact ⟨(v.toNat : Int), by simp [bcs, hv]⟩
      obtain ⟨y, cj⟩ := cj
      have fj := HBj.out.frozen j
      have HK := hideJ hlt
      go_wp2
      refine ⟨⟨j + 1, HK.out, rfl, ?_, ?_, ?_⟩, ?_⟩
      · have := Blk.set HBj.out j (.int .u8 (x.toNat : Int))
        rw [bcs_set, partL_set x HK.out] at this
        exact this
      · exact (Only.setCell wr ⟨w.heap.size + 1, j, none⟩ _).blk HB1j.out (by simp)
      · exact grown_only HGj.out (Only.setCell wr ⟨w.heap.size + 1, j, none⟩ _) (Nat.le_succ _)
      · simp only [intOf]; have := HK.out; omega
    · obtain rfl : j = 256 := by omega
      have HBf : Hid (Blk wr (w.heap.size + 1) (bcs (fullL x)).toArray 49) := by
        have := HBj.out
        rw [show partL x 256 = fullL x by simp [partL, fullL]] at this
        exact this
      go_wp2_with (first
        | ((with_reducible refine at24L ?_); refine wp_loadB HI.out u24 HBf.out _ (by rfl) (by rfl) (by rfl) ?_)
        | ((with_reducible refine at24S ?_); refine wp_storeB HI.out HSz.out HA.out HB1j.out _ _ (by rfl) (by rfl) (by rfl) (by rfl) ?_; intro W5 hb5 ho5; have HB5 := hideJ hb5; have HG5 := hideJ (grown_only HGj.out ho5 (Nat.le_refl _)); clear hb5 ho5))
      refine ret_blk HI.out u24 (by rfl) (by rfl) HB5.out ?_
      exact ⟨rfl, HG5.out⟩

set_option maxHeartbeats 2000000 in
set_option maxRecDepth 20000 in
theorem page_j (w : World) (base b : Nat) (D : DS) (who : Nat → Nat) (R : Rep w base b D who) {r : Int} {i : Nat} (h : JI r D i) (n : Nat) (h1 : 1 ≤ n) (hn : 256 * n ≤ (seenOf D nmD).length) :
    Calls Tryz.prog 123 #[.agg #[.pointer (some ⟨b, 0, none⟩)], .int .i64 (n : Int)] w fun e w' => e = .returned (.agg (bcs (pgL (seenOf D nmD) n)).toArray) ∧ w.grownBy w' none := by
  have hlen := h.len nmD
  have hpl := pgL_length h1 hn
  obtain ⟨W, hW⟩ : ∃ W, W = ((w.alloc (.cells #[.pointer (some ⟨b, 0, none⟩)] 205)).alloc (.cells Tryz.zeroCells49 49)).alloc (.cells Tryz.zeroCells49 49) := ⟨_, rfl⟩
  have hg0 : w.grownBy W none := by rw [hW]; exact grown_trans' (grown_trans' (World.grownBy_alloc _ _ _) (World.grownBy_alloc _ _ _)) (World.grownBy_alloc _ _ _)
  have hbx : Blk W w.heap.size #[.pointer (some ⟨b, 0, none⟩)] 205 := by
    rw [hW]; exact (Below.heap_alloc _ _ _ (by simp <;> omega)).trans ((Below.heap_alloc _ _ _ (by simp)).trans (alloc_new _ _))
  have hbr : Blk W (w.heap.size + 1) (bcs z256).toArray 49 := by
    have := new24 (w.alloc (.cells #[.pointer (some ⟨b, 0, none⟩)] 205))
    rw [show (w.alloc (.cells #[.pointer (some ⟨b, 0, none⟩)] 205)).heap.size = w.heap.size + 1 by simp] at this
    rw [hW]; exact (Below.heap_alloc _ _ _ (by simp)).trans this
  have hbp : Blk W (w.heap.size + 2) (bcs z256).toArray 49 := by
    have := new24 ((w.alloc (.cells #[.pointer (some ⟨b, 0, none⟩)] 205)).alloc (.cells Tryz.zeroCells49 49))
    rw [show ((w.alloc (.cells #[.pointer (some ⟨b, 0, none⟩)] 205)).alloc (.cells Tryz.zeroCells49 49)).heap.size = w.heap.size + 2 by simp] at this
    rw [hW]; exact this
  have HPs := hideJ (fun V => pageStart_j V n h1 (by omega))
  have HRd : Hid (∀ V, w.grownBy V none → Calls Tryz.prog 12 #[.pointer (some ⟨b, 0, none⟩), .string nmD, .int .i64 ((256 * (n - 1) : Nat) : Int), .int .i64 256] V fun e w' => e = .returned (.tuple #[.string (bstr (pgL (seenOf D nmD) n)), .int .i64 0]) ∧ V.grownBy w' none) := fun V hV =>
    Read_in V base b D who (R.keep hV) h.down nmD (256 * (n - 1)) 256 (by omega) (by omega) (by omega)
  obtain ⟨A, hA⟩ : ∃ A, A = 256 * (n - 1) := ⟨_, rfl⟩
  rw [← hA] at HPs HRd
  generalize pgL (seenOf D nmD) n = P at HRd hpl ⊢
  obtain ⟨s, hs⟩ : ∃ s, s = bstr P := ⟨_, rfl⟩
  have HSd : Hid (s.data.toList = P ∧ s.size = 256) := ⟨by rw [hs]; simp [bstr], by rw [hs]; simp [bstr, ByteArray.size, hpl]⟩
  rw [← hs] at HRd
  have HI := hideJ (size24 hpl)
  have HAl := hideJ (bytes_all P)
  have HSz : Hid ((bcs P).toArray.size = (bcs z256).toArray.size) := by show _ = _; rw [List.size_toArray, List.size_toArray, length_bcs, length_bcs, hpl, z256_length]
  have HG := hideJ hg0
  have HBx := hideJ hbx
  have HBr := hideJ hbr
  have HBp := hideJ hbp
  clear R h hg0 hbx hbr hbp hs hA hlen hpl hn h1
  subst hW
  go_enter Tryz.func123, Tryz.ntmps123
  go_upto_region 2 with fail
  go_name_world W hW
  rw [hW] at HG HBx HBr HBp
  have HSG : Hid (∀ V, W.drew.grownBy V none → V.cell? ⟨w.heap.size, 0, none⟩ = some (.pointer (some ⟨b, 0, none⟩))) := fun V hV => box_cell (Blk.grown (box_drew HBx.out) hV)
  have HS0 := hideJ (HSG.out _ (grown_refl _))
  have HD := hideJ (grown_trans' HG.out (World.grownBy_drew W))
  go_region_held3 (fun V => V.cell? ⟨w.heap.size, 0, none⟩ = some (.pointer (some ⟨b, 0, none⟩))) (first | with_reducible exact HS0.out | with_reducible exact HS1.out) (first
    | (go_at_call 140; (with_reducible refine Calls.mono (HPs.out _) ?_); rintro e y1 ⟨rfl, rfl⟩)
    | (go_at_call 12; (with_reducible refine Calls.mono (HRd.out _ HD.out) ?_); rintro e y2 ⟨rfl, hg⟩; have HY2 := hideJ hg; have HS1 := hideJ (HSG.out _ hg); clear hg))
  have HBr2 : Hid (Blk y2 (w.heap.size + 1) (bcs z256).toArray 49) := Blk.grown (show Blk W.drew (w.heap.size + 1) (bcs z256).toArray 49 from HBr.out) HY2.out
  have HBp2 : Hid (Blk y2 (w.heap.size + 2) (bcs z256).toArray 49) := Blk.grown (show Blk W.drew (w.heap.size + 2) (bcs z256).toArray 49 from HBp.out) HY2.out
  have HG2 := hideJ (grown_trans' HD.out HY2.out)
  go_wp2_with (first
    | ((with_reducible refine atCopy ?_); refine wp_copyB (z := z256) HBp2.out (by rw [HSd.out.2]; exact Nat.le_refl _) _ _ (by rfl) (by rfl) (by rfl) (by rfl) ?_; intro W5 hb5 ho5; rw [HSd.out.1, HSd.out.2, show z256.drop 256 = [] from rfl, List.append_nil] at hb5; have HB5 := hideJ hb5; have HG5 := hideJ (grown_only HG2.out ho5 (by omega)); have HBr5 := hideJ (only_blk HBr2.out ho5 (by omega)); clear hb5 ho5)
    | ((with_reducible refine at24L ?_); refine wp_loadB HI.out u24 HB5.out _ (by rfl) (by rfl) (by rfl) ?_)
    | ((with_reducible refine at24S ?_); refine wp_storeB HI.out HSz.out HAl.out HBr5.out _ _ (by rfl) (by rfl) (by rfl) (by rfl) ?_; intro W6 hb6 ho6; have HB6 := hideJ hb6; have HG6 := hideJ (grown_only HG5.out ho6 (by omega)); clear hb6 ho6))
  refine ret_blk HI.out u24 (by rfl) (by rfl) HB6.out ?_
  exact ⟨rfl, HG6.out⟩

theorem ret_pair {W : World} {g j i : Nat} {t : TypeId} {c : Array Value} (hi : (Tryz.prog.info? t).map (·.size) = some c.size) (hu : ∃ d, Tryz.prog.underlying t = some d ∧ d.isRow = true) {fn : Func} (hres : fn.results = #[.cell j t, .tmp i]) {tmps : Array Value} (ht : tmps.getD j undef = .pointer (some ⟨g, 0, none⟩)) {u : Value} (hv : tmps.getD i undef = u)
    (hg : Blk W g c t) {R : Ending → World → Prop} (h : R (.returned (.tuple #[.agg c, u])) W) : bodyPost Tryz.prog fn R Exit.ret { tmps := tmps, defers := [] } W := by
  obtain ⟨d, hd, hr⟩ := hu
  have hld := run_loadVar_mid (P := Tryz.prog) W g 0 t c.toList d (range_of_blk hg) hd hr (by simpa using hi)
  refine bodyPost_ret (v := .tuple #[.agg c, u]) ?_ rfl h
  have ht' : tmps[j]?.getD undef = .pointer (some ⟨g, 0, none⟩) := by simpa using ht
  have hu' : tmps[i]?.getD undef = u := by simpa using hv
  simp [results, hres, ht', hu', asAddr, hld]

theorem built24 : Tryz.prog.built 49 [] = some (bcs z256).toArray := by kernel_rfl
set_option maxRecDepth 20000 in
theorem pageF_j (w : World) (base b : Nat) (D : DS) (who : Nat → Nat) (R : Rep w base b D who) {r : Int} {i : Nat} (h : JI r D i) (n : Nat) (h1 : 1 ≤ n) (hn : 256 * n ≤ (seenOf D nmD).length) :
    Calls Tryz.prog 87 #[.pointer (some ⟨b, 0, none⟩), .int .i64 (n : Int)] w fun e w' => e = .returned (.tuple #[.agg (bcs (pgL (seenOf D nmD) n)).toArray, .int .i64 0]) ∧ w.grownBy w' none := by
  have hpl := pgL_length h1 hn
  have HRf := hideJ (fun V (hV : w.grownBy V none) => refusal_j V base b D who (R.keep hV) h)
  have HCt := hideJ (fun V (hV : w.grownBy V none) => count_j V base b D who (R.keep hV) h)
  have HPg := hideJ (fun V (hV : w.grownBy V none) => page_j V base b D who (R.keep hV) h n h1 hn)
  have HN := hideJ (new24 w)
  have HI := hideJ (size24 hpl)
  have HA := hideJ (bytes_all (pgL (seenOf D nmD) n))
  have HSz : Hid ((bcs (pgL (seenOf D nmD) n)).toArray.size = (bcs z256).toArray.size) := by show _ = _; rw [List.size_toArray, List.size_toArray, length_bcs, length_bcs, hpl, z256_length]
  have HG : Hid (w.grownBy ((w.alloc (.cells Tryz.zeroCells49 49)).alloc (.cells #[.pointer (some ⟨b, 0, none⟩)] 205)) none) := grown_trans' (World.grownBy_alloc _ _ _) (World.grownBy_alloc _ _ _)
  have HB : Hid (Blk ((w.alloc (.cells Tryz.zeroCells49 49)).alloc (.cells #[.pointer (some ⟨b, 0, none⟩)] 205)) w.heap.size (bcs z256).toArray 49) := (Below.heap_alloc _ _ _ HN.out.lt).trans HN.out
  have HX : Hid (Blk ((w.alloc (.cells Tryz.zeroCells49 49)).alloc (.cells #[.pointer (some ⟨b, 0, none⟩)] 205)) (w.heap.size + 1) #[.pointer (some ⟨b, 0, none⟩)] 205) := by
    have := alloc_new (w.alloc (.cells Tryz.zeroCells49 49)) (.cells #[.pointer (some ⟨b, 0, none⟩)] 205)
    rw [show (w.alloc (.cells Tryz.zeroCells49 49)).heap.size = w.heap.size + 1 by simp] at this
    exact this
  obtain ⟨C, hC⟩ : ∃ C : Nat, C = (seenOf D nmD).length / 256 := ⟨_, rfl⟩
  rw [← hC] at HCt
  have l1 : ¬ (n : Int) < 1 := by omega
  have l2 : ¬ (C : Int) < (n : Int) := by omega
  generalize pgL (seenOf D nmD) n = P at HPg HI HA HSz ⊢
  clear R h hpl hn h1 hC
  go_enter Tryz.func87, Tryz.ntmps87
  go_wp2_with (first
    | (go_at_call 122; (with_reducible refine Calls.mono (HRf.out _ HG.out) ?_); rintro e w1 ⟨rfl, hg⟩; have HG1 := hideJ (grown_trans' HG.out hg); have HB1 := hideJ (Blk.grown HB.out hg); have HX1 := hideJ (Blk.grown HX.out hg); clear hg)
    | (go_at_call 85; (with_reducible refine Calls.mono (HCt.out _ HG1.out) ?_); rintro e w2 ⟨rfl, hg⟩; have HG2 := hideJ (grown_trans' HG1.out hg); have HB2 := hideJ (Blk.grown HB1.out hg); have HX2 := hideJ (Blk.grown HX1.out hg); have cb := box_cell HX2.out; clear hg)
    | (go_at_call 123; (with_reducible refine Calls.mono (HPg.out _ HG2.out) ?_); rintro e w3 ⟨rfl, hg⟩; have HG3 := hideJ (grown_trans' HG2.out hg); have HB3 := hideJ (Blk.grown HB2.out hg); clear hg)
    | ((with_reducible refine at24S ?_); refine wp_storeB (c := (bcs P).toArray) HI.out HSz.out HA.out HB3.out _ _ (by rfl) (by rfl) (by rfl) (by rfl) ?_; intro W5 hb5 ho5; have HB5 := hideJ hb5; have HG5 := hideJ (grown_only HG3.out ho5 (Nat.le_refl _)); clear hb5 ho5))
  refine ret_pair HI.out u24 (by rfl) (by rfl) (by rfl) HB5.out ?_
  exact ⟨rfl, HG5.out⟩

set_option maxRecDepth 20000 in
theorem pageF_out (w : World) (base b : Nat) (D : DS) (who : Nat → Nat) (R : Rep w base b D who) {r : Int} {i : Nat} (h : JI r D i) (n : Nat) (h1 : 1 ≤ n) (hn : ¬ 256 * n ≤ (seenOf D nmD).length) :
    Calls Tryz.prog 87 #[.pointer (some ⟨b, 0, none⟩), .int .i64 (n : Int)] w fun e w' => e = .returned (.tuple #[.agg (bcs z256).toArray, .int .i64 4]) ∧ w.grownBy w' none := by
  have HRf := hideJ (fun V (hV : w.grownBy V none) => refusal_j V base b D who (R.keep hV) h)
  have HCt := hideJ (fun V (hV : w.grownBy V none) => count_j V base b D who (R.keep hV) h)
  have HN := hideJ (new24 w)
  have HI := hideJ (size24 z256_length)
  have HA := hideJ (bytes_all z256)
  have HG : Hid (w.grownBy ((w.alloc (.cells Tryz.zeroCells49 49)).alloc (.cells #[.pointer (some ⟨b, 0, none⟩)] 205)) none) := grown_trans' (World.grownBy_alloc _ _ _) (World.grownBy_alloc _ _ _)
  have HB : Hid (Blk ((w.alloc (.cells Tryz.zeroCells49 49)).alloc (.cells #[.pointer (some ⟨b, 0, none⟩)] 205)) w.heap.size (bcs z256).toArray 49) := (Below.heap_alloc _ _ _ HN.out.lt).trans HN.out
  have hbu := built24
  obtain ⟨C, hC⟩ : ∃ C : Nat, C = (seenOf D nmD).length / 256 := ⟨_, rfl⟩
  rw [← hC] at HCt
  have l1 : ¬ (n : Int) < 1 := by omega
  have l2 : (C : Int) < (n : Int) := by omega
  clear R h hn h1 hC
  go_enter Tryz.func87, Tryz.ntmps87
  go_wp2_with (first
    | (go_at_call 122; (with_reducible refine Calls.mono (HRf.out _ HG.out) ?_); rintro e w1 ⟨rfl, hg⟩; have HG1 := hideJ (grown_trans' HG.out hg); have HB1 := hideJ (Blk.grown HB.out hg); clear hg)
    | (go_at_call 85; (with_reducible refine Calls.mono (HCt.out _ HG1.out) ?_); rintro e w2 ⟨rfl, hg⟩; have HG2 := hideJ (grown_trans' HG1.out hg); have HB2 := hideJ (Blk.grown HB1.out hg); clear hg)
    | ((with_reducible refine at24S ?_); refine wp_storeB (c := (bcs z256).toArray) HI.out (by rfl) HA.out HB2.out _ _ (by rfl) (by rfl) (by rfl) (by rfl) ?_; intro W5 hb5 ho5; have HB5 := hideJ hb5; have HG5 := hideJ (grown_only HG2.out ho5 (Nat.le_refl _)); clear hb5 ho5))
  refine ret_pair HI.out u24 (by rfl) (by rfl) (by rfl) HB5.out ?_
  exact ⟨rfl, HG5.out⟩
/-- A page of the database, or zeros. -/
def pgZ (l : List UInt8) (n : Nat) : List UInt8 := if 256 * n ≤ l.length then pgL l n else z256
theorem pgZ_length {l : List UInt8} {n : Nat} (h1 : 1 ≤ n) : (pgZ l n).length = 256 := by
  unfold pgZ
  split
  · exact pgL_length h1 (by assumption)
  · exact z256_length
theorem pageF_any (w : World) (base b : Nat) (D : DS) (who : Nat → Nat) (R : Rep w base b D who) {r : Int} {i : Nat} (h : JI r D i) (n : Nat) (h1 : 1 ≤ n) :
    Calls Tryz.prog 87 #[.pointer (some ⟨b, 0, none⟩), .int .i64 (n : Int)] w fun e w' => (∃ x, e = .returned (.tuple #[.agg (bcs (pgZ (seenOf D nmD) n)).toArray, .int .i64 x])) ∧ w.grownBy w' none := by
  unfold pgZ
  by_cases c : 256 * n ≤ (seenOf D nmD).length
  · rw [if_pos c]
    refine (pageF_j w base b D who R h n h1 c).mono ?_
    rintro e w' ⟨rfl, hg⟩
    exact ⟨⟨_, rfl⟩, hg⟩
  · rw [if_neg c]
    refine (pageF_out w base b D who R h n h1 c).mono ?_
    rintro e w' ⟨rfl, hg⟩
    exact ⟨⟨_, rfl⟩, hg⟩
end Go.Proofs.YteocmhbllckpjaaGreat
