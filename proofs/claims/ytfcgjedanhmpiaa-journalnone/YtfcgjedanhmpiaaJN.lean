/- A page of one byte; a page of the database. -/
import Derived.Test.YtfcgjedanhmpiaaJM
import Derived.Laws.StructEq
namespace Go.Proofs.Ytfcgjedanhmpiaa
open Go.ChangeShapes Go.WideShapes Go.ChangeAt Go.RowKit
open Go.ChangeMaps (setBlock)
set_option linter.unusedVariables false

def z256 : List UInt8 := List.replicate 256 0
theorem info24 : (Try.prog.info? 24).map (·.size) = some 256 := by kernel_rfl
theorem u24 : ∃ d, Try.prog.underlying 24 = some d ∧ d.isRow = true := ⟨_, Try.underlying24, rfl⟩
theorem size24 {l : List UInt8} (h : l.length = 256) : (Try.prog.info? 24).map (·.size) = some (bcs l).toArray.size := by rw [List.size_toArray, length_bcs, h]; exact info24
theorem zc24 : Try.zeroCells24 = (bcs z256).toArray := by kernel_rfl
theorem new24 (V : World) : Blk (V.alloc (.cells Try.zeroCells24 24)) V.heap.size (bcs z256).toArray 24 := by rw [zc24]; exact alloc_new _ _
theorem bcs_set (l : List UInt8) (k : Nat) (x : UInt8) : (bcs l).toArray.setIfInBounds k (.int .u8 (x.toNat : Int)) = (bcs (l.set k x)).toArray := by simp [bcs, List.map_set]
theorem z256_length : z256.length = 256 := List.length_replicate ..
def fullL (x : UInt8) : List UInt8 := List.replicate 256 x
theorem fullL_length (x : UInt8) : (fullL x).length = 256 := List.length_replicate ..
/-- The first j bytes are laid. -/
def partL (x : UInt8) (j : Nat) : List UInt8 := List.replicate j x ++ List.replicate (256 - j) 0
theorem partL_length (x : UInt8) {j : Nat} (h : j ≤ 256) : (partL x j).length = 256 := by simp [partL]; omega
theorem partL_set (x : UInt8) {j : Nat} (h : j < 256) : (partL x j).set j x = partL x (j + 1) := by
  unfold partL
  rw [List.set_append_right _ _ (by simp), List.length_replicate, Nat.sub_self, show 256 - j = (256 - (j + 1)) + 1 by omega, List.replicate_succ, List.set_cons_zero, List.replicate_succ', List.append_assoc]
  rfl

set_option maxHeartbeats 2000000 in
set_option maxRecDepth 20000 in
theorem full_j (w : World) (x : UInt8) : Calls Try.prog 30 #[.int .u8 (x.toNat : Int)] w fun e w' => e = .returned (.agg (bcs (fullL x)).toArray) ∧ w.grownBy w' none := by
  have HN1 := hideJ (new24 w)
  have HN2 : Hid (Blk ((w.alloc (.cells Try.zeroCells24 24)).alloc (.cells Try.zeroCells24 24)) (w.heap.size + 1) (bcs z256).toArray 24) := by
    have := new24 (w.alloc (.cells Try.zeroCells24 24))
    rw [show (w.alloc (.cells Try.zeroCells24 24)).heap.size = w.heap.size + 1 by simp] at this
    exact this
  have HB1 : Hid (Blk ((w.alloc (.cells Try.zeroCells24 24)).alloc (.cells Try.zeroCells24 24)) w.heap.size (bcs z256).toArray 24) := (Below.heap_alloc _ _ _ HN1.out.lt).trans HN1.out
  have HG : Hid (w.grownBy ((w.alloc (.cells Try.zeroCells24 24)).alloc (.cells Try.zeroCells24 24)) none) := grown_trans' (World.grownBy_alloc _ _ _) (World.grownBy_alloc _ _ _)
  have HI := hideJ (size24 (fullL_length x))
  have HA := hideJ (bytes_all (fullL x))
  have HSz : Hid ((bcs (fullL x)).toArray.size = (bcs z256).toArray.size) := by show _ = _; rw [List.size_toArray, List.size_toArray, length_bcs, length_bcs, fullL_length, z256_length]
  go_enter Try.func30, Try.ntmps30
  go_wp2
  go_loopw [4] (fun iv wr => ∃ j : Nat, j ≤ 256 ∧ iv = .int .i64 (j : Int) ∧ Blk wr (w.heap.size + 1) (bcs (partL x j)).toArray 24 ∧ Blk wr w.heap.size (bcs z256).toArray 24 ∧ w.grownBy wr none) (fun iv _ => 256 - (intOf iv).toNat)
  case atStart => exact ⟨0, Nat.zero_le _, rfl, HN2.out, HB1.out, HG.out⟩
  case round =>
    obtain ⟨j, hj, rfl, hb, hb1, hg⟩ := hrel
    have HBj := hideJ hb
    have HB1j := hideJ hb1
    have HGj := hideJ hg
    clear hb hb1 hg
    by_cases hlt : j < 256
    · have l1 : (j : Int) < 256 := by omega
      have l0 : (0 : Int) ≤ (j : Int) := by omega
      have hw1 : IntKind.i64.wrap ((j : Int) + 1) = (j : Int) + 1 := by rw [IntKind.wrap_i64]; omega
      have cj : ∃ y : Int, wr.cell? ⟨w.heap.size + 1, j, none⟩ = some (.int .u8 y) := by
        rw [HBj.out.cell]
        have hl := partL_length x (Nat.le_of_lt hlt)
        obtain ⟨v, hv⟩ : ∃ v, (partL x j)[j]? = some v := ⟨_, List.getElem?_eq_getElem (by omega)⟩
        exact ⟨(v.toNat : Int), by simp [bcs, hv]⟩
      obtain ⟨y, cj⟩ := cj
      have fj := HBj.out.frozen j
      have HK := hideJ hlt
      go_wp2
      refine ⟨⟨j + 1, HK.out, rfl, ?_, ?_, ?_⟩, ?_⟩
      · have := Blk.set HBj.out j (.int .u8 (x.toNat : Int))
        rw [bcs_set, partL_set x HK.out] at this
        exact this
      · exact (Only.setCell wr ⟨w.heap.size + 1, j, none⟩ _).blk HB1j.out (by simp)
      · exact grown_only HGj.out (Only.setCell wr ⟨w.heap.size + 1, j, none⟩ _) (Nat.le_succ _)
      · simp only [intOf]; have := HK.out; omega
    · obtain rfl : j = 256 := by omega
      have HBf : Hid (Blk wr (w.heap.size + 1) (bcs (fullL x)).toArray 24) := by
        have := HBj.out
        rw [show partL x 256 = fullL x by simp [partL, fullL]] at this
        exact this
      go_wp2_with (first
        | ((with_reducible refine at24L ?_); refine wp_loadB HI.out u24 HBf.out _ (by rfl) (by rfl) (by rfl) ?_)
        | ((with_reducible refine at24S ?_); refine wp_storeB HI.out HSz.out HA.out HB1j.out _ _ (by rfl) (by rfl) (by rfl) (by rfl) ?_; intro W5 hb5 ho5; have HB5 := hideJ hb5; have HG5 := hideJ (grown_only HGj.out ho5 (Nat.le_refl _)); clear hb5 ho5))
      refine ret_blk HI.out u24 (by rfl) (by rfl) HB5.out ?_
      exact ⟨rfl, HG5.out⟩

theorem only_blk {w w' : World} {g k : Nat} {c : Array Value} {t : TypeId} (h : Blk w k c t) (ho : Only [g] w w') (hn : k ≠ g) : Blk w' k c t := ho.blk h (by simpa using hn)
/-- The bytes of a page of the database. -/
def pgL (l : List UInt8) (n : Nat) : List UInt8 := (l.drop (256 * (n - 1))).take 256
theorem pgL_length {l : List UInt8} {n : Nat} (h1 : 1 ≤ n) (h : 256 * n ≤ l.length) : (pgL l n).length = 256 := by unfold pgL; rw [List.length_take, List.length_drop]; omega

set_option maxHeartbeats 2000000 in
set_option maxRecDepth 20000 in
theorem page_j (w : World) (base b : Nat) (D : DS) (who : Nat → Nat) (R : Rep w base b D who) {r : Int} {i : Nat} (h : JI r D i) (n : Nat) (h1 : 1 ≤ n) (hn : 256 * n ≤ (seenOf D nmD).length) :
    Calls Try.prog 22 #[.agg #[.pointer (some ⟨b, 0, none⟩)], .int .i64 (n : Int)] w fun e w' => e = .returned (.agg (bcs (pgL (seenOf D nmD) n)).toArray) ∧ w.grownBy w' none := by
  have hlen := h.len nmD
  have hpl := pgL_length h1 hn
  obtain ⟨W, hW⟩ : ∃ W, W = ((w.alloc (.cells #[.pointer (some ⟨b, 0, none⟩)] 53)).alloc (.cells Try.zeroCells24 24)).alloc (.cells Try.zeroCells24 24) := ⟨_, rfl⟩
  have hg0 : w.grownBy W none := by rw [hW]; exact grown_trans' (grown_trans' (World.grownBy_alloc _ _ _) (World.grownBy_alloc _ _ _)) (World.grownBy_alloc _ _ _)
  have hbx : Blk W w.heap.size #[.pointer (some ⟨b, 0, none⟩)] 53 := by
    rw [hW]; exact (Below.heap_alloc _ _ _ (by simp <;> omega)).trans ((Below.heap_alloc _ _ _ (by simp)).trans (alloc_new _ _))
  have hbr : Blk W (w.heap.size + 1) (bcs z256).toArray 24 := by
    have := new24 (w.alloc (.cells #[.pointer (some ⟨b, 0, none⟩)] 53))
    rw [show (w.alloc (.cells #[.pointer (some ⟨b, 0, none⟩)] 53)).heap.size = w.heap.size + 1 by simp] at this
    rw [hW]; exact (Below.heap_alloc _ _ _ (by simp)).trans this
  have hbp : Blk W (w.heap.size + 2) (bcs z256).toArray 24 := by
    have := new24 ((w.alloc (.cells #[.pointer (some ⟨b, 0, none⟩)] 53)).alloc (.cells Try.zeroCells24 24))
    rw [show ((w.alloc (.cells #[.pointer (some ⟨b, 0, none⟩)] 53)).alloc (.cells Try.zeroCells24 24)).heap.size = w.heap.size + 2 by simp] at this
    rw [hW]; exact this
  have HPs := hideJ (fun V => pageStart_j V n h1 (by omega))
  have HRd : Hid (∀ V, w.grownBy V none → Calls Try.prog 33 #[.pointer (some ⟨b, 0, none⟩), .string nmD, .int .i64 ((256 * (n - 1) : Nat) : Int), .int .i64 256] V fun e w' => e = .returned (.tuple #[.string (bstr (pgL (seenOf D nmD) n)), .int .i64 0]) ∧ V.grownBy w' none) := fun V hV =>
    Read_in V base b D who (R.keep hV) h.down nmD (256 * (n - 1)) 256 (by omega) (by omega) (by omega)
  obtain ⟨A, hA⟩ : ∃ A, A = 256 * (n - 1) := ⟨_, rfl⟩
  rw [← hA] at HPs HRd
  generalize pgL (seenOf D nmD) n = P at HRd hpl ⊢
  obtain ⟨s, hs⟩ : ∃ s, s = bstr P := ⟨_, rfl⟩
  have HSd : Hid (s.data.toList = P ∧ s.size = 256) := ⟨by rw [hs]; simp [bstr], by rw [hs]; simp [bstr, ByteArray.size, hpl]⟩
  rw [← hs] at HRd
  have HI := hideJ (size24 hpl)
  have HAl := hideJ (bytes_all P)
  have HSz : Hid ((bcs P).toArray.size = (bcs z256).toArray.size) := by show _ = _; rw [List.size_toArray, List.size_toArray, length_bcs, length_bcs, hpl, z256_length]
  have HG := hideJ hg0
  have HBx := hideJ hbx
  have HBr := hideJ hbr
  have HBp := hideJ hbp
  clear R h hg0 hbx hbr hbp hs hA hlen hpl hn h1
  subst hW
  go_enter Try.func22, Try.ntmps22
  go_upto_region 2 with fail
  go_name_world W hW
  rw [hW] at HG HBx HBr HBp
  have HSG : Hid (∀ V, W.drew.grownBy V none → V.cell? ⟨w.heap.size, 0, none⟩ = some (.pointer (some ⟨b, 0, none⟩))) := fun V hV => box_cell (Blk.grown (box_drew HBx.out) hV)
  have HS0 := hideJ (HSG.out _ (grown_refl _))
  have HD := hideJ (grown_trans' HG.out (World.grownBy_drew W))
  go_region_held3 (fun V => V.cell? ⟨w.heap.size, 0, none⟩ = some (.pointer (some ⟨b, 0, none⟩))) (first | with_reducible exact HS0.out | with_reducible exact HS1.out) (first
    | (go_at_call 34; (with_reducible refine Calls.mono (HPs.out _) ?_); rintro e y1 ⟨rfl, rfl⟩)
    | (go_at_call 33; (with_reducible refine Calls.mono (HRd.out _ HD.out) ?_); rintro e y2 ⟨rfl, hg⟩; have HY2 := hideJ hg; have HS1 := hideJ (HSG.out _ hg); clear hg))
  have HBr2 : Hid (Blk y2 (w.heap.size + 1) (bcs z256).toArray 24) := Blk.grown (show Blk W.drew (w.heap.size + 1) (bcs z256).toArray 24 from HBr.out) HY2.out
  have HBp2 : Hid (Blk y2 (w.heap.size + 2) (bcs z256).toArray 24) := Blk.grown (show Blk W.drew (w.heap.size + 2) (bcs z256).toArray 24 from HBp.out) HY2.out
  have HG2 := hideJ (grown_trans' HD.out HY2.out)
  go_wp2_with (first
    | ((with_reducible refine atCopy ?_); refine wp_copyB (z := z256) HBp2.out (by rw [HSd.out.2]; exact Nat.le_refl _) _ _ (by rfl) (by rfl) (by rfl) (by rfl) ?_; intro W5 hb5 ho5; rw [HSd.out.1, HSd.out.2, show z256.drop 256 = [] from rfl, List.append_nil] at hb5; have HB5 := hideJ hb5; have HG5 := hideJ (grown_only HG2.out ho5 (by omega)); have HBr5 := hideJ (only_blk HBr2.out ho5 (by omega)); clear hb5 ho5)
    | ((with_reducible refine at24L ?_); refine wp_loadB HI.out u24 HB5.out _ (by rfl) (by rfl) (by rfl) ?_)
    | ((with_reducible refine at24S ?_); refine wp_storeB HI.out HSz.out HAl.out HBr5.out _ _ (by rfl) (by rfl) (by rfl) (by rfl) ?_; intro W6 hb6 ho6; have HB6 := hideJ hb6; have HG6 := hideJ (grown_only HG5.out ho6 (by omega)); clear hb6 ho6))
  refine ret_blk HI.out u24 (by rfl) (by rfl) HB6.out ?_
  exact ⟨rfl, HG6.out⟩
end Go.Proofs.Ytfcgjedanhmpiaa
