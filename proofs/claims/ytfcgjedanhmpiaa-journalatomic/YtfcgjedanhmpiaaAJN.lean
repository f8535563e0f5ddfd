/- Hot; Commit, where nothing is laid aside. -/
/- A page of one byte; a page of the database. -/
import Derived.Test.YtfcgjedanhmpiaaAJL
import Derived.Laws.StructEq
namespace Go.Proofs.Ytfcgjedanhmpiaa
open Go.ChangeShapes Go.WideShapes Go.ChangeAt Go.RowKit
open Go.ChangeMaps (setBlock)
set_option linter.unusedVariables false

theorem okT53 : OkT 53 := by unfold OkT; decide
set_option maxRecDepth 20000 in
theorem hot_j (w : World) (base b : Nat) (D : DS) (who : Nat → Nat) (R : Rep w base b D who) {r : Int} {i : Nat} (h : JI r D i) (x : Bool) (hx : x = decide (hdw (seenOf D nmJ) 0 ≠ 0)) :
    Calls Try.prog 10 #[.pointer (some ⟨b, 0, none⟩)] w fun e w' => e = .returned (.bool x) ∧ w.grownBy w' none := by
  have HH := hideJ (head_j w base b D who R h)
  rw [hd_eq] at HH
  have HX : Hid (∀ y, y = (((hdw (seenOf D nmJ) 0 : Nat) : Int) != 0) → y = x) := fun y hy => by
    rw [hy, hx]
    by_cases e : hdw (seenOf D nmJ) 0 = 0
    · rw [e]; rfl
    · have : ((hdw (seenOf D nmJ) 0 : Nat) : Int) ≠ 0 := by omega
      simp [e]
  generalize hdw (seenOf D nmJ) 0 = a at HH HX
  generalize hdw (seenOf D nmJ) 1 = a1 at HH
  generalize hdw (seenOf D nmJ) 2 = a2 at HH
  generalize hdw (seenOf D nmJ) 3 = a3 at HH
  have hix : ∀ V, (Instr.index 63 (.agg #[.int .u32 (a : Int), .int .u32 (a1 : Int), .int .u32 (a2 : Int), .int .u32 (a3 : Int)]) (.int .i64 0)).run Try.prog V = .ok (.int .u32 (a : Int)) V := fun V => by
    simp [Instr.index, run_underlying Try.underlying63, asIntOf, go_sem]
  clear R h hx
  go_enter Try.func10, Try.ntmps10
  go_wp2_with (go_at_call 29; (with_reducible refine Calls.mono HH.out ?_); rintro e w4 ⟨rfl, hg⟩; have HG := hideJ hg; clear hg)
  go_ret
  refine ⟨?_, HG.out⟩
  rw [← HX.out _ rfl]
  rfl
/-- What all steps make, if each has room. -/
theorem Far.all {r : Int} {f : Vw} {S : Nat → Stp} {n k : Nat} {e : Int} (h : Far r f S n k e) (hf : ∀ j, j < n → (S j).fits r (vw f S j)) : k = n ∧ e = 0 := by
  rcases h.2.2 with h | ⟨h1, h2, _⟩
  · exact h
  · exact absurd (hf k h1) h2

set_option maxHeartbeats 4000000 in
theorem commit_none (w : World) (base b : Nat) (D : DS) (who : Nat → Nat) (R : Rep w base b D who) {r : Int} {i : Nat} (h : JI r D i) (hz : D.fuse = 0) (count old : Nat) (hold : old = (seenOf D nmD).length / 256) (p : Option Addr) (n cap : Nat) (N : Nat → Nat) (L : Nat → List UInt8) (hp : PgA w p n (fun k => (N k : Int)) L) (hn : n ≤ 900) (hi : i + n + 9 ≤ 20000)
    (hmay : MayF old count n (fun k => (N k : Int))) (hcold : hdw (seenOf D nmJ) 0 = 0) (hco : old ≤ count ∧ count ≤ 5000) (hN : ∀ j, j < n → old < N j ∧ 1 ≤ N j ∧ N j ≤ 5000)
    (h1 : ∀ k, k < 5 → (catS (renS (seenOf D nmJ)) 2 (tailS 1 old) k).ok (vw (seenOf D) (catS (renS (seenOf D nmJ)) 2 (tailS 1 old)) k) ∧ (catS (renS (seenOf D nmJ)) 2 (tailS 1 old) k).fits r (vw (seenOf D) (catS (renS (seenOf D nmJ)) 2 (tailS 1 old)) k))
    (h2 : ∀ k, k < n + 4 → (catS (pgS N L) n (endS count) k).ok (vw (vw (seenOf D) (catS (renS (seenOf D nmJ)) 2 (tailS 1 old)) 5) (catS (pgS N L) n (endS count)) k) ∧ (catS (pgS N L) n (endS count) k).fits r (vw (vw (seenOf D) (catS (renS (seenOf D nmJ)) 2 (tailS 1 old)) 5) (catS (pgS N L) n (endS count)) k)) :
    Calls Try.prog 8 #[.pointer (some ⟨b, 0, none⟩), .int .i64 (count : Int), .slice p n cap] w fun e w' => e = .returned (.int .i64 0) ∧ ∃ D' who', RM w D w' base b D' who' ∧ JI r D' (i + 5 + (n + 4)) ∧ seenOf D' = vw (vw (seenOf D) (catS (renS (seenOf D nmJ)) 2 (tailS 1 old)) 5) (catS (pgS N L) n (endS count)) (n + 4) := by
  have ho6 : old ≤ 30 := by rw [hold]; have := h.len nmD; omega
  have HG0 : Hid (w.grownBy (w.alloc (.cells #[.pointer (some ⟨b, 0, none⟩)] 53)) none) := World.grownBy_alloc w (.cells #[.pointer (some ⟨b, 0, none⟩)] 53) none
  have HB0 : Hid (Blk (w.alloc (.cells #[.pointer (some ⟨b, 0, none⟩)] 53)) w.heap.size #[.pointer (some ⟨b, 0, none⟩)] 53) := alloc_new _ _
  have HRf := hideJ (fun V (hV : w.grownBy V none) => refusal_j V base b D who (R.keep hV) h)
  have HCt : Hid (∀ V, w.grownBy V none → Calls Try.prog 9 #[.pointer (some ⟨b, 0, none⟩)] V fun e w' => e = .returned (.int .i64 (old : Int)) ∧ V.grownBy w' none) := fun V hV => by rw [hold]; exact count_j V base b D who (R.keep hV) h
  have HMf : Hid (∀ V, w.grownBy V none → Calls Try.prog 24 #[.int .i64 (old : Int), .int .i64 (count : Int), .slice p n cap] V fun e w' => e = .returned (.bool true) ∧ V.grownBy w' none) := fun V hV => by
    have := mayFollow_j V (old : Int) (count : Int) (by omega) p n cap (fun k => (N k : Int)) L (hp.grown hV) (by omega)
    rw [mayB_iff.2 hmay] at this
    exact this
  have HHt := hideJ (fun V (hV : w.grownBy V none) => hot_j V base b D who (R.keep hV) h false (by rw [hcold]; rfl))
  have HAs := hideJ (fun V (hV : w.grownBy V none) => aside_none V base b D who (R.keep hV) h (count : Int) old hold (by omega) p n cap (fun k => (N k : Int)) L (hp.grown hV) (by omega) (fun j hj => by have := hN j hj; omega))
  obtain ⟨S1, hS1⟩ : ∃ S1, S1 = catS (renS (seenOf D nmJ)) 2 (tailS 1 old) := ⟨_, rfl⟩
  rw [← hS1] at HAs h1 h2 ⊢
  obtain ⟨S2, hS2⟩ : ∃ S2, S2 = catS (pgS N L) n (endS count) := ⟨_, rfl⟩
  rw [← hS2] at h2 ⊢
  have HDo1 : Hid (∀ V q c', w.grownBy V none → StA V b q 5 S1 → Calls Try.prog 25 #[.slice q 5 c'] V fun e w' => e = .returned (.int .i64 0) ∧ ∃ D' who', RM V D w' base b D' who' ∧ JI r D' (i + 5) ∧ seenOf D' = vw (seenOf D) S1 5 ∧ D'.fuse = 0) := fun V q c' hV hst => by
    refine (do_zero V base b D who (R.keep hV) h hz q 5 c' S1 hst (by omega) (fun k hk _ => (h1 k hk).1)).mono ?_
    rintro e w' ⟨k, x, rfl, hF, D', who', g1, g2, g3, g4, _⟩
    obtain ⟨rfl, rfl⟩ := hF.all (fun j hj => (h1 j hj).2)
    exact ⟨rfl, D', who', g1, g2, g3, g4⟩
  have HCh := hideJ (fun V (hV : PgA V p n (fun k => (N k : Int)) L) => change_j V b count (by omega) p n cap N L hV hn (fun j hj => ⟨(hN j hj).2.1, (hN j hj).2.2⟩))
  rw [← hS2] at HCh
  have HDo2 : Hid (∀ V D1 who1 q c', Rep V base b D1 who1 → JI r D1 (i + 5) → seenOf D1 = vw (seenOf D) S1 5 ∧ D1.fuse = 0 → StA V b q (n + 4) S2 → Calls Try.prog 25 #[.slice q (n + 4) c'] V fun e w' => e = .returned (.int .i64 0) ∧ ∃ D' who', RM V D1 w' base b D' who' ∧ JI r D' (i + 5 + (n + 4)) ∧ seenOf D' = vw (vw (seenOf D) S1 5) S2 (n + 4)) := fun V D1 who1 q c' hR hJ hs0 hst => by
    obtain ⟨hs, hz1⟩ := hs0
    refine (do_zero V base b D1 who1 hR hJ hz1 q (n + 4) c' S2 hst (by omega) (fun k hk _ => by rw [hs]; exact (h2 k hk).1)).mono ?_
    rintro e w' ⟨k, x, rfl, hF, D', who', g1, g2, g3, g4, _⟩
    rw [hs] at hF
    obtain ⟨rfl, rfl⟩ := hF.all (fun j hj => (h2 j hj).2)
    rw [hs] at g3
    exact ⟨rfl, D', who', g1, g2, g3⟩
  have HR := hideJ R
  have HP := hideJ hp
  clear R h hp hmay hcold h1 h2 hold hS1 hS2 hN hn hi hco ho6 hz
  go_enter Try.func8, Try.ntmps8
  go_wp2_with (first
    | (go_at_call 21; (with_reducible refine Calls.mono (HRf.out _ HG0.out) ?_); rintro e w1 ⟨rfl, hg⟩; have HG1 := hideJ (grown_trans' HG0.out hg); have HB1 := hideJ (Blk.grown HB0.out hg); clear hg)
    | (go_at_call 9; (with_reducible refine Calls.mono (HCt.out _ HG1.out) ?_); rintro e w2 ⟨rfl, hg⟩; have HG2 := hideJ (grown_trans' HG1.out hg); have HB2 := hideJ (Blk.grown HB1.out hg); clear hg)
    | (go_at_call 24; (with_reducible refine Calls.mono (HMf.out _ HG2.out) ?_); rintro e w3 ⟨rfl, hg⟩; have HG3 := hideJ (grown_trans' HG2.out hg); have HB3 := hideJ (Blk.grown HB2.out hg); clear hg)
    | (go_at_call 10; (with_reducible refine Calls.mono (HHt.out _ HG3.out) ?_); rintro e w4 ⟨rfl, hg⟩; have HG4 := hideJ (grown_trans' HG3.out hg); have HB4 := hideJ (Blk.grown HB3.out hg); have cb4 := box_cell HB4.out; clear hg)
    | (go_at_call 26; (with_reducible refine Calls.mono (HAs.out _ HG4.out) ?_); rintro e w5 ⟨⟨q5, c5, rfl, hst5⟩, hg⟩; have HG5 := hideJ (grown_trans' HG4.out hg); have HB5 := hideJ (Blk.grown HB4.out hg); have HS5 := hideJ hst5; clear hg hst5 cb4)
    | (go_at_call 25; (with_reducible refine Calls.mono (HDo1.out _ _ _ HG5.out HS5.out) ?_); rintro e w6 ⟨rfl, D6, who6, hR6, hJ6, hs6⟩; have HR6 := hideJ (((RM.start HR.out).grown HG5.out).trans hR6); have HJ6 := hideJ (And.intro hJ6 hs6); have HB6 := hideJ (hR6.blk (HR.out.keep HG5.out) HB5.out okT53); have cb6 := box_cell HB6.out; clear hR6 hJ6 hs6)
    | (go_at_call 27; (with_reducible refine Calls.mono (HCh.out _ (HP.out.moved HR.out HR6.out)) ?_); rintro e w7 ⟨⟨q7, c7, rfl, hst7⟩, hg⟩; have HR7 := hideJ (HR6.out.grown hg); have HS7 := hideJ hst7; clear hg hst7)
    | (go_at_call 25; (with_reducible refine Calls.mono (HDo2.out _ _ _ _ _ HR7.out.rep HJ6.out.1 HJ6.out.2 HS7.out) ?_); rintro e w8 ⟨rfl, D8, who8, hR8, hJ8, hs8⟩; have HR8 := hideJ (HR7.out.trans hR8); have HJ8 := hideJ (And.intro hJ8 hs8); clear hR8 hJ8 hs8))
  go_ret
  exact ⟨rfl, D8, who8, HR8.out, HJ8.out.1, HJ8.out.2⟩
theorem commit_arg (w : World) (base b : Nat) (D : DS) (who : Nat → Nat) (R : Rep w base b D who) {r : Int} {i : Nat} (h : JI r D i) (count : Int) (old : Nat) (hold : old = (seenOf D nmD).length / 256) (p : Option Addr) (n cap : Nat) (N : Nat → Int) (L : Nat → List UInt8) (hp : PgA w p n N L) (hn : n ≤ 10000)
    (hmay : ¬ MayF old count n N) :
    Calls Try.prog 8 #[.pointer (some ⟨b, 0, none⟩), .int .i64 count, .slice p n cap] w fun e w' => e = .returned (.int .i64 2) ∧ w.grownBy w' none := by
  have ho6 : old ≤ 30 := by rw [hold]; have := h.len nmD; omega
  have HG0 : Hid (w.grownBy (w.alloc (.cells #[.pointer (some ⟨b, 0, none⟩)] 53)) none) := World.grownBy_alloc w (.cells #[.pointer (some ⟨b, 0, none⟩)] 53) none
  have HRf := hideJ (fun V (hV : w.grownBy V none) => refusal_j V base b D who (R.keep hV) h)
  have HCt : Hid (∀ V, w.grownBy V none → Calls Try.prog 9 #[.pointer (some ⟨b, 0, none⟩)] V fun e w' => e = .returned (.int .i64 (old : Int)) ∧ V.grownBy w' none) := fun V hV => by rw [hold]; exact count_j V base b D who (R.keep hV) h
  have HMf : Hid (∀ V, w.grownBy V none → Calls Try.prog 24 #[.int .i64 (old : Int), .int .i64 count, .slice p n cap] V fun e w' => e = .returned (.bool false) ∧ V.grownBy w' none) := fun V hV => by
    have := mayFollow_j V (old : Int) count (by omega) p n cap N L (hp.grown hV) (by omega)
    rw [mayB_not hmay] at this
    exact this
  clear R h hp hmay hold hn ho6
  go_enter Try.func8, Try.ntmps8
  go_wp2_with (first
    | (go_at_call 21; (with_reducible refine Calls.mono (HRf.out _ HG0.out) ?_); rintro e w1 ⟨rfl, hg⟩; have HG1 := hideJ (grown_trans' HG0.out hg); clear hg)
    | (go_at_call 9; (with_reducible refine Calls.mono (HCt.out _ HG1.out) ?_); rintro e w2 ⟨rfl, hg⟩; have HG2 := hideJ (grown_trans' HG1.out hg); clear hg)
    | (go_at_call 24; (with_reducible refine Calls.mono (HMf.out _ HG2.out) ?_); rintro e w3 ⟨rfl, hg⟩; have HG3 := hideJ (grown_trans' HG2.out hg); clear hg))
  go_ret
  exact ⟨rfl, HG3.out⟩
end Go.Proofs.Ytfcgjedanhmpiaa

namespace Go.Proofs.Ytfcgjedanhmpiaa
open Go.ChangeShapes Go.WideShapes Go.ChangeAt Go.RowKit
open Go.ChangeMaps (setBlock)
set_option linter.unusedVariables false

def z256 : List UInt8 := List.replicate 256 0
theorem info24 : (Try.prog.info? 24).map (·.size) = some 256 := by kernel_rfl
theorem u24 : ∃ d, Try.prog.underlying 24 = some d ∧ d.isRow = true := ⟨_, Try.underlying24, rfl⟩
theorem size24 {l : List UInt8} (h : l.length = 256) : (Try.prog.info? 24).map (·.size) = some (bcs l).toArray.size := by rw [List.size_toArray, length_bcs, h]; exact info24
theorem zc24 : Try.zeroCells24 = (bcs z256).toArray := by kernel_rfl
theorem new24 (V : World) : Blk (V.alloc (.cells Try.zeroCells24 24)) V.heap.size (bcs z256).toArray 24 := by rw [zc24]; exact alloc_new _ _
theorem bcs_set (l : List UInt8) (k : Nat) (x : UInt8) : (bcs l).toArray.setIfInBounds k (.int .u8 (x.toNat : Int)) = (bcs (l.set k x)).toArray := by simp [bcs, List.map_set]
theorem z256_length : z256.length = 256 := List.length_replicate ..
def fullL (x : UInt8) : List UInt8 := List.replicate 256 x
theorem fullL_length (x : UInt8) : (fullL x).length = 256 := List.length_replicate ..
/-- The first j bytes are laid. -/
def partL (x : UInt8) (j : Nat) : List UInt8 := List.replicate j x ++ List.replicate (256 - j) 0
theorem partL_length (x : UInt8) {j : Nat} (h : j ≤ 256) : (partL x j).length = 256 := by simp [partL]; omega
theorem partL_set (x : UInt8) {j : Nat} (h : j < 256) : (partL x j).set j x = partL x (j + 1) := by
  unfold partL
  rw [List.set_append_right _ _ (by simp), List.length_replicate, Nat.sub_self, show 256 - j = (256 - (j + 1)) + 1 by omega, List.replicate_succ, List.set_cons_zero, List.replicate_succ', List.append_assoc]
  rfl

set_option maxHeartbeats 2000000 in
set_option maxRecDepth 20000 in
theorem full_j (w : World) (x : UInt8) : Calls Try.prog 30 #[.int .u8 (x.toNat : Int)] w fun e w' => e = .returned (.agg (bcs (fullL x)).toArray) ∧ w.grownBy w' none := by
  have HN1 := hideJ (new24 w)
  have HN2 : Hid (Blk ((w.alloc (.cells Try.zeroCells24 24)).alloc (.cells Try.zeroCells24 24)) (w.heap.size + 1) (bcs z256).toArray 24) := by
    have := new24 (w.alloc (.cells Try.zeroCells24 24))
    rw [show (w.alloc (.cells Try.zeroCells24 24)).heap.size = w.heap.size + 1 by simp] at this
    exact this
  have HB1 : Hid (Blk ((w.alloc (.cells Try.zeroCells24 24)).alloc (.cells Try.zeroCells24 24)) w.heap.size (bcs z256).toArray 24) := (Below.heap_alloc _ _ _ HN1.out.lt).trans HN1.out
  have HG : Hid (w.grownBy ((w.alloc (.cells Try.zeroCells24 24)).alloc (.cells Try.zeroCells24 24)) none) := grown_trans' (World.grownBy_alloc _ _ _) (World.grownBy_alloc _ _ _)
  have HI := hideJ (size24 (fullL_length x))
  have HA := hideJ (bytes_all (fullL x))
  have HSz : Hid ((bcs (fullL x)).toArray.size = (bcs z256).toArray.size) := by show _ = _; rw [List.size_toArray, List.size_toArray, length_bcs, length_bcs, fullL_length, z256_length]
  go_enter Try.func30, Try.ntmps30
  go_wp2
  go_loopw [4] (fun iv wr => ∃ j : Nat, j ≤ 256 ∧ iv = .int .i64 (j : Int) ∧ Blk wr (w.heap.size + 1) (bcs (partL x j)).toArray 24 ∧ Blk wr w.heap.size (bcs z256).toArray 24 ∧ w.grownBy wr none) (fun iv _ => 256 - (intOf iv).toNat)
  case atStart => exact ⟨0, Nat.zero_le _, rfl, HN2.out, HB1.out, HG.out⟩
  case round =>
    obtain ⟨j, hj, rfl, hb, hb1, hg⟩ := hrel
    have HBj := hideJ hb
    have HB1j := hideJ hb1
    have HGj := hideJ hg
    clear hb hb1 hg
    by_cases hlt : j < 256
    · have l1 : (j : Int) < 256 := by omega
      have l0 : (0 : Int) ≤ (j : Int) := by omega
      have hw1 : IntKind.i64.wrap ((j : Int) + 1) = (j : Int) + 1 := by rw [IntKind.wrap_i64]; omega
      have cj : ∃ y : Int, wr.cell? ⟨w.heap.size + 1, j, none⟩ = some (.int .u8 y) := by
        rw [HBj.out.cell]
        have hl := partL_length x (Nat.le_of_lt hlt)
        obtain ⟨v, hv⟩ : ∃ v, (partL x j)[j]? = some v := ⟨_, List.getElem?_eq_getElem (by omega)⟩
        exact ⟨(v.toNat : Int), by simp [bcs, hv]⟩
      obtain ⟨y, cj⟩ := cj
      have fj := HBj.out.frozen j
      have HK := hideJ hlt
      go_wp2
      refine ⟨⟨j + 1, HK.out, rfl, ?_, ?_, ?_⟩, ?_⟩
      · have := Blk.set HBj.out j (.int .u8 (x.toNat : Int))
        rw [bcs_set, partL_set x HK.out] at this
        exact this
      · exact (Only.setCell wr ⟨w.heap.size + 1, j, none⟩ _).blk HB1j.out (by simp)
      · exact grown_only HGj.out (Only.setCell wr ⟨w.heap.size + 1, j, none⟩ _) (Nat.le_succ _)
      · simp only [intOf]; have := HK.out; omega
    · obtain rfl : j = 256 := by omega
      have HBf : Hid (Blk wr (w.heap.size + 1) (bcs (fullL x)).toArray 24) := by
        have := HBj.out
        rw [show partL x 256 = fullL x by simp [partL, fullL]] at this
        exact this
      go_wp2_with (first
        | ((with_reducible refine at24L ?_); refine wp_loadB HI.out u24 HBf.out _ (by rfl) (by rfl) (by rfl) ?_)
        | ((with_reducible refine at24S ?_); refine wp_storeB HI.out HSz.out HA.out HB1j.out _ _ (by rfl) (by rfl) (by rfl) (by rfl) ?_; intro W5 hb5 ho5; have HB5 := hideJ hb5; have HG5 := hideJ (grown_only HGj.out ho5 (Nat.le_refl _)); clear hb5 ho5))
      refine ret_blk HI.out u24 (by rfl) (by rfl) HB5.out ?_
      exact ⟨rfl, HG5.out⟩

theorem only_blk {w w' : World} {g k : Nat} {c : Array Value} {t : TypeId} (h : Blk w k c t) (ho : Only [g] w w') (hn : k ≠ g) : Blk w' k c t := ho.blk h (by simpa using hn)
/-- The bytes of a page of the database. -/
def pgL (l : List UInt8) (n : Nat) : List UInt8 := (l.drop (256 * (n - 1))).take 256
theorem pgL_length {l : List UInt8} {n : Nat} (h1 : 1 ≤ n) (h : 256 * n ≤ l.length) : (pgL l n).length = 256 := by unfold pgL; rw [List.length_take, List.length_drop]; omega

set_option maxHeartbeats 2000000 in
set_option maxRecDepth 20000 in
theorem page_j (w : World) (base b : Nat) (D : DS) (who : Nat → Nat) (R : Rep w base b D who) {r : Int} {i : Nat} (h : JI r D i) (n : Nat) (h1 : 1 ≤ n) (hn : 256 * n ≤ (seenOf D nmD).length) :
    Calls Try.prog 22 #[.agg #[.pointer (some ⟨b, 0, none⟩)], .int .i64 (n : Int)] w fun e w' => e = .returned (.agg (bcs (pgL (seenOf D nmD) n)).toArray) ∧ w.grownBy w' none := by
  have hlen := h.len nmD
  have hpl := pgL_length h1 hn
  obtain ⟨W, hW⟩ : ∃ W, W = ((w.alloc (.cells #[.pointer (some ⟨b, 0, none⟩)] 53)).alloc (.cells Try.zeroCells24 24)).alloc (.cells Try.zeroCells24 24) := ⟨_, rfl⟩
  have hg0 : w.grownBy W none := by rw [hW]; exact grown_trans' (grown_trans' (World.grownBy_alloc _ _ _) (World.grownBy_alloc _ _ _)) (World.grownBy_alloc _ _ _)
  have hbx : Blk W w.heap.size #[.pointer (some ⟨b, 0, none⟩)] 53 := by
    rw [hW]; exact (Below.heap_alloc _ _ _ (by simp <;> omega)).trans ((Below.heap_alloc _ _ _ (by simp)).trans (alloc_new _ _))
  have hbr : Blk W (w.heap.size + 1) (bcs z256).toArray 24 := by
    have := new24 (w.alloc (.cells #[.pointer (some ⟨b, 0, none⟩)] 53))
    rw [show (w.alloc (.cells #[.pointer (some ⟨b, 0, none⟩)] 53)).heap.size = w.heap.size + 1 by simp] at this
    rw [hW]; exact (Below.heap_alloc _ _ _ (by simp)).trans this
  have hbp : Blk W (w.heap.size + 2) (bcs z256).toArray 24 := by
    have := new24 ((w.alloc (.cells #[.pointer (some ⟨b, 0, none⟩)] 53)).alloc (.cells Try.zeroCells24 24))
    rw [show ((w.alloc (.cells #[.pointer (some ⟨b, 0, none⟩)] 53)).alloc (.cells Try.zeroCells24 24)).heap.size = w.heap.size + 2 by simp] at this
    rw [hW]; exact this
  have HPs := hideJ (fun V => pageStart_j V n h1 (by omega))
  have HRd : Hid (∀ V, w.grownBy V none → Calls Try.prog 33 #[.pointer (some ⟨b, 0, none⟩), .string nmD, .int .i64 ((256 * (n - 1) : Nat) : Int), .int .i64 256] V fun e w' => e = .returned (.tuple #[.string (bstr (pgL (seenOf D nmD) n)), .int .i64 0]) ∧ V.grownBy w' none) := fun V hV =>
    Read_in V base b D who (R.keep hV) h.down nmD (256 * (n - 1)) 256 (by omega) (by omega) (by omega)
  obtain ⟨A, hA⟩ : ∃ A, A = 256 * (n - 1) := ⟨_, rfl⟩
  rw [← hA] at HPs HRd
  generalize pgL (seenOf D nmD) n = P at HRd hpl ⊢
  obtain ⟨s, hs⟩ : ∃ s, s = bstr P := ⟨_, rfl⟩
  have HSd : Hid (s.data.toList = P ∧ s.size = 256) := ⟨by rw [hs]; simp [bstr], by rw [hs]; simp [bstr, ByteArray.size, hpl]⟩
  rw [← hs] at HRd
  have HI := hideJ (size24 hpl)
  have HAl := hideJ (bytes_all P)
  have HSz : Hid ((bcs P).toArray.size = (bcs z256).toArray.size) := by show _ = _; rw [List.size_toArray, List.size_toArray, length_bcs, length_bcs, hpl, z256_length]
  have HG := hideJ hg0
  have HBx := hideJ hbx
  have HBr := hideJ hbr
  have HBp := hideJ hbp
  clear R h hg0 hbx hbr hbp hs hA hlen hpl hn h1
  subst hW
  go_enter Try.func22, Try.ntmps22
  go_upto_region 2 with fail
  go_name_world W hW
  rw [hW] at HG HBx HBr HBp
  have HSG : Hid (∀ V, W.drew.grownBy V none → V.cell? ⟨w.heap.size, 0, none⟩ = some (.pointer (some ⟨b, 0, none⟩))) := fun V hV => box_cell (Blk.grown (box_drew HBx.out) hV)
  have HS0 := hideJ (HSG.out _ (grown_refl _))
  have HD := hideJ (grown_trans' HG.out (World.grownBy_drew W))
  go_region_held3 (fun V => V.cell? ⟨w.heap.size, 0, none⟩ = some (.pointer (some ⟨b, 0, none⟩))) (first | with_reducible exact HS0.out | with_reducible exact HS1.out) (first
    | (go_at_call 34; (with_reducible refine Calls.mono (HPs.out _) ?_); rintro e y1 ⟨rfl, rfl⟩)
    | (go_at_call 33; (with_reducible refine Calls.mono (HRd.out _ HD.out) ?_); rintro e y2 ⟨rfl, hg⟩; have HY2 := hideJ hg; have HS1 := hideJ (HSG.out _ hg); clear hg))
  have HBr2 : Hid (Blk y2 (w.heap.size + 1) (bcs z256).toArray 24) := Blk.grown (show Blk W.drew (w.heap.size + 1) (bcs z256).toArray 24 from HBr.out) HY2.out
  have HBp2 : Hid (Blk y2 (w.heap.size + 2) (bcs z256).toArray 24) := Blk.grown (show Blk W.drew (w.heap.size + 2) (bcs z256).toArray 24 from HBp.out) HY2.out
  have HG2 := hideJ (grown_trans' HD.out HY2.out)
  go_wp2_with (first
    | ((with_reducible refine atCopy ?_); refine wp_copyB (z := z256) HBp2.out (by rw [HSd.out.2]; exact Nat.le_refl _) _ _ (by rfl) (by rfl) (by rfl) (by rfl) ?_; intro W5 hb5 ho5; rw [HSd.out.1, HSd.out.2, show z256.drop 256 = [] from rfl, List.append_nil] at hb5; have HB5 := hideJ hb5; have HG5 := hideJ (grown_only HG2.out ho5 (by omega)); have HBr5 := hideJ (only_blk HBr2.out ho5 (by omega)); clear hb5 ho5)
    | ((with_reducible refine at24L ?_); refine wp_loadB HI.out u24 HB5.out _ (by rfl) (by rfl) (by rfl) ?_)
    | ((with_reducible refine at24S ?_); refine wp_storeB HI.out HSz.out HAl.out HBr5.out _ _ (by rfl) (by rfl) (by rfl) (by rfl) ?_; intro W6 hb6 ho6; have HB6 := hideJ hb6; have HG6 := hideJ (grown_only HG5.out ho6 (by omega)); clear hb6 ho6))
  refine ret_blk HI.out u24 (by rfl) (by rfl) HB6.out ?_
  exact ⟨rfl, HG6.out⟩
end Go.Proofs.Ytfcgjedanhmpiaa
