/- What a sector says: the contract of Open. -/
import Derived.Test.YtfcgjedanhmpiaaS3
import Derived.Deep.RegionHeld3
import Derived.Deep.Cut
namespace Go.Proofs.Ytfcgjedanhmpiaa
open Go.ChangeShapes Go.WideShapes Go.ChangeAt Go.RowKit
set_option linter.unusedVariables false

theorem info42s : (Try.prog.info? 97).map (·.size) = some 64 := by kernel_rfl
theorem info40s : (Try.prog.info? 63).map (·.size) = some 4 := by kernel_rfl
theorem range_of_blk {w : World} {b : Nat} {C : Array Value} {t : TypeId} (hb : Blk w b C t) : w.rangeAt b 0 C.toList := fun j v hv => by
  rw [Nat.zero_add, hb.cell]; simpa using hv

theorem grown2 {a b c : World} (h : a.grownBy b none) (k : b.grownBy c none) : a.grownBy c none :=
  ⟨k.os.trans h.os, k.tape.trans h.tape, k.output.trans h.output, Nat.le_trans h.size k.size, fun i hi _ => (k.block i (Nat.lt_of_lt_of_le hi h.size) (by simp)).trans (h.block i hi (by simp))⟩

theorem three_more (w : World) (A B C : Obj) : (((w.alloc A).alloc B).alloc C).heap.size = w.heap.size + 3 ∧ (((w.alloc A).alloc B).alloc C).heap[w.heap.size + 1]? = some B ∧ (((w.alloc A).alloc B).alloc C).heap[w.heap.size + 2]? = some C := by
  obtain ⟨h1, h2, h3, h4⟩ := two_alloc w A B
  refine ⟨by simp, (Below.heap_alloc _ _ _ (by omega)).trans h4, ?_⟩
  have := alloc_new ((w.alloc A).alloc B) C
  rw [h2] at this
  exact this

theorem set_four {w w4 : World} {g : Nat} {a b c d : Value} (hb : Blk w4 g #[.int .u32 0, .int .u32 0, .int .u32 0, .int .u32 0] 63) (hgr : w.grownBy w4 none) (hlt : w.heap.size ≤ g) {tmps : Array Value} (ht : tmps.getD 2 undef = .pointer (some ⟨g, 0, none⟩)) :
    bodyPost Try.prog Try.f47 (fun e w' => e = .returned (.agg #[a, b, c, d]) ∧ w.grownBy w' none) Exit.ret { tmps := tmps, defers := [] } ((((w4.setCell ⟨g, 0, none⟩ a).setCell ⟨g, 1, none⟩ b).setCell ⟨g, 2, none⟩ c).setCell ⟨g, 3, none⟩ d) := by
  have h := (((hb.set 0 a).set 1 b).set 2 c).set 3 d
  refine bodyPost_ret (v := .agg #[a, b, c, d]) (results_cell_row Try.results47 _ _ g 63 _ (0, 0) _ ht (by simpa using h) Try.underlying63 rfl info40s) rfl ⟨rfl, ?_⟩
  have hO := (((onlyAt w4 g 0 a).trans (onlyAt _ g 1 b)).trans (onlyAt _ g 2 c)).trans (onlyAt _ g 3 d)
  exact ⟨hO.os.trans hgr.os, hO.tape.trans hgr.tape, hO.output.trans hgr.output, Nat.le_trans hgr.size hO.size, fun k hk _ => (hO.block k (Nat.lt_of_lt_of_le hk hgr.size) (by simp; omega)).trans (hgr.block k hk (by simp))⟩

set_option maxHeartbeats 1000000 in
set_option maxRecDepth 100000 in
theorem open_any (w : World) (l : List UInt8) (hl : l.length = 64) :
    Calls Try.prog 47 #[.agg (bcs l).toArray] w fun e w' => e = .returned (.agg (sayV l)) ∧ w.grownBy w' none := by
  have C0 := fun w => sealedCopy_any w l hl 0 (by simp)
  have C1 := fun w => sealedCopy_any w l hl 1 (by simp)
  have C2 := fun w => sealedCopy_any w l hl 2 (by simp)
  simp only [copyV] at C0 C1 C2
  have hsay : sayV l = if ((((wordAt l (16 * 0) : Int) == (wordAt l (16 * 1) : Int)) && ((wordAt l (16 * 0 + 4) : Int) == (wordAt l (16 * 1 + 4) : Int)) && ((wordAt l (16 * 0 + 8) : Int) == (wordAt l (16 * 1 + 8) : Int)) && ((wordAt l (16 * 0 + 12) : Int) == (wordAt l (16 * 1 + 12) : Int)))) then copyV l 0 else copyV l 2 := by
    unfold sayV sameCopy
    simp only [Int.natCast_inj, Bool.and_eq_true, beq_iff_eq]
  rw [hsay]
  simp only [copyV]
  obtain ⟨S, hS⟩ : ∃ S : Array Value, S = (bcs l).toArray := ⟨_, rfl⟩
  have hSs : S.size = 64 := by rw [hS]; simp [length_bcs, hl]
  have hS1 : S.all (·.oneCell') = true := by rw [hS]; exact Array.all_eq_true_iff_forall_mem.2 (fun v hv => one_bcs _ v (by simpa using hv))
  rw [← hS] at C0 C1 C2 ⊢
  clear hS hsay
  generalize wordAt l (16 * 0) = p0 at *
  generalize wordAt l (16 * 0 + 4) = p1 at *
  generalize wordAt l (16 * 0 + 8) = p2 at *
  generalize wordAt l (16 * 0 + 12) = p3 at *
  generalize wordAt l (16 * 1) = q0 at *
  generalize wordAt l (16 * 1 + 4) = q1 at *
  generalize wordAt l (16 * 1 + 8) = q2 at *
  generalize wordAt l (16 * 1 + 12) = q3 at *
  generalize wordAt l (16 * 2) = r0 at *
  generalize wordAt l (16 * 2 + 4) = r1 at *
  generalize wordAt l (16 * 2 + 8) = r2 at *
  generalize wordAt l (16 * 2 + 12) = r3 at *
  have i42 : (Try.prog.info? 97).map (·.size) = some S.size := by rw [hSs]; exact info42s
  have EQ := fun w => eql_words w p0 p1 p2 p3 q0 q1 q2 q3
  generalize (((p0 : Int) == (q0 : Int)) && ((p1 : Int) == (q1 : Int)) && ((p2 : Int) == (q2 : Int)) && ((p3 : Int) == (q3 : Int))) = B at *
  have HC0 : Hid (∀ w, Calls Try.prog 60 #[.agg S, .int .i64 (0 : Nat)] w fun e w' => e = .returned (.agg #[.int .u32 p0, .int .u32 p1, .int .u32 p2, .int .u32 p3]) ∧ w.grownBy w' none) := C0
  have HC1 : Hid (∀ w, Calls Try.prog 60 #[.agg S, .int .i64 (1 : Nat)] w fun e w' => e = .returned (.agg #[.int .u32 q0, .int .u32 q1, .int .u32 q2, .int .u32 q3]) ∧ w.grownBy w' none) := C1
  have HC2 : Hid (∀ w, Calls Try.prog 60 #[.agg S, .int .i64 (2 : Nat)] w fun e w' => e = .returned (.agg #[.int .u32 r0, .int .u32 r1, .int .u32 r2, .int .u32 r3]) ∧ w.grownBy w' none) := C2
  have HI : Hid ((Try.prog.info? 97).map (·.size) = some S.size) := i42
  clear C0 C1 C2 hl i42
  go_enter Try.func47, Try.ntmps47
  go_upto_region 1 with fail
  have hW := two_alloc w (.cells S 97) (.cells #[.int .u32 0, .int .u32 0, .int .u32 0, .int .u32 0] 63)
  go_name_world W hWe
  rw [hWe] at hW
  obtain ⟨hgr, hsz, hA, hB⟩ := hW
  clear hWe
  have HA : Hid (Blk W w.heap.size S 97) := hA
  have HB : Hid (Blk W (w.heap.size + 1) #[.int .u32 0, .int .u32 0, .int .u32 0, .int .u32 0] 63) := hB
  clear hA hB
  go_wp2_with (first
    | refine wpList_load_row rfl 97 (.tmp 1) rfl w.heap.size (by simp [Act.eval]) 97 S (0, 0) _ HA.out Try.underlying97 rfl HI.out ?_
    | (go_at_call 60; refine (HC0.out _).mono ?_; rintro e w1 ⟨rfl, hg1⟩))
  have hg1' : w.grownBy w1 none := grown2 hgr hg1
  have hPn := alloc_new w1 (.cells #[.int .u32 p0, .int .u32 p1, .int .u32 p2, .int .u32 p3] 63)
  have hg2 := World.grownBy_alloc w1 (.cells #[.int .u32 p0, .int .u32 p1, .int .u32 p2, .int .u32 p3] 63) none
  go_name_world W2 hW2
  rw [hW2] at hPn hg2
  clear hW2
  have hgW : W.grownBy W2 none := grown2 hg1 hg2
  have hw1 : w.heap.size + 2 ≤ w1.heap.size := by have := hg1.size; omega
  have HA2 : Hid (∀ w3, W2.drew.grownBy w3 none → Blk w3 w.heap.size S 97) := fun w3 h3 => ((h3.block _ (by have := hgW.size; show _ < W2.heap.size; omega) (by simp)).trans (hgW.block _ (by omega) (by simp))).trans HA.out
  have HB2 : Hid (∀ w3, W2.drew.grownBy w3 none → Blk w3 (w.heap.size + 1) #[.int .u32 0, .int .u32 0, .int .u32 0, .int .u32 0] 63) := fun w3 h3 => ((h3.block _ (by have := hgW.size; show _ < W2.heap.size; omega) (by simp)).trans (hgW.block _ (by omega) (by simp))).trans HB.out
  have HP2 : Hid (∀ w3, W2.drew.grownBy w3 none → Blk w3 w1.heap.size #[.int .u32 p0, .int .u32 p1, .int .u32 p2, .int .u32 p3] 63) := fun w3 h3 => (h3.block _ (by have := (Array.getElem?_eq_some_iff.1 hPn).1; exact this) (by simp)).trans hPn
  have hrefl : W2.drew.grownBy W2.drew none := ⟨rfl, rfl, rfl, Nat.le_refl _, fun _ _ _ => rfl⟩
  have HK : Hid (∀ w3, W2.drew.grownBy w3 none → w3.rangeAt w.heap.size 0 S.toList ∧ w3.cell? ⟨w1.heap.size, 0, none⟩ = some (.int .u32 p0) ∧ w3.cell? ⟨w1.heap.size, 1, none⟩ = some (.int .u32 p1) ∧ w3.cell? ⟨w1.heap.size, 2, none⟩ = some (.int .u32 p2) ∧ w3.cell? ⟨w1.heap.size, 3, none⟩ = some (.int .u32 p3)) := fun w3 h3 =>
    ⟨range_of_blk (HA2.out w3 h3), (HP2.out w3 h3).cell 0, (HP2.out w3 h3).cell 1, (HP2.out w3 h3).cell 2, (HP2.out w3 h3).cell 3⟩
  have u42 := Try.underlying97
  have i42 : (Try.prog.info? 97).map (·.size) = some S.toList.length := by rw [Array.length_toList]; exact HI.out
  have l42 : S.toList.length = 64 := by rw [Array.length_toList]; exact hSs
  have o42 : ∀ v ∈ S.toList, v.oneCell' = true := fun v hv => Array.all_eq_true_iff_forall_mem.1 hS1 v (by simpa using hv)
  go_region_held3 (fun w' => w'.rangeAt w.heap.size 0 S.toList ∧ w'.cell? ⟨w1.heap.size, 0, none⟩ = some (.int .u32 p0) ∧ w'.cell? ⟨w1.heap.size, 1, none⟩ = some (.int .u32 p1) ∧ w'.cell? ⟨w1.heap.size, 2, none⟩ = some (.int .u32 p2) ∧ w'.cell? ⟨w1.heap.size, 3, none⟩ = some (.int .u32 p3)) (first | exact HK.out _ hrefl | exact HK.out _ hg3) (first | (go_at_call 60; refine (HC1.out _).mono ?_; rintro e w3 ⟨rfl, hg3⟩))
  have hgA : w.grownBy w3 none := grown2 (grown2 hg1' hg2) ⟨hg3.os, hg3.tape, hg3.output, hg3.size, hg3.block⟩
  have HGA : Hid (w.grownBy w3 none) := hgA
  clear HK hrefl u42 i42 l42 o42
  cases B
  · have hsz3 : w.heap.size + 2 ≤ w3.heap.size := by have := hg3.size; have := hgW.size; have h4 : W2.drew.heap.size = W2.heap.size := rfl; omega
    have HZ : Hid (∀ w4, w3.grownBy w4 none → Blk w4 (w.heap.size + 1) #[.int .u32 0, .int .u32 0, .int .u32 0, .int .u32 0] 63) := fun w4 hg4 => (hg4.block _ (by omega) (by simp)).trans (HB2.out w3 hg3)
    go_wp2_with (first
      | refine wpList_load_row rfl 97 (.tmp 1) rfl w.heap.size (by simp [Act.eval]) 97 S (0, 0) _ (HA2.out w3 hg3) Try.underlying97 rfl HI.out ?_
      | (go_at_call 60; refine (HC2.out _).mono ?_; rintro e w4 ⟨rfl, hg4⟩; have z0 := (HZ.out w4 hg4).cell 0; have z1 := (HZ.out w4 hg4).cell 1; have z2 := (HZ.out w4 hg4).cell 2; have z3 := (HZ.out w4 hg4).cell 3; have y0 := (HZ.out w4 hg4).frozen 0; have y1 := (HZ.out w4 hg4).frozen 1; have y2 := (HZ.out w4 hg4).frozen 2; have y3 := (HZ.out w4 hg4).frozen 3; simp at z0 z1 z2 z3))
    exact set_four (HZ.out w4 hg4) (grown2 HGA.out hg4) (by omega) rfl
  · have HZ := HB2.out w3 hg3
    have z0 := HZ.cell 0
    have z1 := HZ.cell 1
    have z2 := HZ.cell 2
    have z3 := HZ.cell 3
    have y0 := HZ.frozen 0
    have y1 := HZ.frozen 1
    have y2 := HZ.frozen 2
    have y3 := HZ.frozen 3
    have x0 := (HP2.out w3 hg3).cell 0
    have x1 := (HP2.out w3 hg3).cell 1
    have x2 := (HP2.out w3 hg3).cell 2
    have x3 := (HP2.out w3 hg3).cell 3
    simp at z0 z1 z2 z3 x0 x1 x2 x3
    have HZ' : Hid (Blk w3 (w.heap.size + 1) #[.int .u32 0, .int .u32 0, .int .u32 0, .int .u32 0] 63) := HZ
    clear HZ
    go_wp2
    exact set_four HZ'.out HGA.out (by omega) rfl
end Go.Proofs.Ytfcgjedanhmpiaa
