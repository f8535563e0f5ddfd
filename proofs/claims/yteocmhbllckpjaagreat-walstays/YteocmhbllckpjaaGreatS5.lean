/- What a sector says: the contract of Open. -/
/- The contract of Seal: four numbers, three times over. -/
import Derived.Test.YteocmhbllckpjaaGreatS3
import Derived.Deep.RegionHeld3
import Derived.Deep.Cut
namespace Go.Proofs.YteocmhbllckpjaaGreat
open Go.ChangeShapes Go.WideShapes Go.ChangeAt Go.RowKit
set_option linter.unusedVariables false

theorem info42s : (Tryz.prog.info? 110).map (·.size) = some 64 := by kernel_rfl
theorem info40s : (Tryz.prog.info? 159).map (·.size) = some 4 := by kernel_rfl
theorem range_of_blk {w : World} {b : Nat} {C : Array Value} {t : TypeId} (hb : Blk w b C t) : w.rangeAt b 0 C.toList := fun j v hv => by
  rw [Nat.zero_add, hb.cell]; simpa using hv

theorem grown2 {a b c : World} (h : a.grownBy b none) (k : b.grownBy c none) : a.grownBy c none :=
  ⟨k.os.trans h.os, k.tape.trans h.tape, k.output.trans h.output, Nat.le_trans h.size k.size, fun i hi _ => (k.block i (Nat.lt_of_lt_of_le hi h.size) (by simp)).trans (h.block i hi (by simp))⟩

theorem three_more (w : World) (A B C : Obj) : (((w.alloc A).alloc B).alloc C).heap.size = w.heap.size + 3 ∧ (((w.alloc A).alloc B).alloc C).heap[w.heap.size + 1]? = some B ∧ (((w.alloc A).alloc B).alloc C).heap[w.heap.size + 2]? = some C := by
  obtain ⟨h1, h2, h3, h4⟩ := two_alloc w A B
  refine ⟨by simp, (Below.heap_alloc _ _ _ (by omega)).trans h4, ?_⟩
  have := alloc_new ((w.alloc A).alloc B) C
  rw [h2] at this
  exact this

theorem set_four {w w4 : World} {g : Nat} {a b c d : Value} (hb : Blk w4 g #[.int .u32 0, .int .u32 0, .int .u32 0, .int .u32 0] 159) (hgr : w.grownBy w4 none) (hlt : w.heap.size ≤ g) {tmps : Array Value} (ht : tmps.getD 2 undef = .pointer (some ⟨g, 0, none⟩)) :
    bodyPost Tryz.prog Tryz.f117 (fun e w' => e = .returned (.agg #[a, b, c, d]) ∧ w.grownBy w' none) Exit.ret { tmps := tmps, defers := [] } ((((w4.setCell ⟨g, 0, none⟩ a).setCell ⟨g, 1, none⟩ b).setCell ⟨g, 2, none⟩ c).setCell ⟨g, 3, none⟩ d) := by
  have h := (((hb.set 0 a).set 1 b).set 2 c).set 3 d
  refine bodyPost_ret (v := .agg #[a, b, c, d]) (results_cell_row Tryz.results117 _ _ g 159 _ (0, 0) _ ht (by simpa using h) Tryz.underlying159 rfl info40s) rfl ⟨rfl, ?_⟩
  have hO := (((onlyAt w4 g 0 a).trans (onlyAt _ g 1 b)).trans (onlyAt _ g 2 c)).trans (onlyAt _ g 3 d)
  exact ⟨hO.os.trans hgr.os, hO.tape.trans hgr.tape, hO.output.trans hgr.output, Nat.le_trans hgr.size hO.size, fun k hk _ => (hO.block k (Nat.lt_of_lt_of_le hk hgr.size) (by simp; omega)).trans (hgr.block k hk (by simp))⟩

set_option maxHeartbeats 1000000 in
set_option maxRecDepth 100000 in
theorem open_any (w : World) (l : List UInt8) (hl : l.length = 64) :
    Calls Tryz.prog 117 #[.agg (bcs l).toArray] w fun e w' => e = .returned (.agg (sayV l)) ∧ w.grownBy w' none := by
  have C0 := fun w => sealedCopy_any w l hl 0 (by simp)
  have C1 := fun w => sealedCopy_any w l hl 1 (by simp)
  have C2 := fun w => sealedCopy_any w l hl 2 (by simp)
  simp only [copyV] at C0 C1 C2
  have hsay : sayV l = if ((((wordAt l (16 * 0) : Int) == (wordAt l (16 * 1) : Int)) && ((wordAt l (16 * 0 + 4) : Int) == (wordAt l (16 * 1 + 4) : Int)) && ((wordAt l (16 * 0 + 8) : Int) == (wordAt l (16 * 1 + 8) : Int)) && ((wordAt l (16 * 0 + 12) : Int) == (wordAt l (16 * 1 + 12) : Int)))) then copyV l 0 else copyV l 2 := by
    unfold sayV sameCopy
    simp only [Int.natCast_inj, Bool.and_eq_true, beq_iff_eq]
  rw [hsay]
  simp only [copyV]
  obtain ⟨S, hS⟩ : ∃ S : Array Value, S = (bcs l).toArray := ⟨_, rfl⟩
  have hSs : S.size = 64 := by rw [hS]; simp [length_bcs, hl]
  have hS1 : S.all (·.oneCell') = true := by rw [hS]; exact Array.all_eq_true_iff_forall_mem.2 (fun v hv => one_bcs _ v (by simpa using hv))
  rw [← hS] at C0 C1 C2 ⊢
  clear hS hsay
  generalize wordAt l (16 * 0) = p0 at *
  generalize wordAt l (16 * 0 + 4) = p1 at *
  generalize wordAt l (16 * 0 + 8) = p2 at *
  generalize wordAt l (16 * 0 + 12) = p3 at *
  generalize wordAt l (16 * 1) = q0 at *
  generalize wordAt l (16 * 1 + 4) = q1 at *
  generalize wordAt l (16 * 1 + 8) = q2 at *
  generalize wordAt l (16 * 1 + 12) = q3 at *
  generalize wordAt l (16 * 2) = r0 at *
  generalize wordAt l (16 * 2 + 4) = r1 at *
  generalize wordAt l (16 * 2 + 8) = r2 at *
  generalize wordAt l (16 * 2 + 12) = r3 at *
  have i42 : (Tryz.prog.info? 110).map (·.size) = some S.size := by rw [hSs]; exact info42s
  have EQ := fun w => eql_words w p0 p1 p2 p3 q0 q1 q2 q3
  generalize (((p0 : Int) == (q0 : Int)) && ((p1 : Int) == (q1 : Int)) && ((p2 : Int) == (q2 : Int)) && ((p3 : Int) == (q3 : Int))) = B at *
  have HC0 : Hid (∀ w, Calls Tryz.prog 137 #[.agg S, .int .i64 (0 : Nat)] w fun e w' => e = .returned (.agg #[.int .u32 p0, .int .u32 p1, .int .u32 p2, .int .u32 p3]) ∧ w.grownBy w' none) := C0
  have HC1 : Hid (∀ w, Calls Tryz.prog 137 #[.agg S, .int .i64 (1 : Nat)] w fun e w' => e = .returned (.agg #[.int .u32 q0, .int .u32 q1, .int .u32 q2, .int .u32 q3]) ∧ w.grownBy w' none) := C1
  have HC2 : Hid (∀ w, Calls Tryz.prog 137 #[.agg S, .int .i64 (2 : Nat)] w fun e w' => e = .returned (.agg #[.int .u32 r0, .int .u32 r1, .int .u32 r2, .int .u32 r3]) ∧ w.grownBy w' none) := C2
  have HI : Hid ((Tryz.prog.info? 110).map (·.size) = some S.size) := i42
  clear C0 C1 C2 hl i42
  go_enter Tryz.func117, Tryz.ntmps117
  go_upto_region 1 with fail
  have hW := two_alloc w (.cells S 110) (.cells #[.int .u32 0, .int .u32 0, .int .u32 0, .int .u32 0] 159)
  go_name_world W hWe
  rw [hWe] at hW
  obtain ⟨hgr, hsz, hA, hB⟩ := hW
  clear hWe
  have HA : Hid (Blk W w.heap.size S 110) := hA
  have HB : Hid (Blk W (w.heap.size + 1) #[.int .u32 0, .int .u32 0, .int .u32 0, .int .u32 0] 159) := hB
  clear hA hB
  go_wp2_with (first
    | refine wpList_load_row rfl 110 (.tmp 1) rfl w.heap.size (by simp [Act.eval]) 110 S (0, 0) _ HA.out Tryz.underlying110 rfl HI.out ?_
    | (go_at_call 137; refine (HC0.out _).mono ?_; rintro e w1 ⟨rfl, hg1⟩))
  have hg1' : w.grownBy w1 none := grown2 hgr hg1
  have hPn := alloc_new w1 (.cells #[.int .u32 p0, .int .u32 p1, .int .u32 p2, .int .u32 p3] 159)
  have hg2 := World.grownBy_alloc w1 (.cells #[.int .u32 p0, .int .u32 p1, .int .u32 p2, .int .u32 p3] 159) none
  go_name_world W2 hW2
  rw [hW2] at hPn hg2
  clear hW2
  have hgW : W.grownBy W2 none := grown2 hg1 hg2
  have hw1 : w.heap.size + 2 ≤ w1.heap.size := by have := hg1.size; omega
  have HA2 : Hid (∀ w3, W2.drew.grownBy w3 none → Blk w3 w.heap.size S 110) := fun w3 h3 => ((h3.block _ (by have := hgW.size; show _ < W2.heap.size; omega) (by simp)).trans (hgW.block _ (by omega) (by simp))).trans HA.out
  have HB2 : Hid (∀ w3, W2.drew.grownBy w3 none → Blk w3 (w.heap.size + 1) #[.int .u32 0, .int .u32 0, .int .u32 0, .int .u32 0] 159) := fun w3 h3 => ((h3.block _ (by have := hgW.size; show _ < W2.heap.size; omega) (by simp)).trans (hgW.block _ (by omega) (by simp))).trans HB.out
  have HP2 : Hid (∀ w3, W2.drew.grownBy w3 none → Blk w3 w1.heap.size #[.int .u32 p0, .int .u32 p1, .int .u32 p2, .int .u32 p3] 159) := fun w3 h3 => (h3.block _ (by have := (Array.getElem?_eq_some_iff.1 hPn).1; exact this) (by simp)).trans hPn
  have hrefl : W2.drew.grownBy W2.drew none := ⟨rfl, rfl, rfl, Nat.le_refl _, fun _ _ _ => rfl⟩
  have HK : Hid (∀ w3, W2.drew.grownBy w3 none → w3.rangeAt w.heap.size 0 S.toList ∧ w3.cell? ⟨w1.heap.size, 0, none⟩ = some (.int .u32 p0) ∧ w3.cell? ⟨w1.heap.size, 1, none⟩ = some (.int .u32 p1) ∧ w3.cell? ⟨w1.heap.size, 2, none⟩ = some (.int .u32 p2) ∧ w3.cell? ⟨w1.heap.size, 3, none⟩ = some (.int .u32 p3)) := fun w3 h3 =>
    ⟨range_of_blk (HA2.out w3 h3), (HP2.out w3 h3).cell 0, (HP2.out w3 h3).cell 1, (HP2.out w3 h3).cell 2, (HP2.out w3 h3).cell 3⟩
  have u42 := Tryz.underlying110
  have i42 : (Tryz.prog.info? 110).map (·.size) = some S.toList.length := by rw [Array.length_toList]; exact HI.out
  have l42 : S.toList.length = 64 := by rw [Array.length_toList]; exact hSs
  have o42 : ∀ v ∈ S.toList, v.oneCell' = true := fun v hv => Array.all_eq_true_iff_forall_mem.1 hS1 v (by simpa using hv)
  go_region_held3 (fun w' => w'.rangeAt w.heap.size 0 S.toList ∧ w'.cell? ⟨w1.heap.size, 0, none⟩ = some (.int .u32 p0) ∧ w'.cell? ⟨w1.heap.size, 1, none⟩ = some (.int .u32 p1) ∧ w'.cell? ⟨w1.heap.size, 2, none⟩ = some (.int .u32 p2) ∧ w'.cell? ⟨w1.heap.size, 3, none⟩ = some (.int .u32 p3)) (first | exact HK.out _ hrefl | exact HK.out _ hg3) (first | (go_at_call 137; refine (HC1.out _).mono ?_; rintro e w3 ⟨rfl, hg3⟩))
  have hgA : w.grownBy w3 none := grown2 (grown2 hg1' hg2) ⟨hg3.os, hg3.tape, hg3.output, hg3.size, hg3.block⟩
  have HGA : Hid (w.grownBy w3 none) := hgA
  clear HK hrefl u42 i42 l42 o42
  cases B
  · have hsz3 : w.heap.size + 2 ≤ w3.heap.size := by have := hg3.size; have := hgW.size; have h4 : W2.drew.heap.size = W2.heap.size := rfl; omega
    have HZ : Hid (∀ w4, w3.grownBy w4 none → Blk w4 (w.heap.size + 1) #[.int .u32 0, .int .u32 0, .int .u32 0, .int .u32 0] 159) := fun w4 hg4 => (hg4.block _ (by omega) (by simp)).trans (HB2.out w3 hg3)
    go_wp2_with (first
      | refine wpList_load_row rfl 110 (.tmp 1) rfl w.heap.size (by simp [Act.eval]) 110 S (0, 0) _ (HA2.out w3 hg3) Tryz.underlying110 rfl HI.out ?_
      | (go_at_call 137; refine (HC2.out _).mono ?_; rintro e w4 ⟨rfl, hg4⟩; have z0 := (HZ.out w4 hg4).cell 0; have z1 := (HZ.out w4 hg4).cell 1; have z2 := (HZ.out w4 hg4).cell 2; have z3 := (HZ.out w4 hg4).cell 3; have y0 := (HZ.out w4 hg4).frozen 0; have y1 := (HZ.out w4 hg4).frozen 1; have y2 := (HZ.out w4 hg4).frozen 2; have y3 := (HZ.out w4 hg4).frozen 3; simp at z0 z1 z2 z3))
    exact set_four (HZ.out w4 hg4) (grown2 HGA.out hg4) (by omega) rfl
  · have HZ := HB2.out w3 hg3
    have z0 := HZ.cell 0
    have z1 := HZ.cell 1
    have z2 := HZ.cell 2
    have z3 := HZ.cell 3
    have y0 := HZ.frozen 0
    have y1 := HZ.frozen 1
    have y2 := HZ.frozen 2
    have y3 := HZ.frozen 3
    have x0 := (HP2.out w3 hg3).cell 0
    have x1 := (HP2.out w3 hg3).cell 1
    have x2 := (HP2.out w3 hg3).cell 2
    have x3 := (HP2.out w3 hg3).cell 3
    simp at z0 z1 z2 z3 x0 x1 x2 x3
    have HZ' : Hid (Blk w3 (w.heap.size + 1) #[.int .u32 0, .int .u32 0, .int .u32 0, .int .u32 0] 159) := HZ
    clear HZ
    go_wp2
    exact set_four HZ'.out HGA.out (by omega) rfl
end Go.Proofs.YteocmhbllckpjaaGreat

namespace Go.Proofs.YteocmhbllckpjaaGreat
open Go.ChangeShapes Go.WideShapes Go.ChangeAt Go.RowKit
set_option linter.unusedVariables false

/-- The first k words laid into a sector, the four numbers over and over. -/
def laid (a b c d : Nat) : Nat → List UInt8
  | 0 => List.replicate 64 0
  | k + 1 => splice (laid a b c d k) (4 * k) (be4 ([a, b, c, d].getD (k % 4) 0))

theorem length_laid (a b c d : Nat) : ∀ k, k ≤ 12 → (laid a b c d k).length = 64
  | 0, _ => by simp [laid]
  | k + 1, h => by
    have ih := length_laid a b c d k (by omega)
    rw [laid, length_splice _ _ _ (by rw [ih, length_be4]; omega), ih]

/-- A sealed sector. -/
def sealB (a b c d : Nat) : List UInt8 := laid a b c d 12

set_option maxHeartbeats 4000000 in
set_option maxRecDepth 100000 in
theorem seal_any (w : World) (a b c d : Nat) (ha : a < 4294967296) (hb : b < 4294967296) (hc : c < 4294967296) (hd : d < 4294967296) :
    Calls Tryz.prog 128 #[.agg #[.int .u32 a, .int .u32 b, .int .u32 c, .int .u32 d]] w fun e w' => e = .returned (.agg (bcs (sealB a b c d)).toArray) ∧ w.grownBy w' none := by
  go_enter Tryz.func128, Tryz.ntmps128
  go_wp2
  have hW := three_alloc w (.cells #[.int .u32 a, .int .u32 b, .int .u32 c, .int .u32 d] 159) (.cells (bcs (laid a b c d 0)).toArray 110) (.cells (bcs (laid a b c d 0)).toArray 110)
  have hW2 := three_more w (.cells #[.int .u32 a, .int .u32 b, .int .u32 c, .int .u32 d] 159) (.cells (bcs (laid a b c d 0)).toArray 110) (.cells (bcs (laid a b c d 0)).toArray 110)
  go_name_world W hWe
  rw [show (((w.alloc (.cells #[.int .u32 a, .int .u32 b, .int .u32 c, .int .u32 d] 159)).alloc (.cells (bcs (laid a b c d 0)).toArray 110)).alloc (.cells (bcs (laid a b c d 0)).toArray 110)) = W from hWe] at hW hW2
  obtain ⟨hgr, hA⟩ := hW
  obtain ⟨hsz, hB, cur⟩ := hW2
  clear hWe
  obtain ⟨Wc, hWc⟩ : ∃ Wc, Wc = W := ⟨_, rfl⟩
  have hO : Only [w.heap.size + 2] W Wc := by rw [hWc]; exact Only.refl _ _
  rw [← hWc] at cur ⊢
  clear hWc
  have HA : Hid (Blk W w.heap.size #[.int .u32 a, .int .u32 b, .int .u32 c, .int .u32 d] 159) := hA
  have HB : Hid (Blk W (w.heap.size + 1) (bcs (laid a b c d 0)).toArray 110) := hB
  have HC : Hid (∀ w3, Only [w.heap.size + 2] W w3 → w3.cell? ⟨w.heap.size, 0, none⟩ = some (.int .u32 a) ∧ w3.cell? ⟨w.heap.size, 1, none⟩ = some (.int .u32 b) ∧ w3.cell? ⟨w.heap.size, 2, none⟩ = some (.int .u32 c) ∧ w3.cell? ⟨w.heap.size, 3, none⟩ = some (.int .u32 d)) := fun w3 h3 => by
    have h := h3.blk HA.out (by simp)
    exact ⟨cell_of_row _ _ _ _ _ _ h, cell_of_row _ _ _ _ _ _ h, cell_of_row _ _ _ _ _ _ h, cell_of_row _ _ _ _ _ _ h⟩
  have HCU : Hid (Blk Wc (w.heap.size + 2) (bcs (laid a b c d 0)).toArray 110) := cur
  clear hA hB cur
  refine wp_loop_rounds 13 ?_
  rw [rounds_succ]
  have hwk : IntKind.i64.wrap 0 = 0 := by rw [IntKind.wrap_i64]; omega
  go_wp2
  have hO' := hO.trans (Only.drew Wc _)
  go_region_held3 (fun w' => w'.cell? ⟨w.heap.size, 0, none⟩ = some (.int .u32 a) ∧ w'.cell? ⟨w.heap.size, 1, none⟩ = some (.int .u32 b) ∧ w'.cell? ⟨w.heap.size, 2, none⟩ = some (.int .u32 c) ∧ w'.cell? ⟨w.heap.size, 3, none⟩ = some (.int .u32 d)) (first | exact HC.out _ hO' | exact HC.out _ hON) (first | (go_at_call 142; refine (layWord_any Wc.drew (w.heap.size + 2) 0 _ _ a (laid a b c d 0) 110 HCU.out (by omega) ha (by rw [length_laid _ _ _ _ 0 (by omega)]; omega)).mono ?_; rintro e Wd ⟨rfl, HCv, hOn⟩; have hON := hO'.trans hOn; have HCUn : Hid (Blk Wd (w.heap.size + 2) (bcs (laid a b c d 1)).toArray 110) := HCv; clear HCv))
  go_wp2
  clear hO HCU hO' hOn hwk
  obtain ⟨Wc, hWc⟩ : ∃ Wc, Wc = Wd := ⟨_, rfl⟩
  subst hWc
  have hO := hON
  have HCU := HCUn
  clear hON HCUn
  rw [rounds_succ]
  have hwk : IntKind.i64.wrap 4 = 4 := by rw [IntKind.wrap_i64]; omega
  go_wp2
  have hO' := hO.trans (Only.drew Wc _)
  go_region_held3 (fun w' => w'.cell? ⟨w.heap.size, 0, none⟩ = some (.int .u32 a) ∧ w'.cell? ⟨w.heap.size, 1, none⟩ = some (.int .u32 b) ∧ w'.cell? ⟨w.heap.size, 2, none⟩ = some (.int .u32 c) ∧ w'.cell? ⟨w.heap.size, 3, none⟩ = some (.int .u32 d)) (first | exact HC.out _ hO' | exact HC.out _ hON) (first | (go_at_call 142; refine (layWord_any Wc.drew (w.heap.size + 2) 4 _ _ b (laid a b c d 1) 110 HCU.out (by omega) hb (by rw [length_laid _ _ _ _ 1 (by omega)]; omega)).mono ?_; rintro e Wd ⟨rfl, HCv, hOn⟩; have hON := hO'.trans hOn; have HCUn : Hid (Blk Wd (w.heap.size + 2) (bcs (laid a b c d 2)).toArray 110) := HCv; clear HCv))
  go_wp2
  clear hO HCU hO' hOn hwk
  obtain ⟨Wc, hWc⟩ : ∃ Wc, Wc = Wd := ⟨_, rfl⟩
  subst hWc
  have hO := hON
  have HCU := HCUn
  clear hON HCUn
  rw [rounds_succ]
  have hwk : IntKind.i64.wrap 8 = 8 := by rw [IntKind.wrap_i64]; omega
  go_wp2
  have hO' := hO.trans (Only.drew Wc _)
  go_region_held3 (fun w' => w'.cell? ⟨w.heap.size, 0, none⟩ = some (.int .u32 a) ∧ w'.cell? ⟨w.heap.size, 1, none⟩ = some (.int .u32 b) ∧ w'.cell? ⟨w.heap.size, 2, none⟩ = some (.int .u32 c) ∧ w'.cell? ⟨w.heap.size, 3, none⟩ = some (.int .u32 d)) (first | exact HC.out _ hO' | exact HC.out _ hON) (first | (go_at_call 142; refine (layWord_any Wc.drew (w.heap.size + 2) 8 _ _ c (laid a b c d 2) 110 HCU.out (by omega) hc (by rw [length_laid _ _ _ _ 2 (by omega)]; omega)).mono ?_; rintro e Wd ⟨rfl, HCv, hOn⟩; have hON := hO'.trans hOn; have HCUn : Hid (Blk Wd (w.heap.size + 2) (bcs (laid a b c d 3)).toArray 110) := HCv; clear HCv))
  go_wp2
  clear hO HCU hO' hOn hwk
  obtain ⟨Wc, hWc⟩ : ∃ Wc, Wc = Wd := ⟨_, rfl⟩
  subst hWc
  have hO := hON
  have HCU := HCUn
  clear hON HCUn
  rw [rounds_succ]
  have hwk : IntKind.i64.wrap 12 = 12 := by rw [IntKind.wrap_i64]; omega
  go_wp2
  have hO' := hO.trans (Only.drew Wc _)
  go_region_held3 (fun w' => w'.cell? ⟨w.heap.size, 0, none⟩ = some (.int .u32 a) ∧ w'.cell? ⟨w.heap.size, 1, none⟩ = some (.int .u32 b) ∧ w'.cell? ⟨w.heap.size, 2, none⟩ = some (.int .u32 c) ∧ w'.cell? ⟨w.heap.size, 3, none⟩ = some (.int .u32 d)) (first | exact HC.out _ hO' | exact HC.out _ hON) (first | (go_at_call 142; refine (layWord_any Wc.drew (w.heap.size + 2) 12 _ _ d (laid a b c d 3) 110 HCU.out (by omega) hd (by rw [length_laid _ _ _ _ 3 (by omega)]; omega)).mono ?_; rintro e Wd ⟨rfl, HCv, hOn⟩; have hON := hO'.trans hOn; have HCUn : Hid (Blk Wd (w.heap.size + 2) (bcs (laid a b c d 4)).toArray 110) := HCv; clear HCv))
  go_wp2
  clear hO HCU hO' hOn hwk
  obtain ⟨Wc, hWc⟩ : ∃ Wc, Wc = Wd := ⟨_, rfl⟩
  subst hWc
  have hO := hON
  have HCU := HCUn
  clear hON HCUn
  rw [rounds_succ]
  have hwk : IntKind.i64.wrap 16 = 16 := by rw [IntKind.wrap_i64]; omega
  go_wp2
  have hO' := hO.trans (Only.drew Wc _)
  go_region_held3 (fun w' => w'.cell? ⟨w.heap.size, 0, none⟩ = some (.int .u32 a) ∧ w'.cell? ⟨w.heap.size, 1, none⟩ = some (.int .u32 b) ∧ w'.cell? ⟨w.heap.size, 2, none⟩ = some (.int .u32 c) ∧ w'.cell? ⟨w.heap.size, 3, none⟩ = some (.int .u32 d)) (first | exact HC.out _ hO' | exact HC.out _ hON) (first | (go_at_call 142; refine (layWord_any Wc.drew (w.heap.size + 2) 16 _ _ a (laid a b c d 4) 110 HCU.out (by omega) ha (by rw [length_laid _ _ _ _ 4 (by omega)]; omega)).mono ?_; rintro e Wd ⟨rfl, HCv, hOn⟩; have hON := hO'.trans hOn; have HCUn : Hid (Blk Wd (w.heap.size + 2) (bcs (laid a b c d 5)).toArray 110) := HCv; clear HCv))
  go_wp2
  clear hO HCU hO' hOn hwk
  obtain ⟨Wc, hWc⟩ : ∃ Wc, Wc = Wd := ⟨_, rfl⟩
  subst hWc
  have hO := hON
  have HCU := HCUn
  clear hON HCUn
  rw [rounds_succ]
  have hwk : IntKind.i64.wrap 20 = 20 := by rw [IntKind.wrap_i64]; omega
  go_wp2
  have hO' := hO.trans (Only.drew Wc _)
  go_region_held3 (fun w' => w'.cell? ⟨w.heap.size, 0, none⟩ = some (.int .u32 a) ∧ w'.cell? ⟨w.heap.size, 1, none⟩ = some (.int .u32 b) ∧ w'.cell? ⟨w.heap.size, 2, none⟩ = some (.int .u32 c) ∧ w'.cell? ⟨w.heap.size, 3, none⟩ = some (.int .u32 d)) (first | exact HC.out _ hO' | exact HC.out _ hON) (first | (go_at_call 142; refine (layWord_any Wc.drew (w.heap.size + 2) 20 _ _ b (laid a b c d 5) 110 HCU.out (by omega) hb (by rw [length_laid _ _ _ _ 5 (by omega)]; omega)).mono ?_; rintro e Wd ⟨rfl, HCv, hOn⟩; have hON := hO'.trans hOn; have HCUn : Hid (Blk Wd (w.heap.size + 2) (bcs (laid a b c d 6)).toArray 110) := HCv; clear HCv))
  go_wp2
  clear hO HCU hO' hOn hwk
  obtain ⟨Wc, hWc⟩ : ∃ Wc, Wc = Wd := ⟨_, rfl⟩
  subst hWc
  have hO := hON
  have HCU := HCUn
  clear hON HCUn
  rw [rounds_succ]
  have hwk : IntKind.i64.wrap 24 = 24 := by rw [IntKind.wrap_i64]; omega
  go_wp2
  have hO' := hO.trans (Only.drew Wc _)
  go_region_held3 (fun w' => w'.cell? ⟨w.heap.size, 0, none⟩ = some (.int .u32 a) ∧ w'.cell? ⟨w.heap.size, 1, none⟩ = some (.int .u32 b) ∧ w'.cell? ⟨w.heap.size, 2, none⟩ = some (.int .u32 c) ∧ w'.cell? ⟨w.heap.size, 3, none⟩ = some (.int .u32 d)) (first | exact HC.out _ hO' | exact HC.out _ hON) (first | (go_at_call 142; refine (layWord_any Wc.drew (w.heap.size + 2) 24 _ _ c (laid a b c d 6) 110 HCU.out (by omega) hc (by rw [length_laid _ _ _ _ 6 (by omega)]; omega)).mono ?_; rintro e Wd ⟨rfl, HCv, hOn⟩; have hON := hO'.trans hOn; have HCUn : Hid (Blk Wd (w.heap.size + 2) (bcs (laid a b c d 7)).toArray 110) := HCv; clear HCv))
  go_wp2
  clear hO HCU hO' hOn hwk
  obtain ⟨Wc, hWc⟩ : ∃ Wc, Wc = Wd := ⟨_, rfl⟩
  subst hWc
  have hO := hON
  have HCU := HCUn
  clear hON HCUn
  rw [rounds_succ]
  have hwk : IntKind.i64.wrap 28 = 28 := by rw [IntKind.wrap_i64]; omega
  go_wp2
  have hO' := hO.trans (Only.drew Wc _)
  go_region_held3 (fun w' => w'.cell? ⟨w.heap.size, 0, none⟩ = some (.int .u32 a) ∧ w'.cell? ⟨w.heap.size, 1, none⟩ = some (.int .u32 b) ∧ w'.cell? ⟨w.heap.size, 2, none⟩ = some (.int .u32 c) ∧ w'.cell? ⟨w.heap.size, 3, none⟩ = some (.int .u32 d)) (first | exact HC.out _ hO' | exact HC.out _ hON) (first | (go_at_call 142; refine (layWord_any Wc.drew (w.heap.size + 2) 28 _ _ d (laid a b c d 7) 110 HCU.out (by omega) hd (by rw [length_laid _ _ _ _ 7 (by omega)]; omega)).mono ?_; rintro e Wd ⟨rfl, HCv, hOn⟩; have hON := hO'.trans hOn; have HCUn : Hid (Blk Wd (w.heap.size + 2) (bcs (laid a b c d 8)).toArray 110) := HCv; clear HCv))
  go_wp2
  clear hO HCU hO' hOn hwk
  obtain ⟨Wc, hWc⟩ : ∃ Wc, Wc = Wd := ⟨_, rfl⟩
  subst hWc
  have hO := hON
  have HCU := HCUn
  clear hON HCUn
  rw [rounds_succ]
  have hwk : IntKind.i64.wrap 32 = 32 := by rw [IntKind.wrap_i64]; omega
  go_wp2
  have hO' := hO.trans (Only.drew Wc _)
  go_region_held3 (fun w' => w'.cell? ⟨w.heap.size, 0, none⟩ = some (.int .u32 a) ∧ w'.cell? ⟨w.heap.size, 1, none⟩ = some (.int .u32 b) ∧ w'.cell? ⟨w.heap.size, 2, none⟩ = some (.int .u32 c) ∧ w'.cell? ⟨w.heap.size, 3, none⟩ = some (.int .u32 d)) (first | exact HC.out _ hO' | exact HC.out _ hON) (first | (go_at_call 142; refine (layWord_any Wc.drew (w.heap.size + 2) 32 _ _ a (laid a b c d 8) 110 HCU.out (by omega) ha (by rw [length_laid _ _ _ _ 8 (by omega)]; omega)).mono ?_; rintro e Wd ⟨rfl, HCv, hOn⟩; have hON := hO'.trans hOn; have HCUn : Hid (Blk Wd (w.heap.size + 2) (bcs (laid a b c d 9)).toArray 110) := HCv; clear HCv))
  go_wp2
  clear hO HCU hO' hOn hwk
  obtain ⟨Wc, hWc⟩ : ∃ Wc, Wc = Wd := ⟨_, rfl⟩
  subst hWc
  have hO := hON
  have HCU := HCUn
  clear hON HCUn
  rw [rounds_succ]
  have hwk : IntKind.i64.wrap 36 = 36 := by rw [IntKind.wrap_i64]; omega
  go_wp2
  have hO' := hO.trans (Only.drew Wc _)
  go_region_held3 (fun w' => w'.cell? ⟨w.heap.size, 0, none⟩ = some (.int .u32 a) ∧ w'.cell? ⟨w.heap.size, 1, none⟩ = some (.int .u32 b) ∧ w'.cell? ⟨w.heap.size, 2, none⟩ = some (.int .u32 c) ∧ w'.cell? ⟨w.heap.size, 3, none⟩ = some (.int .u32 d)) (first | exact HC.out _ hO' | exact HC.out _ hON) (first | (go_at_call 142; refine (layWord_any Wc.drew (w.heap.size + 2) 36 _ _ b (laid a b c d 9) 110 HCU.out (by omega) hb (by rw [length_laid _ _ _ _ 9 (by omega)]; omega)).mono ?_; rintro e Wd ⟨rfl, HCv, hOn⟩; have hON := hO'.trans hOn; have HCUn : Hid (Blk Wd (w.heap.size + 2) (bcs (laid a b c d 10)).toArray 110) := HCv; clear HCv))
  go_wp2
  clear hO HCU hO' hOn hwk
  obtain ⟨Wc, hWc⟩ : ∃ Wc, Wc = Wd := ⟨_, rfl⟩
  subst hWc
  have hO := hON
  have HCU := HCUn
  clear hON HCUn
  rw [rounds_succ]
  have hwk : IntKind.i64.wrap 40 = 40 := by rw [IntKind.wrap_i64]; omega
  go_wp2
  have hO' := hO.trans (Only.drew Wc _)
  go_region_held3 (fun w' => w'.cell? ⟨w.heap.size, 0, none⟩ = some (.int .u32 a) ∧ w'.cell? ⟨w.heap.size, 1, none⟩ = some (.int .u32 b) ∧ w'.cell? ⟨w.heap.size, 2, none⟩ = some (.int .u32 c) ∧ w'.cell? ⟨w.heap.size, 3, none⟩ = some (.int .u32 d)) (first | exact HC.out _ hO' | exact HC.out _ hON) (first | (go_at_call 142; refine (layWord_any Wc.drew (w.heap.size + 2) 40 _ _ c (laid a b c d 10) 110 HCU.out (by omega) hc (by rw [length_laid _ _ _ _ 10 (by omega)]; omega)).mono ?_; rintro e Wd ⟨rfl, HCv, hOn⟩; have hON := hO'.trans hOn; have HCUn : Hid (Blk Wd (w.heap.size + 2) (bcs (laid a b c d 11)).toArray 110) := HCv; clear HCv))
  go_wp2
  clear hO HCU hO' hOn hwk
  obtain ⟨Wc, hWc⟩ : ∃ Wc, Wc = Wd := ⟨_, rfl⟩
  subst hWc
  have hO := hON
  have HCU := HCUn
  clear hON HCUn
  rw [rounds_succ]
  have hwk : IntKind.i64.wrap 44 = 44 := by rw [IntKind.wrap_i64]; omega
  go_wp2
  have hO' := hO.trans (Only.drew Wc _)
  go_region_held3 (fun w' => w'.cell? ⟨w.heap.size, 0, none⟩ = some (.int .u32 a) ∧ w'.cell? ⟨w.heap.size, 1, none⟩ = some (.int .u32 b) ∧ w'.cell? ⟨w.heap.size, 2, none⟩ = some (.int .u32 c) ∧ w'.cell? ⟨w.heap.size, 3, none⟩ = some (.int .u32 d)) (first | exact HC.out _ hO' | exact HC.out _ hON) (first | (go_at_call 142; refine (layWord_any Wc.drew (w.heap.size + 2) 44 _ _ d (laid a b c d 11) 110 HCU.out (by omega) hd (by rw [length_laid _ _ _ _ 11 (by omega)]; omega)).mono ?_; rintro e Wd ⟨rfl, HCv, hOn⟩; have hON := hO'.trans hOn; have HCUn : Hid (Blk Wd (w.heap.size + 2) (bcs (laid a b c d 12)).toArray 110) := HCv; clear HCv))
  go_wp2
  clear hO HCU hO' hOn hwk
  obtain ⟨Wc, hWc⟩ : ∃ Wc, Wc = Wd := ⟨_, rfl⟩
  subst hWc
  have hO := hON
  have HCU := HCUn
  clear hON HCUn
  obtain ⟨X, hX⟩ : ∃ X : Array Value, X = (bcs (laid a b c d 12)).toArray := ⟨_, rfl⟩
  have hXs : X.size = 64 := by rw [hX]; simp [length_bcs, length_laid]
  have hX1 : X.all (·.oneCell') = true := by rw [hX]; exact Array.all_eq_true_iff_forall_mem.2 (fun v hv => one_bcs _ v (by simpa using hv))
  have HCX : Hid (Blk Wc (w.heap.size + 2) X 110) := by rw [hX]; exact HCU.out
  have HBX : Hid (Blk Wc (w.heap.size + 1) (bcs (laid a b c d 0)).toArray 110) := hO.blk HB.out (by simp)
  have HIX : Hid ((Tryz.prog.info? 110).map (·.size) = some X.size) := by rw [hXs]; exact info42s
  have HO1 : Hid (X.all (·.oneCell') = true) := hX1
  have HZS : Hid ((bcs (laid a b c d 0)).toArray.size = X.size) := (show (bcs (laid a b c d 0)).toArray.size = X.size by rw [hXs]; simp [length_bcs, length_laid])
  have HX : Hid (X = (bcs (laid a b c d 12)).toArray) := hX
  clear hX hXs hX1
  rw [rounds_succ]
  go_wp2_with (first
    | refine wpList_load_row rfl 110 (.tmp 3) rfl (w.heap.size + 2) (by simp [Act.eval]) 110 X (0, 0) _ HCX.out Tryz.underlying110 rfl HIX.out ?_
    | refine wpList_store_row rfl 110 (.tmp 2) (.tmp 17) rfl (w.heap.size + 1) X (by simp [Act.eval, Act.put]) (by simp [Act.eval, Act.put]) 110 _ HBX.out HIX.out HZS.out HO1.out ?_)
  refine bodyPost_ret (v := .agg X) (results_cell_row Tryz.results128 _ _ (w.heap.size + 1) 110 X (0, 0) _ rfl (setRow_heap _ _ _ _ _ _ HBX.out) Tryz.underlying110 rfl HIX.out) rfl ⟨by rw [HX.out]; rfl, ?_⟩
  refine ⟨hO.os.trans hgr.os, hO.tape.trans hgr.tape, hO.output.trans hgr.output, by rw [size_setRow]; exact Nat.le_trans hgr.size hO.size, fun j hj _ => ?_⟩
  rw [setRow_other _ _ _ _ (by omega), hO.block j (Nat.lt_of_lt_of_le hj hgr.size) (by simp; omega)]
  exact hgr.block j hj (by simp)

end Go.Proofs.YteocmhbllckpjaaGreat
