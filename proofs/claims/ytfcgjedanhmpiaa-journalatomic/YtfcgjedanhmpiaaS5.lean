/- The contract of Seal: four numbers, three times over. -/
import Derived.Test.YtfcgjedanhmpiaaS4
namespace Go.Proofs.Ytfcgjedanhmpiaa
open Go.ChangeShapes Go.WideShapes Go.ChangeAt Go.RowKit
set_option linter.unusedVariables false

/-- The first k words laid into a sector, the four numbers over and over. -/
def laid (a b c d : Nat) : Nat → List UInt8
  | 0 => List.replicate 64 0
  | k + 1 => splice (laid a b c d k) (4 * k) (be4 ([a, b, c, d].getD (k % 4) 0))

theorem length_laid (a b c d : Nat) : ∀ k, k ≤ 12 → (laid a b c d k).length = 64
  | 0, _ => by simp [laid]
  | k + 1, h => by
    have ih := length_laid a b c d k (by omega)
    rw [laid, length_splice _ _ _ (by rw [ih, length_be4]; omega), ih]

/-- A sealed sector. -/
def sealB (a b c d : Nat) : List UInt8 := laid a b c d 12

set_option maxHeartbeats 4000000 in
set_option maxRecDepth 100000 in
theorem seal_any (w : World) (a b c d : Nat) (ha : a < 4294967296) (hb : b < 4294967296) (hc : c < 4294967296) (hd : d < 4294967296) :
    Calls Try.prog 57 #[.agg #[.int .u32 a, .int .u32 b, .int .u32 c, .int .u32 d]] w fun e w' => e = .returned (.agg (bcs (sealB a b c d)).toArray) ∧ w.grownBy w' none := by
  go_enter Try.func57, Try.ntmps57
  go_wp2
  have hW := three_alloc w (.cells #[.int .u32 a, .int .u32 b, .int .u32 c, .int .u32 d] 63) (.cells (bcs (laid a b c d 0)).toArray 97) (.cells (bcs (laid a b c d 0)).toArray 97)
  have hW2 := three_more w (.cells #[.int .u32 a, .int .u32 b, .int .u32 c, .int .u32 d] 63) (.cells (bcs (laid a b c d 0)).toArray 97) (.cells (bcs (laid a b c d 0)).toArray 97)
  go_name_world W hWe
  rw [show (((w.alloc (.cells #[.int .u32 a, .int .u32 b, .int .u32 c, .int .u32 d] 63)).alloc (.cells (bcs (laid a b c d 0)).toArray 97)).alloc (.cells (bcs (laid a b c d 0)).toArray 97)) = W from hWe] at hW hW2
  obtain ⟨hgr, hA⟩ := hW
  obtain ⟨hsz, hB, cur⟩ := hW2
  clear hWe
  obtain ⟨Wc, hWc⟩ : ∃ Wc, Wc = W := ⟨_, rfl⟩
  have hO : Only [w.heap.size + 2] W Wc := by rw [hWc]; exact Only.refl _ _
  rw [← hWc] at cur ⊢
  clear hWc
  have HA : Hid (Blk W w.heap.size #[.int .u32 a, .int .u32 b, .int .u32 c, .int .u32 d] 63) := hA
  have HB : Hid (Blk W (w.heap.size + 1) (bcs (laid a b c d 0)).toArray 97) := hB
  have HC : Hid (∀ w3, Only [w.heap.size + 2] W w3 → w3.cell? ⟨w.heap.size, 0, none⟩ = some (.int .u32 a) ∧ w3.cell? ⟨w.heap.size, 1, none⟩ = some (.int .u32 b) ∧ w3.cell? ⟨w.heap.size, 2, none⟩ = some (.int .u32 c) ∧ w3.cell? ⟨w.heap.size, 3, none⟩ = some (.int .u32 d)) := fun w3 h3 => by
    have h := h3.blk HA.out (by simp)
    exact ⟨cell_of_row _ _ _ _ _ _ h, cell_of_row _ _ _ _ _ _ h, cell_of_row _ _ _ _ _ _ h, cell_of_row _ _ _ _ _ _ h⟩
  have HCU : Hid (Blk Wc (w.heap.size + 2) (bcs (laid a b c d 0)).toArray 97) := cur
  clear hA hB cur
  refine wp_loop_rounds 13 ?_
  rw [rounds_succ]
  have hwk : IntKind.i64.wrap 0 = 0 := by rw [IntKind.wrap_i64]; omega
  go_wp2
  have hO' := hO.trans (Only.drew Wc _)
  go_region_held3 (fun w' => w'.cell? ⟨w.heap.size, 0, none⟩ = some (.int .u32 a) ∧ w'.cell? ⟨w.heap.size, 1, none⟩ = some (.int .u32 b) ∧ w'.cell? ⟨w.heap.size, 2, none⟩ = some (.int .u32 c) ∧ w'.cell? ⟨w.heap.size, 3, none⟩ = some (.int .u32 d)) (first | exact HC.out _ hO' | exact HC.out _ hON) (first | (go_at_call 69; refine (layWord_any Wc.drew (w.heap.size + 2) 0 _ _ a (laid a b c d 0) 97 HCU.out (by omega) ha (by rw [length_laid _ _ _ _ 0 (by omega)]; omega)).mono ?_; rintro e Wd ⟨rfl, HCv, hOn⟩; have hON := hO'.trans hOn; have HCUn : Hid (Blk Wd (w.heap.size + 2) (bcs (laid a b c d 1)).toArray 97) := HCv; clear HCv))
  go_wp2
  clear hO HCU hO' hOn hwk
  obtain ⟨Wc, hWc⟩ : ∃ Wc, Wc = Wd := ⟨_, rfl⟩
  subst hWc
  have hO := hON
  have HCU := HCUn
  clear hON HCUn
  rw [rounds_succ]
  have hwk : IntKind.i64.wrap 4 = 4 := by rw [IntKind.wrap_i64]; omega
  go_wp2
  have hO' := hO.trans (Only.drew Wc _)
  go_region_held3 (fun w' => w'.cell? ⟨w.heap.size, 0, none⟩ = some (.int .u32 a) ∧ w'.cell? ⟨w.heap.size, 1, none⟩ = some (.int .u32 b) ∧ w'.cell? ⟨w.heap.size, 2, none⟩ = some (.int .u32 c) ∧ w'.cell? ⟨w.heap.size, 3, none⟩ = some (.int .u32 d)) (first | exact HC.out _ hO' | exact HC.out _ hON) (first | (go_at_call 69; refine (layWord_any Wc.drew (w.heap.size + 2) 4 _ _ b (laid a b c d 1) 97 HCU.out (by omega) hb (by rw [length_laid _ _ _ _ 1 (by omega)]; omega)).mono ?_; rintro e Wd ⟨rfl, HCv, hOn⟩; have hON := hO'.trans hOn; have HCUn : Hid (Blk Wd (w.heap.size + 2) (bcs (laid a b c d 2)).toArray 97) := HCv; clear HCv))
  go_wp2
  clear hO HCU hO' hOn hwk
  obtain ⟨Wc, hWc⟩ : ∃ Wc, Wc = Wd := ⟨_, rfl⟩
  subst hWc
  have hO := hON
  have HCU := HCUn
  clear hON HCUn
  rw [rounds_succ]
  have hwk : IntKind.i64.wrap 8 = 8 := by rw [IntKind.wrap_i64]; omega
  go_wp2
  have hO' := hO.trans (Only.drew Wc _)
  go_region_held3 (fun w' => w'.cell? ⟨w.heap.size, 0, none⟩ = some (.int .u32 a) ∧ w'.cell? ⟨w.heap.size, 1, none⟩ = some (.int .u32 b) ∧ w'.cell? ⟨w.heap.size, 2, none⟩ = some (.int .u32 c) ∧ w'.cell? ⟨w.heap.size, 3, none⟩ = some (.int .u32 d)) (first | exact HC.out _ hO' | exact HC.out _ hON) (first | (go_at_call 69; refine (layWord_any Wc.drew (w.heap.size + 2) 8 _ _ c (laid a b c d 2) 97 HCU.out (by omega) hc (by rw [length_laid _ _ _ _ 2 (by omega)]; omega)).mono ?_; rintro e Wd ⟨rfl, HCv, hOn⟩; have hON := hO'.trans hOn; have HCUn : Hid (Blk Wd (w.heap.size + 2) (bcs (laid a b c d 3)).toArray 97) := HCv; clear HCv))
  go_wp2
  clear hO HCU hO' hOn hwk
  obtain ⟨Wc, hWc⟩ : ∃ Wc, Wc = Wd := ⟨_, rfl⟩
  subst hWc
  have hO := hON
  have HCU := HCUn
  clear hON HCUn
  rw [rounds_succ]
  have hwk : IntKind.i64.wrap 12 = 12 := by rw [IntKind.wrap_i64]; omega
  go_wp2
  have hO' := hO.trans (Only.drew Wc _)
  go_region_held3 (fun w' => w'.cell? ⟨w.heap.size, 0, none⟩ = some (.int .u32 a) ∧ w'.cell? ⟨w.heap.size, 1, none⟩ = some (.int .u32 b) ∧ w'.cell? ⟨w.heap.size, 2, none⟩ = some (.int .u32 c) ∧ w'.cell? ⟨w.heap.size, 3, none⟩ = some (.int .u32 d)) (first | exact HC.out _ hO' | exact HC.out _ hON) (first | (go_at_call 69; refine (layWord_any Wc.drew (w.heap.size + 2) 12 _ _ d (laid a b c d 3) 97 HCU.out (by omega) hd (by rw [length_laid _ _ _ _ 3 (by omega)]; omega)).mono ?_; rintro e Wd ⟨rfl, HCv, hOn⟩; have hON := hO'.trans hOn; have HCUn : Hid (Blk Wd (w.heap.size + 2) (bcs (laid a b c d 4)).toArray 97) := HCv; clear HCv))
  go_wp2
  clear hO HCU hO' hOn hwk
  obtain ⟨Wc, hWc⟩ : ∃ Wc, Wc = Wd := ⟨_, rfl⟩
  subst hWc
  have hO := hON
  have HCU := HCUn
  clear hON HCUn
  rw [rounds_succ]
  have hwk : IntKind.i64.wrap 16 = 16 := by rw [IntKind.wrap_i64]; omega
  go_wp2
  have hO' := hO.trans (Only.drew Wc _)
  go_region_held3 (fun w' => w'.cell? ⟨w.heap.size, 0, none⟩ = some (.int .u32 a) ∧ w'.cell? ⟨w.heap.size, 1, none⟩ = some (.int .u32 b) ∧ w'.cell? ⟨w.heap.size, 2, none⟩ = some (.int .u32 c) ∧ w'.cell? ⟨w.heap.size, 3, none⟩ = some (.int .u32 d)) (first | exact HC.out _ hO' | exact HC.out _ hON) (first | (go_at_call 69; refine (layWord_any Wc.drew (w.heap.size + 2) 16 _ _ a (laid a b c d 4) 97 HCU.out (by omega) ha (by rw [length_laid _ _ _ _ 4 (by omega)]; omega)).mono ?_; rintro e Wd ⟨rfl, HCv, hOn⟩; have hON := hO'.trans hOn; have HCUn : Hid (Blk Wd (w.heap.size + 2) (bcs (laid a b c d 5)).toArray 97) := HCv; clear HCv))
  go_wp2
  clear hO HCU hO' hOn hwk
  obtain ⟨Wc, hWc⟩ : ∃ Wc, Wc = Wd := ⟨_, rfl⟩
  subst hWc
  have hO := hON
  have HCU := HCUn
  clear hON HCUn
  rw [rounds_succ]
  have hwk : IntKind.i64.wrap 20 = 20 := by rw [IntKind.wrap_i64]; omega
  go_wp2
  have hO' := hO.trans (Only.drew Wc _)
  go_region_held3 (fun w' => w'.cell? ⟨w.heap.size, 0, none⟩ = some (.int .u32 a) ∧ w'.cell? ⟨w.heap.size, 1, none⟩ = some (.int .u32 b) ∧ w'.cell? ⟨w.heap.size, 2, none⟩ = some (.int .u32 c) ∧ w'.cell? ⟨w.heap.size, 3, none⟩ = some (.int .u32 d)) (first | exact HC.out _ hO' | exact HC.out _ hON) (first | (go_at_call 69; refine (layWord_any Wc.drew (w.heap.size + 2) 20 _ _ b (laid a b c d 5) 97 HCU.out (by omega) hb (by rw [length_laid _ _ _ _ 5 (by omega)]; omega)).mono ?_; rintro e Wd ⟨rfl, HCv, hOn⟩; have hON := hO'.trans hOn; have HCUn : Hid (Blk Wd (w.heap.size + 2) (bcs (laid a b c d 6)).toArray 97) := HCv; clear HCv))
  go_wp2
  clear hO HCU hO' hOn hwk
  obtain ⟨Wc, hWc⟩ : ∃ Wc, Wc = Wd := ⟨_, rfl⟩
  subst hWc
  have hO := hON
  have HCU := HCUn
  clear hON HCUn
  rw [rounds_succ]
  have hwk : IntKind.i64.wrap 24 = 24 := by rw [IntKind.wrap_i64]; omega
  go_wp2
  have hO' := hO.trans (Only.drew Wc _)
  go_region_held3 (fun w' => w'.cell? ⟨w.heap.size, 0, none⟩ = some (.int .u32 a) ∧ w'.cell? ⟨w.heap.size, 1, none⟩ = some (.int .u32 b) ∧ w'.cell? ⟨w.heap.size, 2, none⟩ = some (.int .u32 c) ∧ w'.cell? ⟨w.heap.size, 3, none⟩ = some (.int .u32 d)) (first | exact HC.out _ hO' | exact HC.out _ hON) (first | (go_at_call 69; refine (layWord_any Wc.drew (w.heap.size + 2) 24 _ _ c (laid a b c d 6) 97 HCU.out (by omega) hc (by rw [length_laid _ _ _ _ 6 (by omega)]; omega)).mono ?_; rintro e Wd ⟨rfl, HCv, hOn⟩; have hON := hO'.trans hOn; have HCUn : Hid (Blk Wd (w.heap.size + 2) (bcs (laid a b c d 7)).toArray 97) := HCv; clear HCv))
  go_wp2
  clear hO HCU hO' hOn hwk
  obtain ⟨Wc, hWc⟩ : ∃ Wc, Wc = Wd := ⟨_, rfl⟩
  subst hWc
  have hO := hON
  have HCU := HCUn
  clear hON HCUn
  rw [rounds_succ]
  have hwk : IntKind.i64.wrap 28 = 28 := by rw [IntKind.wrap_i64]; omega
  go_wp2
  have hO' := hO.trans (Only.drew Wc _)
  go_region_held3 (fun w' => w'.cell? ⟨w.heap.size, 0, none⟩ = some (.int .u32 a) ∧ w'.cell? ⟨w.heap.size, 1, none⟩ = some (.int .u32 b) ∧ w'.cell? ⟨w.heap.size, 2, none⟩ = some (.int .u32 c) ∧ w'.cell? ⟨w.heap.size, 3, none⟩ = some (.int .u32 d)) (first | exact HC.out _ hO' | exact HC.out _ hON) (first | (go_at_call 69; refine (layWord_any Wc.drew (w.heap.size + 2) 28 _ _ d (laid a b c d 7) 97 HCU.out (by omega) hd (by rw [length_laid _ _ _ _ 7 (by omega)]; omega)).mono ?_; rintro e Wd ⟨rfl, HCv, hOn⟩; have hON := hO'.trans hOn; have HCUn : Hid (Blk Wd (w.heap.size + 2) (bcs (laid a b c d 8)).toArray 97) := HCv; clear HCv))
  go_wp2
  clear hO HCU hO' hOn hwk
  obtain ⟨Wc, hWc⟩ : ∃ Wc, Wc = Wd := ⟨_, rfl⟩
  subst hWc
  have hO := hON
  have HCU := HCUn
  clear hON HCUn
  rw [rounds_succ]
  have hwk : IntKind.i64.wrap 32 = 32 := by rw [IntKind.wrap_i64]; omega
  go_wp2
  have hO' := hO.trans (Only.drew Wc _)
  go_region_held3 (fun w' => w'.cell? ⟨w.heap.size, 0, none⟩ = some (.int .u32 a) ∧ w'.cell? ⟨w.heap.size, 1, none⟩ = some (.int .u32 b) ∧ w'.cell? ⟨w.heap.size, 2, none⟩ = some (.int .u32 c) ∧ w'.cell? ⟨w.heap.size, 3, none⟩ = some (.int .u32 d)) (first | exact HC.out _ hO' | exact HC.out _ hON) (first | (go_at_call 69; refine (layWord_any Wc.drew (w.heap.size + 2) 32 _ _ a (laid a b c d 8) 97 HCU.out (by omega) ha (by rw [length_laid _ _ _ _ 8 (by omega)]; omega)).mono ?_; rintro e Wd ⟨rfl, HCv, hOn⟩; have hON := hO'.trans hOn; have HCUn : Hid (Blk Wd (w.heap.size + 2) (bcs (laid a b c d 9)).toArray 97) := HCv; clear HCv))
  go_wp2
  clear hO HCU hO' hOn hwk
  obtain ⟨Wc, hWc⟩ : ∃ Wc, Wc = Wd := ⟨_, rfl⟩
  subst hWc
  have hO := hON
  have HCU := HCUn
  clear hON HCUn
  rw [rounds_succ]
  have hwk : IntKind.i64.wrap 36 = 36 := by rw [IntKind.wrap_i64]; omega
  go_wp2
  have hO' := hO.trans (Only.drew Wc _)
  go_region_held3 (fun w' => w'.cell? ⟨w.heap.size, 0, none⟩ = some (.int .u32 a) ∧ w'.cell? ⟨w.heap.size, 1, none⟩ = some (.int .u32 b) ∧ w'.cell? ⟨w.heap.size, 2, none⟩ = some (.int .u32 c) ∧ w'.cell? ⟨w.heap.size, 3, none⟩ = some (.int .u32 d)) (first | exact HC.out _ hO' | exact HC.out _ hON) (first | (go_at_call 69; refine (layWord_any Wc.drew (w.heap.size + 2) 36 _ _ b (laid a b c d 9) 97 HCU.out (by omega) hb (by rw [length_laid _ _ _ _ 9 (by omega)]; omega)).mono ?_; rintro e Wd ⟨rfl, HCv, hOn⟩; have hON := hO'.trans hOn; have HCUn : Hid (Blk Wd (w.heap.size + 2) (bcs (laid a b c d 10)).toArray 97) := HCv; clear HCv))
  go_wp2
  clear hO HCU hO' hOn hwk
  obtain ⟨Wc, hWc⟩ : ∃ Wc, Wc = Wd := ⟨_, rfl⟩
  subst hWc
  have hO := hON
  have HCU := HCUn
  clear hON HCUn
  rw [rounds_succ]
  have hwk : IntKind.i64.wrap 40 = 40 := by rw [IntKind.wrap_i64]; omega
  go_wp2
  have hO' := hO.trans (Only.drew Wc _)
  go_region_held3 (fun w' => w'.cell? ⟨w.heap.size, 0, none⟩ = some (.int .u32 a) ∧ w'.cell? ⟨w.heap.size, 1, none⟩ = some (.int .u32 b) ∧ w'.cell? ⟨w.heap.size, 2, none⟩ = some (.int .u32 c) ∧ w'.cell? ⟨w.heap.size, 3, none⟩ = some (.int .u32 d)) (first | exact HC.out _ hO' | exact HC.out _ hON) (first | (go_at_call 69; refine (layWord_any Wc.drew (w.heap.size + 2) 40 _ _ c (laid a b c d 10) 97 HCU.out (by omega) hc (by rw [length_laid _ _ _ _ 10 (by omega)]; omega)).mono ?_; rintro e Wd ⟨rfl, HCv, hOn⟩; have hON := hO'.trans hOn; have HCUn : Hid (Blk Wd (w.heap.size + 2) (bcs (laid a b c d 11)).toArray 97) := HCv; clear HCv))
  go_wp2
  clear hO HCU hO' hOn hwk
  obtain ⟨Wc, hWc⟩ : ∃ Wc, Wc = Wd := ⟨_, rfl⟩
  subst hWc
  have hO := hON
  have HCU := HCUn
  clear hON HCUn
  rw [rounds_succ]
  have hwk : IntKind.i64.wrap 44 = 44 := by rw [IntKind.wrap_i64]; omega
  go_wp2
  have hO' := hO.trans (Only.drew Wc _)
  go_region_held3 (fun w' => w'.cell? ⟨w.heap.size, 0, none⟩ = some (.int .u32 a) ∧ w'.cell? ⟨w.heap.size, 1, none⟩ = some (.int .u32 b) ∧ w'.cell? ⟨w.heap.size, 2, none⟩ = some (.int .u32 c) ∧ w'.cell? ⟨w.heap.size, 3, none⟩ = some (.int .u32 d)) (first | exact HC.out _ hO' | exact HC.out _ hON) (first | (go_at_call 69; refine (layWord_any Wc.drew (w.heap.size + 2) 44 _ _ d (laid a b c d 11) 97 HCU.out (by omega) hd (by rw [length_laid _ _ _ _ 11 (by omega)]; omega)).mono ?_; rintro e Wd ⟨rfl, HCv, hOn⟩; have hON := hO'.trans hOn; have HCUn : Hid (Blk Wd (w.heap.size + 2) (bcs (laid a b c d 12)).toArray 97) := HCv; clear HCv))
  go_wp2
  clear hO HCU hO' hOn hwk
  obtain ⟨Wc, hWc⟩ : ∃ Wc, Wc = Wd := ⟨_, rfl⟩
  subst hWc
  have hO := hON
  have HCU := HCUn
  clear hON HCUn
  obtain ⟨X, hX⟩ : ∃ X : Array Value, X = (bcs (laid a b c d 12)).toArray := ⟨_, rfl⟩
  have hXs : X.size = 64 := by rw [hX]; simp [length_bcs, length_laid]
  have hX1 : X.all (·.oneCell') = true := by rw [hX]; exact Array.all_eq_true_iff_forall_mem.2 (fun v hv => one_bcs _ v (by simpa using hv))
  have HCX : Hid (Blk Wc (w.heap.size + 2) X 97) := by rw [hX]; exact HCU.out
  have HBX : Hid (Blk Wc (w.heap.size + 1) (bcs (laid a b c d 0)).toArray 97) := hO.blk HB.out (by simp)
  have HIX : Hid ((Try.prog.info? 97).map (·.size) = some X.size) := by rw [hXs]; exact info42s
  have HO1 : Hid (X.all (·.oneCell') = true) := hX1
  have HZS : Hid ((bcs (laid a b c d 0)).toArray.size = X.size) := (show (bcs (laid a b c d 0)).toArray.size = X.size by rw [hXs]; simp [length_bcs, length_laid])
  have HX : Hid (X = (bcs (laid a b c d 12)).toArray) := hX
  clear hX hXs hX1
  rw [rounds_succ]
  go_wp2_with (first
    | refine wpList_load_row rfl 97 (.tmp 3) rfl (w.heap.size + 2) (by simp [Act.eval]) 97 X (0, 0) _ HCX.out Try.underlying97 rfl HIX.out ?_
    | refine wpList_store_row rfl 97 (.tmp 2) (.tmp 17) rfl (w.heap.size + 1) X (by simp [Act.eval, Act.put]) (by simp [Act.eval, Act.put]) 97 _ HBX.out HIX.out HZS.out HO1.out ?_)
  refine bodyPost_ret (v := .agg X) (results_cell_row Try.results57 _ _ (w.heap.size + 1) 97 X (0, 0) _ rfl (setRow_heap _ _ _ _ _ _ HBX.out) Try.underlying97 rfl HIX.out) rfl ⟨by rw [HX.out]; rfl, ?_⟩
  refine ⟨hO.os.trans hgr.os, hO.tape.trans hgr.tape, hO.output.trans hgr.output, by rw [size_setRow]; exact Nat.le_trans hgr.size hO.size, fun j hj _ => ?_⟩
  rw [setRow_other _ _ _ _ (by omega), hO.block j (Nat.lt_of_lt_of_le hj hgr.size) (by simp; omega)]
  exact hgr.block j hj (by simp)

end Go.Proofs.Ytfcgjedanhmpiaa
