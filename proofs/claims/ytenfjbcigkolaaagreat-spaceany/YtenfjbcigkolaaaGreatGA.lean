/- A page's bytes in memory; where a cell's bytes begin. -/
import Derived.Test.YtenfjbcigkolaaaGreatChecked
import Derived.WalkKit
import Derived.ProofKit
import Derived.OpenShut
import Derived.Laws.StructEq
import Derived.Handy
import Derived.LoopN
import Derived.Deep.RegionHeld3
import Derived.Deep.Cut
import Derived.Deep.WholeRow
import Derived.Laws.CopyRow
namespace Go.Proofs.YtenfjbcigkolaaaGreat
open Go.ChangeShapes Go.WideShapes Go.ChangeAt Go.RowKit
set_option linter.unusedVariables false

theorem cell_later {w w' : World} (b : Below w.heap.size w w') {a : Addr} {v : Value} (h : w.cell? a = some v) : w'.cell? a = some v := by
  refine (b.cell ?_).trans h
  refine Nat.lt_of_not_le fun hn => ?_
  have : w.heap[a.block]? = none := by simp; exact hn
  rw [World.cell?_of_block (w := World.mk #[] w.tape w.drawn w.os w.output) (w' := w) (by rw [this]; simp)] at h
  simp [World.cell?] at h
theorem below_trans {w w1 w2 : World} (h : Below w.heap.size w w1) (k : Below w1.heap.size w1 w2) : Below w.heap.size w w2 :=
  h.trans (k.mono h.size)
theorem new_below (w : World) (o : Obj) {W : World} (hW : w.alloc o = W) : Below w.heap.size w W := by
  subst hW; exact (Below.refl _ _).alloc (Nat.le_refl _) _
theorem hide {p : Prop} (h : p) : Hid p := h

/-- Bytes as cells. -/
def bcl (l : List UInt8) : List Value := l.map (fun b => .int .u8 (b.toNat : Int))
def bc (l : List UInt8) : Array Value := (bcl l).toArray
/-- The byte at a place. -/
def byt (l : List UInt8) (k : Nat) : Nat := (l[k]?.getD 0).toNat
theorem byt_lt (l : List UInt8) (k : Nat) : byt l k < 256 := (l[k]?.getD 0).toNat_lt
theorem bc_size (l : List UInt8) : (bc l).size = l.length := by simp [bc, bcl]
theorem bc_get {l : List UInt8} {k : Nat} (h : k < l.length) : (bc l)[k]? = some (.int .u8 (byt l k : Int)) := by
  simp [bc, bcl, byt, h]
theorem bc_one (l : List UInt8) : (bc l).all (·.oneCell') = true := by
  simp [bc, bcl, List.all_map]
  intro x _
  rfl
theorem page_info : (Tryz.prog.info? 32).map (·.size) = some 256 := by kernel_rfl
theorem page_size {l : List UInt8} (h : l.length = 256) : (Tryz.prog.info? 32).map (·.size) = some (bc l).size := by rw [bc_size, h]; exact page_info

/-- A page's cells in memory. -/
abbrev PAt (w : World) (g : Nat) (l : List UInt8) : Prop := w.heap[g]? = some (.cells (bc l) 32 (0, 0))
theorem PAt.cell {w : World} {g : Nat} {l : List UInt8} (h : PAt w g l) {k : Nat} (hk : k < l.length) : w.cell? ⟨g, k, none⟩ = some (.int .u8 (byt l k : Int)) := by
  rw [cell_of_row w g k _ _ _ h, bc_get hk]
theorem PAt.later {w w' : World} {g : Nat} {l : List UInt8} (h : PAt w g l) (hb : Below w.heap.size w w') : PAt w' g l := by
  show w'.heap[g]? = _
  rw [hb.block g (Array.getElem?_eq_some_iff.1 h).1]; exact h
theorem PAt.new (w : World) (l : List UInt8) : PAt (w.alloc (.cells (bc l) 32)) w.heap.size l := heap_alloc_new w _

/-- The sum of the first lengths. -/
def sm (l : List UInt8) : Nat → Nat
  | 0 => 0
  | i + 1 => sm l i + byt l (6 + i)
theorem sm_le (l : List UInt8) : ∀ i, sm l i ≤ i * 255
  | 0 => Nat.le_refl _
  | i + 1 => by
    have := sm_le l i
    have := byt_lt l (6 + i)
    simp only [sm]
    omega

theorem page_arr : Tryz.prog.underlying 32 = some (.array 256 5) := by kernel_rfl
theorem page_arrl : Tryz.prog.arrayLen 32 = 256 := by simp [Program.arrayLen]
theorem page_elem : Tryz.prog.elem 32 = 5 := by simp [Program.elem]
theorem size5 (W : World) : (sizeOf 5).run Tryz.prog W = .ok 1 W := by
  have h : (Tryz.prog.info? 5).map (·.size) = some 1 := by kernel_rfl
  cases hq : Tryz.prog.info? 5 with
  | none => simp [hq] at h
  | some i => simp [sizeOf, typeInfo, hq] at h ⊢; exact h
/-- A piece of a page. -/
theorem cut_page (W : World) (g : Nat) {x y : Int} (a n : Nat) (hx : x = (a : Int)) (hy : y = (a : Int) + (n : Int)) (h : a + n ≤ 256) (ha : a < 256) :
    (Instr.sliceAt 32 (.pointer (some ⟨g, 0, none⟩)) (some (.int .i64 x)) (some (.int .i64 y)) none).run Tryz.prog W = .ok (.slice (some ⟨g, a, none⟩) n (256 - a)) W := by
  subst hx hy
  rw [run_sliceAt_array_lh W 32 ⟨g, 0, none⟩ (by rw [page_arrl, page_elem]; exact page_arr) .i64 .i64 _ _ (by omega) (by omega) (by rw [page_arrl]; omega), page_elem, size5, page_arrl]
  simp only [Result.andThen, slicedAt]
  rw [if_neg (by omega)]
  have e : (⟨g, 0, none⟩ : Addr).add ((a : Int).toNat * 1) = ⟨g, a, none⟩ := by unfold Addr.add; split <;> simp_all
  rw [e]
  congr 2
  omega
theorem cut_end (W : World) (g : Nat) {x y : Int} (a : Nat) (hx : x = (a : Int)) (ha : a < 256) :
    (Instr.sliceAt 32 (.pointer (some ⟨g, 0, none⟩)) (some (.int .i64 x)) none none).run Tryz.prog W = .ok (.slice (some ⟨g, a, none⟩) (256 - a) (256 - a)) W := by
  subst hx
  rw [run_sliceAt_array_l W 32 ⟨g, 0, none⟩ (by rw [page_arrl, page_elem]; exact page_arr) .i64 _ (by omega) (by rw [page_arrl]; omega), page_elem, size5, page_arrl]
  simp only [Result.andThen, slicedAt]
  rw [if_neg (by omega)]
  have e : (⟨g, 0, none⟩ : Addr).add ((a : Int).toNat * 1) = ⟨g, a, none⟩ := by unfold Addr.add; split <;> simp_all
  rw [e]
  rfl

set_option maxRecDepth 20000 in
set_option maxHeartbeats 1000000 in
theorem start_walk (l : List UInt8) (hl : l.length = 256) (i : Nat) (hi : i ≤ 250) (w : World) :
    Calls Tryz.prog 216 #[.agg (bc l), .int .i64 i] w fun e w' => e = .returned (.int .i64 ((6 + byt l 1 + sm l i : Nat) : Int)) ∧ Below w.heap.size w w' := by
  have HP := hide (PAt.new w l)
  have c1 : (w.alloc (.cells (bc l) 32)).cell? ⟨w.heap.size, 1, none⟩ = some (.int .u8 (byt l 1 : Int)) := HP.out.cell (by omega)
  have HB := hide (new_below w (.cells (bc l) 32) rfl)
  have HL := hide hl
  have b1 := byt_lt l 1
  have e1 : IntKind.i64.wrap (byt l 1 : Int) = (byt l 1 : Int) := by rw [IntKind.wrap_i64]; omega
  have e2 : IntKind.i64.wrap (6 + (byt l 1 : Int)) = 6 + (byt l 1 : Int) := by rw [IntKind.wrap_i64]; omega
  have e3 : IntKind.i64.wrap (6 + (i : Int)) = 6 + (i : Int) := by rw [IntKind.wrap_i64]; omega
  have hs := cut_page (w.alloc (.cells (bc l) 32)) w.heap.size (x := 6) (y := 6 + (i : Int)) 6 i rfl rfl (by omega) (by omega)
  have HI := hide hi
  clear hl b1 hi
  go_enter Tryz.func216, Tryz.ntmps216
  go_wp2
  go_loopw [16, 5] (fun iv av wr => ∃ j : Nat, j ≤ i ∧ iv = .int .i64 (j : Int) ∧ av = .int .i64 ((6 + byt l 1 + sm l j : Nat) : Int) ∧ wr = w.alloc (.cells (bc l) 32)) (fun iv _ _ => i - (intOf iv).toNat)
  case atStart => exact ⟨0, Nat.zero_le _, rfl, rfl, rfl⟩
  case round =>
    obtain ⟨j, hj, rfl, rfl, rfl⟩ := hrel
    by_cases hlt : j < i
    · have l1 : (j : Int) < (i : Int) := by omega
      have l0 : (0 : Int) ≤ (j : Int) := by omega
      have hi := HI.out
      have hw1 : IntKind.i64.wrap ((j : Int) + 1) = (j : Int) + 1 := by rw [IntKind.wrap_i64]; omega
      have cj := HP.out.cell (k := 6 + j) (by rw [HL.out]; omega)
      have bj := byt_lt l (6 + j)
      have bs := sm_le l j
      have b1 := byt_lt l 1
      have e4 : IntKind.i64.wrap (byt l (6 + j) : Int) = (byt l (6 + j) : Int) := by rw [IntKind.wrap_i64]; omega
      have e5 : IntKind.i64.wrap (6 + (byt l 1 : Int) + (sm l j : Int) + (byt l (6 + j) : Int)) = 6 + (byt l 1 : Int) + (sm l j : Int) + (byt l (6 + j) : Int) := by rw [IntKind.wrap_i64]; omega
      clear bj bs b1 hi
      go_wp2
      refine ⟨⟨j + 1, hlt, rfl, ?_, by trivial⟩, ?_⟩
      · simp only [sm]; exact congrArg (Value.int IntKind.i64) (by omega)
      · simp only [intOf]; omega
    · have l1 : ¬ (j : Int) < (i : Int) := by omega
      obtain rfl : j = i := by omega
      go_wp2
      go_ret
      exact ⟨rfl, HB.out⟩
end Go.Proofs.YtenfjbcigkolaaaGreat
