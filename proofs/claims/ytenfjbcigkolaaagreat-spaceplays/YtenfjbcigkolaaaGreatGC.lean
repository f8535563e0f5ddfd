/- A page's bytes in memory; where a cell's bytes begin. -/
/- A page's link: read, and laid. -/
/- A page with another link. -/
import Derived.Test.YtenfjbcigkolaaaGreatChecked
import Derived.WalkKit
import Derived.ProofKit
import Derived.OpenShut
import Derived.Laws.StructEq
import Derived.Handy
import Derived.LoopN
import Derived.Deep.RegionHeld3
import Derived.Deep.Cut
import Derived.Deep.WholeRow
import Derived.Laws.CopyRow
import Derived.Laws.BitsAllLaws
namespace Go.Proofs.YtenfjbcigkolaaaGreat
open Go.ChangeShapes Go.WideShapes Go.ChangeAt Go.RowKit
set_option linter.unusedVariables false

theorem cell_later {w w' : World} (b : Below w.heap.size w w') {a : Addr} {v : Value} (h : w.cell? a = some v) : w'.cell? a = some v := by
  refine (b.cell ?_).trans h
  refine Nat.lt_of_not_le fun hn => ?_
  have : w.heap[a.block]? = none := by simp; exact hn
  rw [World.cell?_of_block (w := World.mk #[] w.tape w.drawn w.os w.output) (w' := w) (by rw [this]; simp)] at h
  simp [World.cell?] at h
theorem below_trans {w w1 w2 : World} (h : Below w.heap.size w w1) (k : Below w1.heap.size w1 w2) : Below w.heap.size w w2 :=
  h.trans (k.mono h.size)
theorem new_below (w : World) (o : Obj) {W : World} (hW : w.alloc o = W) : Below w.heap.size w W := by
  subst hW; exact (Below.refl _ _).alloc (Nat.le_refl _) _
theorem hide {p : Prop} (h : p) : Hid p := h

/-- Bytes as cells. -/
def bcl (l : List UInt8) : List Value := l.map (fun b => .int .u8 (b.toNat : Int))
def bc (l : List UInt8) : Array Value := (bcl l).toArray
/-- The byte at a place. -/
def byt (l : List UInt8) (k : Nat) : Nat := (l[k]?.getD 0).toNat
theorem byt_lt (l : List UInt8) (k : Nat) : byt l k < 256 := (l[k]?.getD 0).toNat_lt
theorem bc_size (l : List UInt8) : (bc l).size = l.length := by simp [bc, bcl]
theorem bc_get {l : List UInt8} {k : Nat} (h : k < l.length) : (bc l)[k]? = some (.int .u8 (byt l k : Int)) := by
  simp [bc, bcl, byt, h]
theorem bc_one (l : List UInt8) : (bc l).all (·.oneCell') = true := by
  simp [bc, bcl, List.all_map]
  intro x _
  rfl
theorem page_info : (Tryz.prog.info? 32).map (·.size) = some 256 := by kernel_rfl
theorem page_size {l : List UInt8} (h : l.length = 256) : (Tryz.prog.info? 32).map (·.size) = some (bc l).size := by rw [bc_size, h]; exact page_info

/-- A page's cells in memory. -/
abbrev PAt (w : World) (g : Nat) (l : List UInt8) : Prop := w.heap[g]? = some (.cells (bc l) 32 (0, 0))
theorem PAt.cell {w : World} {g : Nat} {l : List UInt8} (h : PAt w g l) {k : Nat} (hk : k < l.length) : w.cell? ⟨g, k, none⟩ = some (.int .u8 (byt l k : Int)) := by
  rw [cell_of_row w g k _ _ _ h, bc_get hk]
theorem PAt.later {w w' : World} {g : Nat} {l : List UInt8} (h : PAt w g l) (hb : Below w.heap.size w w') : PAt w' g l := by
  show w'.heap[g]? = _
  rw [hb.block g (Array.getElem?_eq_some_iff.1 h).1]; exact h
theorem PAt.new (w : World) (l : List UInt8) : PAt (w.alloc (.cells (bc l) 32)) w.heap.size l := heap_alloc_new w _

/-- The sum of the first lengths. -/
def sm (l : List UInt8) : Nat → Nat
  | 0 => 0
  | i + 1 => sm l i + byt l (6 + i)
theorem sm_le (l : List UInt8) : ∀ i, sm l i ≤ i * 255
  | 0 => Nat.le_refl _
  | i + 1 => by
    have := sm_le l i
    have := byt_lt l (6 + i)
    simp only [sm]
    omega

theorem page_arr : Tryz.prog.underlying 32 = some (.array 256 5) := by kernel_rfl
theorem page_arrl : Tryz.prog.arrayLen 32 = 256 := by simp [Program.arrayLen]
theorem page_elem : Tryz.prog.elem 32 = 5 := by simp [Program.elem]
theorem size5 (W : World) : (sizeOf 5).run Tryz.prog W = .ok 1 W := by
  have h : (Tryz.prog.info? 5).map (·.size) = some 1 := by kernel_rfl
  cases hq : Tryz.prog.info? 5 with
  | none => simp [hq] at h
  | some i => simp [sizeOf, typeInfo, hq] at h ⊢; exact h
/-- A piece of a page. -/
theorem cut_page (W : World) (g : Nat) {x y : Int} (a n : Nat) (hx : x = (a : Int)) (hy : y = (a : Int) + (n : Int)) (h : a + n ≤ 256) (ha : a < 256) :
    (Instr.sliceAt 32 (.pointer (some ⟨g, 0, none⟩)) (some (.int .i64 x)) (some (.int .i64 y)) none).run Tryz.prog W = .ok (.slice (some ⟨g, a, none⟩) n (256 - a)) W := by
  subst hx hy
  rw [run_sliceAt_array_lh W 32 ⟨g, 0, none⟩ (by rw [page_arrl, page_elem]; exact page_arr) .i64 .i64 _ _ (by omega) (by omega) (by rw [page_arrl]; omega), page_elem, size5, page_arrl]
  simp only [Result.andThen, slicedAt]
  rw [if_neg (by omega)]
  have e : (⟨g, 0, none⟩ : Addr).add ((a : Int).toNat * 1) = ⟨g, a, none⟩ := by unfold Addr.add; split <;> simp_all
  rw [e]
  congr 2
  omega
theorem cut_end (W : World) (g : Nat) {x y : Int} (a : Nat) (hx : x = (a : Int)) (ha : a < 256) :
    (Instr.sliceAt 32 (.pointer (some ⟨g, 0, none⟩)) (some (.int .i64 x)) none none).run Tryz.prog W = .ok (.slice (some ⟨g, a, none⟩) (256 - a) (256 - a)) W := by
  subst hx
  rw [run_sliceAt_array_l W 32 ⟨g, 0, none⟩ (by rw [page_arrl, page_elem]; exact page_arr) .i64 _ (by omega) (by rw [page_arrl]; omega), page_elem, size5, page_arrl]
  simp only [Result.andThen, slicedAt]
  rw [if_neg (by omega)]
  have e : (⟨g, 0, none⟩ : Addr).add ((a : Int).toNat * 1) = ⟨g, a, none⟩ := by unfold Addr.add; split <;> simp_all
  rw [e]
  rfl

set_option maxRecDepth 20000 in
set_option maxHeartbeats 1000000 in
theorem start_walk (l : List UInt8) (hl : l.length = 256) (i : Nat) (hi : i ≤ 250) (w : World) :
    Calls Tryz.prog 216 #[.agg (bc l), .int .i64 i] w fun e w' => e = .returned (.int .i64 ((6 + byt l 1 + sm l i : Nat) : Int)) ∧ Below w.heap.size w w' := by
  have HP := hide (PAt.new w l)
  have c1 : (w.alloc (.cells (bc l) 32)).cell? ⟨w.heap.size, 1, none⟩ = some (.int .u8 (byt l 1 : Int)) := HP.out.cell (by omega)
  have HB := hide (new_below w (.cells (bc l) 32) rfl)
  have HL := hide hl
  have b1 := byt_lt l 1
  have e1 : IntKind.i64.wrap (byt l 1 : Int) = (byt l 1 : Int) := by rw [IntKind.wrap_i64]; omega
  have e2 : IntKind.i64.wrap (6 + (byt l 1 : Int)) = 6 + (byt l 1 : Int) := by rw [IntKind.wrap_i64]; omega
  have e3 : IntKind.i64.wrap (6 + (i : Int)) = 6 + (i : Int) := by rw [IntKind.wrap_i64]; omega
  have hs := cut_page (w.alloc (.cells (bc l) 32)) w.heap.size (x := 6) (y := 6 + (i : Int)) 6 i rfl rfl (by omega) (by omega)
  have HI := hide hi
  clear hl b1 hi
  go_enter Tryz.func216, Tryz.ntmps216
  go_wp2
  go_loopw [16, 5] (fun iv av wr => ∃ j : Nat, j ≤ i ∧ iv = .int .i64 (j : Int) ∧ av = .int .i64 ((6 + byt l 1 + sm l j : Nat) : Int) ∧ wr = w.alloc (.cells (bc l) 32)) (fun iv _ _ => i - (intOf iv).toNat)
  case atStart => exact ⟨0, Nat.zero_le _, rfl, rfl, rfl⟩
  case round =>
    obtain ⟨j, hj, rfl, rfl, rfl⟩ := hrel
    by_cases hlt : j < i
    · have l1 : (j : Int) < (i : Int) := by omega
      have l0 : (0 : Int) ≤ (j : Int) := by omega
      have hi := HI.out
      have hw1 : IntKind.i64.wrap ((j : Int) + 1) = (j : Int) + 1 := by rw [IntKind.wrap_i64]; omega
      have cj := HP.out.cell (k := 6 + j) (by rw [HL.out]; omega)
      have bj := byt_lt l (6 + j)
      have bs := sm_le l j
      have b1 := byt_lt l 1
      have e4 : IntKind.i64.wrap (byt l (6 + j) : Int) = (byt l (6 + j) : Int) := by rw [IntKind.wrap_i64]; omega
      have e5 : IntKind.i64.wrap (6 + (byt l 1 : Int) + (sm l j : Int) + (byt l (6 + j) : Int)) = 6 + (byt l 1 : Int) + (sm l j : Int) + (byt l (6 + j) : Int) := by rw [IntKind.wrap_i64]; omega
      clear bj bs b1 hi
      go_wp2
      refine ⟨⟨j + 1, hlt, rfl, ?_, by trivial⟩, ?_⟩
      · simp only [sm]; exact congrArg (Value.int IntKind.i64) (by omega)
      · simp only [intOf]; omega
    · have l1 : ¬ (j : Int) < (i : Int) := by omega
      obtain rfl : j = i := by omega
      go_wp2
      go_ret
      exact ⟨rfl, HB.out⟩
end Go.Proofs.YtenfjbcigkolaaaGreat

namespace Go.Proofs.YtenfjbcigkolaaaGreat
open Go.ChangeShapes Go.WideShapes Go.ChangeAt Go.RowKit
set_option linter.unusedVariables false

/-- A page's link. -/
def lnk (l : List UInt8) : Nat := ((byt l 2 * 256 + byt l 3) * 256 + byt l 4) * 256 + byt l 5
theorem lnk_lt (l : List UInt8) : lnk l < 4294967296 := by
  have := byt_lt l 2; have := byt_lt l 3; have := byt_lt l 4; have := byt_lt l 5
  unfold lnk; omega

def lkN (l : List UInt8) : Nat → Nat
  | 0 => 0
  | j + 1 => lkN l j * 256 + byt l (2 + j)
theorem lkN_lt (l : List UInt8) : ∀ j, lkN l j < 256 ^ j
  | 0 => by simp [lkN]
  | j + 1 => by
    have h := lkN_lt l j
    have hb := byt_lt l (2 + j)
    simp only [lkN, Nat.pow_succ]
    omega
theorem lk_lnk (l : List UInt8) : lkN l 4 = lnk l := by simp [lkN, lnk]

theorem link_step (l : List UInt8) (j : Nat) (h : j < 4) : bits BinOp.or IntKind.u32 ((lkN l j : Int) * 256 % 4294967296) ((byt l (2 + j) : Int) % 4294967296) = (lkN l (j + 1) : Int) := by
  have hb := byt_lt l (2 + j)
  have hj := lkN_lt l j
  have hp : lkN l j < 16777216 := by
    have : 256 ^ j ≤ 256 ^ 3 := Nat.pow_le_pow_right (by omega) (by omega)
    omega
  have e1 : (lkN l j : Int) * 256 % 4294967296 = ((lkN l j * 256 : Nat) : Int) := by omega
  have e2 : (byt l (2 + j) : Int) % 4294967296 = (byt l (2 + j) : Int) := by omega
  rw [e1, e2, u32_or_nat _ _ (by omega) (by omega)]
  have := Nat.two_pow_add_eq_or_of_lt (i := 8) (b := byt l (2 + j)) (by omega) (lkN l j)
  simp only [lkN]
  have e3 : lkN l j * 256 = 2 ^ 8 * lkN l j := by omega
  rw [e3, ← this]

set_option maxRecDepth 20000 in
set_option maxHeartbeats 1000000 in
theorem linkOf_walk (l : List UInt8) (hl : l.length = 256) (w : World) :
    Calls Tryz.prog 184 #[.agg (bc l)] w fun e w' => e = .returned (.int .u32 (lnk l : Int)) ∧ Below w.heap.size w w' := by
  have HP := hide (PAt.new w l)
  have HB := hide (new_below w (.cells (bc l) 32) rfl)
  have HL := hide hl
  have hs := cut_page (w.alloc (.cells (bc l) 32)) w.heap.size (x := 2) (y := 6) 2 4 rfl rfl (by omega) (by omega)
  clear hl
  go_enter Tryz.func184, Tryz.ntmps184
  go_wp2
  go_loopw [8, 3] (fun iv av wr => ∃ j : Nat, j ≤ 4 ∧ iv = .int .i64 (j : Int) ∧ av = .int .u32 ((lkN l j : Nat) : Int) ∧ wr = w.alloc (.cells (bc l) 32)) (fun iv _ _ => 4 - (intOf iv).toNat)
  case atStart => exact ⟨0, Nat.zero_le _, rfl, rfl, rfl⟩
  case round =>
    obtain ⟨j, hj, rfl, rfl, rfl⟩ := hrel
    by_cases hlt : j < 4
    · have l1 : (j : Int) < 4 := by omega
      have l0 : (0 : Int) ≤ (j : Int) := by omega
      have hw1 : IntKind.i64.wrap ((j : Int) + 1) = (j : Int) + 1 := by rw [IntKind.wrap_i64]; omega
      have cj := HP.out.cell (k := 2 + j) (by rw [HL.out]; omega)
      go_wp2
      refine ⟨⟨j + 1, hlt, rfl, ?_, by trivial⟩, ?_⟩
      · rw [link_step l j hlt]
      · simp only [intOf]; omega
    · have l1 : ¬ (j : Int) < 4 := by omega
      obtain rfl : j = 4 := by omega
      go_wp2
      go_ret
      rw [lk_lnk]
      exact ⟨rfl, HB.out⟩
end Go.Proofs.YtenfjbcigkolaaaGreat

namespace Go.Proofs.YtenfjbcigkolaaaGreat
open Go.ChangeShapes Go.WideShapes Go.ChangeAt Go.RowKit
set_option linter.unusedVariables false

/-- No bytes but zeros. -/
def zs : List UInt8 := List.replicate 256 0
theorem zs_length : zs.length = 256 := List.length_replicate ..
theorem zero_page : (∀ w, (zeroValue 32).run Tryz.prog w = .ok (.agg (bc zs)) w) ∧ (Tryz.prog.info? 32).map (·.size) = some 256 :=
  zero_of_info (by kernel_rfl)

theorem set_block {W : World} {g : Nat} {cs : Array Value} {t : TypeId} (h : W.heap[g]? = some (.cells cs t (0, 0))) (k : Nat) (v : Value) : (W.setCell ⟨g, k, none⟩ v).heap[g]? = some (.cells (cs.setIfInBounds k v) t (0, 0)) := by
  rw [setCell_eq_setRow W g k cs t (0, 0) v h]
  exact setRow_heap W g cs _ t _ h
theorem bc_set (l : List UInt8) (k : Nat) (b : UInt8) : (bc l).setIfInBounds k (.int .u8 (b.toNat : Int)) = bc (l.set k b) := by
  simp [bc, bcl, List.map_set]
theorem PAt.set {W : World} {g : Nat} {l : List UInt8} (h : PAt W g l) (k : Nat) (b : UInt8) {x : Int} (hx : x = (b.toNat : Int)) : PAt (W.setCell ⟨g, k, none⟩ (.int .u8 x)) g (l.set k b) := by
  subst hx
  have := set_block h k (.int .u8 (b.toNat : Int))
  rwa [bc_set] at this

theorem PAt.frozen {w : World} {g : Nat} {l : List UInt8} (h : PAt w g l) (k : Nat) : w.frozen? ⟨g, k, none⟩ = false := by simp [World.frozen?, h]

/-- A page, loaded whole. -/
theorem wp_loadP {ops : Array Oper} {rest : List Oper} {o : Oper} {a : Act} {Q : Exit → Act → World → Prop} {w : World} {g : Nat} {l : List UInt8} (hl : l.length = 256) (hg : PAt w g l) (x : Operand)
    (hgd : o.guard = none) (ho : o.op = .load 32 x) (hx : a.eval x = .pointer (some ⟨g, 0, none⟩)) (h : wpList Tryz.prog ops Q rest (a.put o.dst (.agg (bc l))) w) : wpList Tryz.prog ops Q (o :: rest) a w :=
  wpList_load_row hgd 32 x ho g hx 32 (bc l) (0, 0) _ hg page_arr rfl (page_size hl) h
theorem PAt.row {W : World} {g : Nat} {l l0 : List UInt8} (h : PAt W g l0) : PAt (W.setRow g (bc l)) g l := setRow_heap W g _ _ _ _ h
theorem heap_setRow (w : World) (g : Nat) (cs : Array Value) (k : Nat) (h : k ≠ g) : (w.setRow g cs).heap[k]? = w.heap[k]? := by
  simp only [World.setRow]
  rw [Array.getElem?_modify, if_neg (Ne.symm h)]
theorem below_setRow {B : Nat} {a w : World} (h : Below B a w) {g : Nat} (hp : B ≤ g) (cs : Array Value) : Below B a (w.setRow g cs) :=
  h.trans ⟨rfl, rfl, rfl, by simp [World.setRow], fun k hk => heap_setRow _ _ _ _ (by omega)⟩
/-- A page, stored whole. -/
theorem wp_storeP {ops : Array Oper} {rest : List Oper} {o : Oper} {a : Act} {Q : Exit → Act → World → Prop} {w : World} {g : Nat} {l l0 : List UInt8} (hl : l.length = 256) (hl0 : l0.length = 256) (hg : PAt w g l0) (x y : Operand)
    (hgd : o.guard = none) (ho : o.op = .store 32 x y) (hx : a.eval x = .pointer (some ⟨g, 0, none⟩)) (hy : a.eval y = .agg (bc l))
    (h : ∀ W', PAt W' g l → (∀ B A, Below B A w → B ≤ g → Below B A W') → (∀ k, k ≠ g → W'.heap[k]? = w.heap[k]?) → wpList Tryz.prog ops Q rest (a.put o.dst undef) W') : wpList Tryz.prog ops Q (o :: rest) a w :=
  wpList_store_row hgd 32 x y ho g (bc l) hx hy 32 (bc l0) hg (page_size hl) (by rw [bc_size, bc_size, hl, hl0]) (bc_one l) (h _ hg.row (fun B A hb hB => below_setRow hb hB _) (fun k hk => heap_setRow _ _ _ _ hk))
/-- A page comes back out of a result's own block. -/
theorem ret_page {W : World} {g j : Nat} {l : List UInt8} {fn : Func} (hres : fn.results = #[.cell j 32]) {tmps : Array Value} (ht : tmps.getD j undef = .pointer (some ⟨g, 0, none⟩)) (hl : l.length = 256)
    (hg : PAt W g l) {R : Ending → World → Prop} (h : R (.returned (.agg (bc l))) W) : bodyPost Tryz.prog fn R Exit.ret { tmps := tmps, defers := [] } W :=
  bodyPost_ret (v := .agg (bc l)) (results_cell_row hres _ _ g 32 _ (0, 0) _ ht hg page_arr rfl (page_size hl)) rfl h
theorem ret_page2 {W : World} {g j i : Nat} {l : List UInt8} {fn : Func} (hres : fn.results = #[.cell j 32, .tmp i]) {tmps : Array Value} (ht : tmps.getD j undef = .pointer (some ⟨g, 0, none⟩)) {u : Value} (hu : tmps.getD i undef = u) (hl : l.length = 256)
    (hg : PAt W g l) {R : Ending → World → Prop} (h : R (.returned (.tuple #[.agg (bc l), u])) W) : bodyPost Tryz.prog fn R Exit.ret { tmps := tmps, defers := [] } W := by
  have hld := run_loadVar_row (P := Tryz.prog) W g 32 32 (bc l) (0, 0) _ hg page_arr rfl (page_size hl)
  refine bodyPost_ret (v := .tuple #[.agg (bc l), u]) ?_ rfl h
  have ht' : tmps[j]?.getD undef = .pointer (some ⟨g, 0, none⟩) := by simpa using ht
  have hu' : tmps[i]?.getD undef = u := by simpa using hu
  simp [results, hres, ht', hu', asAddr, hld]

/-- A page with a link. -/
def setL (l : List UInt8) (L : Nat) : List UInt8 := (((l.set 5 (UInt8.ofNat L)).set 4 (UInt8.ofNat (L / 256))).set 3 (UInt8.ofNat (L / 65536))).set 2 (UInt8.ofNat (L / 16777216))
theorem setL_length (l : List UInt8) (L : Nat) : (setL l L).length = l.length := by simp [setL]

theorem bc_setL (l : List UInt8) (L : Nat) : ((((bc l).setIfInBounds 5 (Value.int IntKind.u8 ((L : Int) % 256))).setIfInBounds 4 (Value.int IntKind.u8 ((L : Int) / 256 % 256))).setIfInBounds 3 (Value.int IntKind.u8 ((L : Int) / 256 / 256 % 256))).setIfInBounds 2 (Value.int IntKind.u8 ((L : Int) / 256 / 256 / 256 % 256)) = bc (setL l L) := by
  have h : ∀ m : Nat, ((UInt8.ofNat m).toNat : Int) = (m : Int) % 256 := fun m => by simp
  rw [show (L : Int) / 256 / 256 / 256 % 256 = ((UInt8.ofNat (L / 16777216)).toNat : Int) by rw [h]; omega, show (L : Int) / 256 / 256 % 256 = ((UInt8.ofNat (L / 65536)).toNat : Int) by rw [h]; omega,
    show (L : Int) / 256 % 256 = ((UInt8.ofNat (L / 256)).toNat : Int) by rw [h]; omega, show (L : Int) % 256 = ((UInt8.ofNat L).toNat : Int) by rw [h]]
  rw [bc_set, bc_set, bc_set, bc_set]
  rfl

set_option maxRecDepth 20000 in
set_option maxHeartbeats 1000000 in
theorem linked_walk (l : List UInt8) (hl : l.length = 256) (L : Nat) (hL : L < 4294967296) (w : World) :
    Calls Tryz.prog 213 #[.agg (bc l), .int .u32 (L : Int)] w fun e w' => e = .returned (.agg (bc (setL l L))) ∧ Below w.heap.size w w' := by
  have HS : Hid ((setL l L).length = 256) := (setL_length l L).trans hl
  have HP : Hid (PAt ((w.alloc (.cells (bc (setL l L)) 32)).alloc (.cells (bc zs) 32)) w.heap.size (setL l L)) := (PAt.new w _).later (new_below _ _ rfl)
  have HZ : Hid (PAt ((w.alloc (.cells (bc (setL l L)) 32)).alloc (.cells (bc zs) 32)) (w.heap.size + 1) zs) := by
    have := PAt.new (w.alloc (.cells (bc (setL l L)) 32)) zs
    rwa [show (w.alloc (.cells (bc (setL l L)) 32)).heap.size = w.heap.size + 1 by simp] at this
  have c2 := bc_get (l := l) (k := 2) (by omega)
  have c3 := bc_get (l := l) (k := 3) (by omega)
  have c4 := bc_get (l := l) (k := 4) (by omega)
  have c5 := bc_get (l := l) (k := 5) (by omega)
  have HB : Hid (Below w.heap.size w ((w.alloc (.cells (bc (setL l L)) 32)).alloc (.cells (bc zs) 32))) := below_trans (new_below w _ rfl) (new_below _ _ rfl)
  have hz := zero_page.1
  clear hl hL
  go_enter Tryz.func213, Tryz.ntmps213
  go_wp2
  refine wp_loop_rounds 5 ?_
  rw [rounds_succ]
  go_wp2
  rw [rounds_succ]
  go_wp2
  rw [rounds_succ]
  go_wp2
  rw [rounds_succ]
  go_wp2
  rw [rounds_succ, bc_setL]
  go_wp2_with (first
    | (refine wp_loadP HS.out HP.out _ (by rfl) (by rfl) (by rfl) ?_)
    | (refine wp_storeP HS.out zs_length HZ.out _ _ (by rfl) (by rfl) (by rfl) (by rfl) ?_; intro W1 hp hb hk; have HP1 := hide hp; have HB1 := hide (hb _ _ HB.out (by omega)); clear hp hb hk)
    | (exact ret_page Tryz.results213 rfl HS.out HP1.out ⟨rfl, HB1.out⟩))
end Go.Proofs.YtenfjbcigkolaaaGreat
