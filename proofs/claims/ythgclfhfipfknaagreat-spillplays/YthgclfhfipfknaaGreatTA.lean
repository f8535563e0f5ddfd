/- A page's bytes in memory; where a cell's bytes begin. -/
/- A page's link: read, and laid. -/
/- A page with another link. -/
/- Blocks in memory; what a call leaves alone; guards; whole blocks loaded, stored and handed back. -/
import Derived.Test.YthgclfhfipfknaaGreatProg
import Derived.WalkKit
import Derived.ProofKit
import Derived.OpenShut
import Derived.Laws.StructEq
import Derived.Handy
import Derived.LoopN
import Derived.Deep.RegionHeld3
import Derived.Deep.Cut
import Derived.Deep.WholeRow
import Derived.Laws.CopyRow
import Derived.Laws.BitsAllLaws
import Derived.Deep.MidRow
import Derived.Maps.OwnSet
namespace Go.Proofs.YthgclfhfipfknaaGreat
open Go.ChangeShapes Go.WideShapes Go.ChangeAt Go.RowKit
set_option linter.unusedVariables false

theorem cell_later {w w' : World} (b : Below w.heap.size w w') {a : Addr} {v : Value} (h : w.cell? a = some v) : w'.cell? a = some v := by
  refine (b.cell ?_).trans h
  refine Nat.lt_of_not_le fun hn => ?_
  have : w.heap[a.block]? = none := by simp; exact hn
  rw [World.cell?_of_block (w := World.mk #[] w.tape w.drawn w.os w.output) (w' := w) (by rw [this]; simp)] at h
  simp [World.cell?] at h
theorem below_trans {w w1 w2 : World} (h : Below w.heap.size w w1) (k : Below w1.heap.size w1 w2) : Below w.heap.size w w2 :=
  h.trans (k.mono h.size)
theorem new_below (w : World) (o : Obj) {W : World} (hW : w.alloc o = W) : Below w.heap.size w W := by
  subst hW; exact (Below.refl _ _).alloc (Nat.le_refl _) _
theorem hide {p : Prop} (h : p) : Hid p := h

/-- Bytes as cells. -/
def bcl (l : List UInt8) : List Value := l.map (fun b => .int .u8 (b.toNat : Int))
def bc (l : List UInt8) : Array Value := (bcl l).toArray
/-- The byte at a place. -/
def byt (l : List UInt8) (k : Nat) : Nat := (l[k]?.getD 0).toNat
theorem byt_lt (l : List UInt8) (k : Nat) : byt l k < 256 := (l[k]?.getD 0).toNat_lt
theorem bc_size (l : List UInt8) : (bc l).size = l.length := by simp [bc, bcl]
theorem bc_get {l : List UInt8} {k : Nat} (h : k < l.length) : (bc l)[k]? = some (.int .u8 (byt l k : Int)) := by
  simp [bc, bcl, byt, h]
theorem bc_one (l : List UInt8) : (bc l).all (·.oneCell') = true := by
  simp [bc, bcl, List.all_map]
  intro x _
  rfl
theorem page_info : (Tryz.prog.info? 59).map (·.size) = some 256 := by kernel_rfl
theorem page_size {l : List UInt8} (h : l.length = 256) : (Tryz.prog.info? 59).map (·.size) = some (bc l).size := by rw [bc_size, h]; exact page_info

/-- A page's cells in memory. -/
abbrev PAt (w : World) (g : Nat) (l : List UInt8) : Prop := w.heap[g]? = some (.cells (bc l) 59 (0, 0))
theorem PAt.cell {w : World} {g : Nat} {l : List UInt8} (h : PAt w g l) {k : Nat} (hk : k < l.length) : w.cell? ⟨g, k, none⟩ = some (.int .u8 (byt l k : Int)) := by
  rw [cell_of_row w g k _ _ _ h, bc_get hk]
theorem PAt.later {w w' : World} {g : Nat} {l : List UInt8} (h : PAt w g l) (hb : Below w.heap.size w w') : PAt w' g l := by
  show w'.heap[g]? = _
  rw [hb.block g (Array.getElem?_eq_some_iff.1 h).1]; exact h
theorem PAt.new (w : World) (l : List UInt8) : PAt (w.alloc (.cells (bc l) 59)) w.heap.size l := heap_alloc_new w _

/-- The sum of the first lengths. -/
def sm (l : List UInt8) : Nat → Nat
  | 0 => 0
  | i + 1 => sm l i + byt l (6 + i)
theorem sm_le (l : List UInt8) : ∀ i, sm l i ≤ i * 255
  | 0 => Nat.le_refl _
  | i + 1 => by
    have := sm_le l i
    have := byt_lt l (6 + i)
    simp only [sm]
    omega

theorem page_arr : Tryz.prog.underlying 59 = some (.array 256 5) := by kernel_rfl
theorem page_arrl : Tryz.prog.arrayLen 59 = 256 := by simp [Program.arrayLen]
theorem page_elem : Tryz.prog.elem 59 = 5 := by simp [Program.elem]
theorem size5 (W : World) : (sizeOf 5).run Tryz.prog W = .ok 1 W := by
  have h : (Tryz.prog.info? 5).map (·.size) = some 1 := by kernel_rfl
  cases hq : Tryz.prog.info? 5 with
  | none => simp [hq] at h
  | some i => simp [sizeOf, typeInfo, hq] at h ⊢; exact h
/-- A piece of a page. -/
theorem cut_page (W : World) (g : Nat) {x y : Int} (a n : Nat) (hx : x = (a : Int)) (hy : y = (a : Int) + (n : Int)) (h : a + n ≤ 256) (ha : a < 256) :
    (Instr.sliceAt 59 (.pointer (some ⟨g, 0, none⟩)) (some (.int .i64 x)) (some (.int .i64 y)) none).run Tryz.prog W = .ok (.slice (some ⟨g, a, none⟩) n (256 - a)) W := by
  subst hx hy
  rw [run_sliceAt_array_lh W 59 ⟨g, 0, none⟩ (by rw [page_arrl, page_elem]; exact page_arr) .i64 .i64 _ _ (by omega) (by omega) (by rw [page_arrl]; omega), page_elem, size5, page_arrl]
  simp only [Result.andThen, slicedAt]
  rw [if_neg (by omega)]
  have e : (⟨g, 0, none⟩ : Addr).add ((a : Int).toNat * 1) = ⟨g, a, none⟩ := by unfold Addr.add; split <;> simp_all
  rw [e]
  congr 2
  omega
theorem cut_end (W : World) (g : Nat) {x y : Int} (a : Nat) (hx : x = (a : Int)) (ha : a < 256) :
    (Instr.sliceAt 59 (.pointer (some ⟨g, 0, none⟩)) (some (.int .i64 x)) none none).run Tryz.prog W = .ok (.slice (some ⟨g, a, none⟩) (256 - a) (256 - a)) W := by
  subst hx
  rw [run_sliceAt_array_l W 59 ⟨g, 0, none⟩ (by rw [page_arrl, page_elem]; exact page_arr) .i64 _ (by omega) (by rw [page_arrl]; omega), page_elem, size5, page_arrl]
  simp only [Result.andThen, slicedAt]
  rw [if_neg (by omega)]
  have e : (⟨g, 0, none⟩ : Addr).add ((a : Int).toNat * 1) = ⟨g, a, none⟩ := by unfold Addr.add; split <;> simp_all
  rw [e]
  rfl

set_option maxRecDepth 20000 in
set_option maxHeartbeats 1000000 in
theorem start_walk (l : List UInt8) (hl : l.length = 256) (i : Nat) (hi : i ≤ 250) (w : World) :
    Calls Tryz.prog 225 #[.agg (bc l), .int .i64 i] w fun e w' => e = .returned (.int .i64 ((6 + byt l 1 + sm l i : Nat) : Int)) ∧ Below w.heap.size w w' := by
  have HP := hide (PAt.new w l)
  have c1 : (w.alloc (.cells (bc l) 59)).cell? ⟨w.heap.size, 1, none⟩ = some (.int .u8 (byt l 1 : Int)) := HP.out.cell (by omega)
  have HB := hide (new_below w (.cells (bc l) 59) rfl)
  have HL := hide hl
  have b1 := byt_lt l 1
  have e1 : IntKind.i64.wrap (byt l 1 : Int) = (byt l 1 : Int) := by rw [IntKind.wrap_i64]; omega
  have e2 : IntKind.i64.wrap (6 + (byt l 1 : Int)) = 6 + (byt l 1 : Int) := by rw [IntKind.wrap_i64]; omega
  have e3 : IntKind.i64.wrap (6 + (i : Int)) = 6 + (i : Int) := by rw [IntKind.wrap_i64]; omega
  have hs := cut_page (w.alloc (.cells (bc l) 59)) w.heap.size (x := 6) (y := 6 + (i : Int)) 6 i rfl rfl (by omega) (by omega)
  have HI := hide hi
  clear hl b1 hi
  go_enter Tryz.func225, Tryz.ntmps225
  go_wp2
  go_loopw [16, 5] (fun iv av wr => ∃ j : Nat, j ≤ i ∧ iv = .int .i64 (j : Int) ∧ av = .int .i64 ((6 + byt l 1 + sm l j : Nat) : Int) ∧ wr = w.alloc (.cells (bc l) 59)) (fun iv _ _ => i - (intOf iv).toNat)
  case atStart => exact ⟨0, Nat.zero_le _, rfl, rfl, rfl⟩
  case round =>
    obtain ⟨j, hj, rfl, rfl, rfl⟩ := hrel
    by_cases hlt : j < i
    · have l1 : (j : Int) < (i : Int) := by omega
      have l0 : (0 : Int) ≤ (j : Int) := by omega
      have hi := HI.out
      have hw1 : IntKind.i64.wrap ((j : Int) + 1) = (j : Int) + 1 := by rw [IntKind.wrap_i64]; omega
      have cj := HP.out.cell (k := 6 + j) (by rw [HL.out]; omega)
      have bj := byt_lt l (6 + j)
      have bs := sm_le l j
      have b1 := byt_lt l 1
      have e4 : IntKind.i64.wrap (byt l (6 + j) : Int) = (byt l (6 + j) : Int) := by rw [IntKind.wrap_i64]; omega
      have e5 : IntKind.i64.wrap (6 + (byt l 1 : Int) + (sm l j : Int) + (byt l (6 + j) : Int)) = 6 + (byt l 1 : Int) + (sm l j : Int) + (byt l (6 + j) : Int) := by rw [IntKind.wrap_i64]; omega
      clear bj bs b1 hi
      go_wp2
      refine ⟨⟨j + 1, hlt, rfl, ?_, by trivial⟩, ?_⟩
      · simp only [sm]; exact congrArg (Value.int IntKind.i64) (by omega)
      · simp only [intOf]; omega
    · have l1 : ¬ (j : Int) < (i : Int) := by omega
      obtain rfl : j = i := by omega
      go_wp2
      go_ret
      exact ⟨rfl, HB.out⟩
end Go.Proofs.YthgclfhfipfknaaGreat

namespace Go.Proofs.YthgclfhfipfknaaGreat
open Go.ChangeShapes Go.WideShapes Go.ChangeAt Go.RowKit
set_option linter.unusedVariables false

/-- A page's link. -/
def lnk (l : List UInt8) : Nat := ((byt l 2 * 256 + byt l 3) * 256 + byt l 4) * 256 + byt l 5
theorem lnk_lt (l : List UInt8) : lnk l < 4294967296 := by
  have := byt_lt l 2; have := byt_lt l 3; have := byt_lt l 4; have := byt_lt l 5
  unfold lnk; omega

def lkN (l : List UInt8) : Nat → Nat
  | 0 => 0
  | j + 1 => lkN l j * 256 + byt l (2 + j)
theorem lkN_lt (l : List UInt8) : ∀ j, lkN l j < 256 ^ j
  | 0 => by simp [lkN]
  | j + 1 => by
    have h := lkN_lt l j
    have hb := byt_lt l (2 + j)
    simp only [lkN, Nat.pow_succ]
    omega
theorem lk_lnk (l : List UInt8) : lkN l 4 = lnk l := by simp [lkN, lnk]

theorem link_step (l : List UInt8) (j : Nat) (h : j < 4) : bits BinOp.or IntKind.u32 ((lkN l j : Int) * 256 % 4294967296) ((byt l (2 + j) : Int) % 4294967296) = (lkN l (j + 1) : Int) := by
  have hb := byt_lt l (2 + j)
  have hj := lkN_lt l j
  have hp : lkN l j < 16777216 := by
    have : 256 ^ j ≤ 256 ^ 3 := Nat.pow_le_pow_right (by omega) (by omega)
    omega
  have e1 : (lkN l j : Int) * 256 % 4294967296 = ((lkN l j * 256 : Nat) : Int) := by omega
  have e2 : (byt l (2 + j) : Int) % 4294967296 = (byt l (2 + j) : Int) := by omega
  rw [e1, e2, u32_or_nat _ _ (by omega) (by omega)]
  have := Nat.two_pow_add_eq_or_of_lt (i := 8) (b := byt l (2 + j)) (by omega) (lkN l j)
  simp only [lkN]
  have e3 : lkN l j * 256 = 2 ^ 8 * lkN l j := by omega
  rw [e3, ← this]

set_option maxRecDepth 20000 in
set_option maxHeartbeats 1000000 in
theorem linkOf_walk (l : List UInt8) (hl : l.length = 256) (w : World) :
    Calls Tryz.prog 189 #[.agg (bc l)] w fun e w' => e = .returned (.int .u32 (lnk l : Int)) ∧ Below w.heap.size w w' := by
  have HP := hide (PAt.new w l)
  have HB := hide (new_below w (.cells (bc l) 59) rfl)
  have HL := hide hl
  have hs := cut_page (w.alloc (.cells (bc l) 59)) w.heap.size (x := 2) (y := 6) 2 4 rfl rfl (by omega) (by omega)
  clear hl
  go_enter Tryz.func189, Tryz.ntmps189
  go_wp2
  go_loopw [8, 3] (fun iv av wr => ∃ j : Nat, j ≤ 4 ∧ iv = .int .i64 (j : Int) ∧ av = .int .u32 ((lkN l j : Nat) : Int) ∧ wr = w.alloc (.cells (bc l) 59)) (fun iv _ _ => 4 - (intOf iv).toNat)
  case atStart => exact ⟨0, Nat.zero_le _, rfl, rfl, rfl⟩
  case round =>
    obtain ⟨j, hj, rfl, rfl, rfl⟩ := hrel
    by_cases hlt : j < 4
    · have l1 : (j : Int) < 4 := by omega
      have l0 : (0 : Int) ≤ (j : Int) := by omega
      have hw1 : IntKind.i64.wrap ((j : Int) + 1) = (j : Int) + 1 := by rw [IntKind.wrap_i64]; omega
      have cj := HP.out.cell (k := 2 + j) (by rw [HL.out]; omega)
      go_wp2
      refine ⟨⟨j + 1, hlt, rfl, ?_, by trivial⟩, ?_⟩
      · rw [link_step l j hlt]
      · simp only [intOf]; omega
    · have l1 : ¬ (j : Int) < 4 := by omega
      obtain rfl : j = 4 := by omega
      go_wp2
      go_ret
      rw [lk_lnk]
      exact ⟨rfl, HB.out⟩
end Go.Proofs.YthgclfhfipfknaaGreat

namespace Go.Proofs.YthgclfhfipfknaaGreat
open Go.ChangeShapes Go.WideShapes Go.ChangeAt Go.RowKit
set_option linter.unusedVariables false

/-- No bytes but zeros. -/
def zs : List UInt8 := List.replicate 256 0
theorem zs_length : zs.length = 256 := List.length_replicate ..
theorem zero_page : (∀ w, (zeroValue 59).run Tryz.prog w = .ok (.agg (bc zs)) w) ∧ (Tryz.prog.info? 59).map (·.size) = some 256 :=
  zero_of_info (by kernel_rfl)

theorem set_block {W : World} {g : Nat} {cs : Array Value} {t : TypeId} (h : W.heap[g]? = some (.cells cs t (0, 0))) (k : Nat) (v : Value) : (W.setCell ⟨g, k, none⟩ v).heap[g]? = some (.cells (cs.setIfInBounds k v) t (0, 0)) := by
  rw [setCell_eq_setRow W g k cs t (0, 0) v h]
  exact setRow_heap W g cs _ t _ h
theorem bc_set (l : List UInt8) (k : Nat) (b : UInt8) : (bc l).setIfInBounds k (.int .u8 (b.toNat : Int)) = bc (l.set k b) := by
  simp [bc, bcl, List.map_set]
theorem PAt.set {W : World} {g : Nat} {l : List UInt8} (h : PAt W g l) (k : Nat) (b : UInt8) {x : Int} (hx : x = (b.toNat : Int)) : PAt (W.setCell ⟨g, k, none⟩ (.int .u8 x)) g (l.set k b) := by
  subst hx
  have := set_block h k (.int .u8 (b.toNat : Int))
  rwa [bc_set] at this

theorem PAt.frozen {w : World} {g : Nat} {l : List UInt8} (h : PAt w g l) (k : Nat) : w.frozen? ⟨g, k, none⟩ = false := by simp [World.frozen?, h]

/-- A page, loaded whole. -/
theorem wp_loadP {ops : Array Oper} {rest : List Oper} {o : Oper} {a : Act} {Q : Exit → Act → World → Prop} {w : World} {g : Nat} {l : List UInt8} (hl : l.length = 256) (hg : PAt w g l) (x : Operand)
    (hgd : o.guard = none) (ho : o.op = .load 59 x) (hx : a.eval x = .pointer (some ⟨g, 0, none⟩)) (h : wpList Tryz.prog ops Q rest (a.put o.dst (.agg (bc l))) w) : wpList Tryz.prog ops Q (o :: rest) a w :=
  wpList_load_row hgd 59 x ho g hx 59 (bc l) (0, 0) _ hg page_arr rfl (page_size hl) h
theorem PAt.row {W : World} {g : Nat} {l l0 : List UInt8} (h : PAt W g l0) : PAt (W.setRow g (bc l)) g l := setRow_heap W g _ _ _ _ h
theorem heap_setRow (w : World) (g : Nat) (cs : Array Value) (k : Nat) (h : k ≠ g) : (w.setRow g cs).heap[k]? = w.heap[k]? := by
  simp only [World.setRow]
  rw [Array.getElem?_modify, if_neg (Ne.symm h)]
theorem below_setRow {B : Nat} {a w : World} (h : Below B a w) {g : Nat} (hp : B ≤ g) (cs : Array Value) : Below B a (w.setRow g cs) :=
  h.trans ⟨rfl, rfl, rfl, by simp [World.setRow], fun k hk => heap_setRow _ _ _ _ (by omega)⟩
/-- A page, stored whole. -/
theorem wp_storeP {ops : Array Oper} {rest : List Oper} {o : Oper} {a : Act} {Q : Exit → Act → World → Prop} {w : World} {g : Nat} {l l0 : List UInt8} (hl : l.length = 256) (hl0 : l0.length = 256) (hg : PAt w g l0) (x y : Operand)
    (hgd : o.guard = none) (ho : o.op = .store 59 x y) (hx : a.eval x = .pointer (some ⟨g, 0, none⟩)) (hy : a.eval y = .agg (bc l))
    (h : ∀ W', PAt W' g l → (∀ B A, Below B A w → B ≤ g → Below B A W') → (∀ k, k ≠ g → W'.heap[k]? = w.heap[k]?) → wpList Tryz.prog ops Q rest (a.put o.dst undef) W') : wpList Tryz.prog ops Q (o :: rest) a w :=
  wpList_store_row hgd 59 x y ho g (bc l) hx hy 59 (bc l0) hg (page_size hl) (by rw [bc_size, bc_size, hl, hl0]) (bc_one l) (h _ hg.row (fun B A hb hB => below_setRow hb hB _) (fun k hk => heap_setRow _ _ _ _ hk))
/-- A page comes back out of a result's own block. -/
theorem ret_page {W : World} {g j : Nat} {l : List UInt8} {fn : Func} (hres : fn.results = #[.cell j 59]) {tmps : Array Value} (ht : tmps.getD j undef = .pointer (some ⟨g, 0, none⟩)) (hl : l.length = 256)
    (hg : PAt W g l) {R : Ending → World → Prop} (h : R (.returned (.agg (bc l))) W) : bodyPost Tryz.prog fn R Exit.ret { tmps := tmps, defers := [] } W :=
  bodyPost_ret (v := .agg (bc l)) (results_cell_row hres _ _ g 59 _ (0, 0) _ ht hg page_arr rfl (page_size hl)) rfl h
theorem ret_page2 {W : World} {g j i : Nat} {l : List UInt8} {fn : Func} (hres : fn.results = #[.cell j 59, .tmp i]) {tmps : Array Value} (ht : tmps.getD j undef = .pointer (some ⟨g, 0, none⟩)) {u : Value} (hu : tmps.getD i undef = u) (hl : l.length = 256)
    (hg : PAt W g l) {R : Ending → World → Prop} (h : R (.returned (.tuple #[.agg (bc l), u])) W) : bodyPost Tryz.prog fn R Exit.ret { tmps := tmps, defers := [] } W := by
  have hld := run_loadVar_row (P := Tryz.prog) W g 59 59 (bc l) (0, 0) _ hg page_arr rfl (page_size hl)
  refine bodyPost_ret (v := .tuple #[.agg (bc l), u]) ?_ rfl h
  have ht' : tmps[j]?.getD undef = .pointer (some ⟨g, 0, none⟩) := by simpa using ht
  have hu' : tmps[i]?.getD undef = u := by simpa using hu
  simp [results, hres, ht', hu', asAddr, hld]

/-- A page with a link. -/
def setL (l : List UInt8) (L : Nat) : List UInt8 := (((l.set 5 (UInt8.ofNat L)).set 4 (UInt8.ofNat (L / 256))).set 3 (UInt8.ofNat (L / 65536))).set 2 (UInt8.ofNat (L / 16777216))
theorem setL_length (l : List UInt8) (L : Nat) : (setL l L).length = l.length := by simp [setL]

theorem bc_setL (l : List UInt8) (L : Nat) : ((((bc l).setIfInBounds 5 (Value.int IntKind.u8 ((L : Int) % 256))).setIfInBounds 4 (Value.int IntKind.u8 ((L : Int) / 256 % 256))).setIfInBounds 3 (Value.int IntKind.u8 ((L : Int) / 256 / 256 % 256))).setIfInBounds 2 (Value.int IntKind.u8 ((L : Int) / 256 / 256 / 256 % 256)) = bc (setL l L) := by
  have h : ∀ m : Nat, ((UInt8.ofNat m).toNat : Int) = (m : Int) % 256 := fun m => by simp
  rw [show (L : Int) / 256 / 256 / 256 % 256 = ((UInt8.ofNat (L / 16777216)).toNat : Int) by rw [h]; omega, show (L : Int) / 256 / 256 % 256 = ((UInt8.ofNat (L / 65536)).toNat : Int) by rw [h]; omega,
    show (L : Int) / 256 % 256 = ((UInt8.ofNat (L / 256)).toNat : Int) by rw [h]; omega, show (L : Int) % 256 = ((UInt8.ofNat L).toNat : Int) by rw [h]]
  rw [bc_set, bc_set, bc_set, bc_set]
  rfl

set_option maxRecDepth 20000 in
set_option maxHeartbeats 1000000 in
theorem linked_walk (l : List UInt8) (hl : l.length = 256) (L : Nat) (hL : L < 4294967296) (w : World) :
    Calls Tryz.prog 294 #[.agg (bc l), .int .u32 (L : Int)] w fun e w' => e = .returned (.agg (bc (setL l L))) ∧ Below w.heap.size w w' := by
  have HS : Hid ((setL l L).length = 256) := (setL_length l L).trans hl
  have HP : Hid (PAt ((w.alloc (.cells (bc (setL l L)) 59)).alloc (.cells (bc zs) 59)) w.heap.size (setL l L)) := (PAt.new w _).later (new_below _ _ rfl)
  have HZ : Hid (PAt ((w.alloc (.cells (bc (setL l L)) 59)).alloc (.cells (bc zs) 59)) (w.heap.size + 1) zs) := by
    have := PAt.new (w.alloc (.cells (bc (setL l L)) 59)) zs
    rwa [show (w.alloc (.cells (bc (setL l L)) 59)).heap.size = w.heap.size + 1 by simp] at this
  have c2 := bc_get (l := l) (k := 2) (by omega)
  have c3 := bc_get (l := l) (k := 3) (by omega)
  have c4 := bc_get (l := l) (k := 4) (by omega)
  have c5 := bc_get (l := l) (k := 5) (by omega)
  have HB : Hid (Below w.heap.size w ((w.alloc (.cells (bc (setL l L)) 59)).alloc (.cells (bc zs) 59))) := below_trans (new_below w _ rfl) (new_below _ _ rfl)
  have hz := zero_page.1
  clear hl hL
  go_enter Tryz.func294, Tryz.ntmps294
  go_wp2
  refine wp_loop_rounds 5 ?_
  rw [rounds_succ]
  go_wp2
  rw [rounds_succ]
  go_wp2
  rw [rounds_succ]
  go_wp2
  rw [rounds_succ]
  go_wp2
  rw [rounds_succ, bc_setL]
  go_wp2_with (first
    | (refine wp_loadP HS.out HP.out _ (by rfl) (by rfl) (by rfl) ?_)
    | (refine wp_storeP HS.out zs_length HZ.out _ _ (by rfl) (by rfl) (by rfl) (by rfl) ?_; intro W1 hp hb hk; have HP1 := hide hp; have HB1 := hide (hb _ _ HB.out (by omega)); clear hp hb hk)
    | (exact ret_page Tryz.results294 rfl HS.out HP1.out ⟨rfl, HB1.out⟩))
end Go.Proofs.YthgclfhfipfknaaGreat

namespace Go.Proofs.YthgclfhfipfknaaGreat
open Go.ChangeShapes Go.WideShapes Go.ChangeAt Go.RowKit
set_option linter.unusedVariables false

/-- Of what was there nothing has turned but the blocks of S. -/
structure Only (S : List Nat) (w w' : World) : Prop where
  os : w'.os = w.os
  tape : w'.tape = w.tape
  output : w'.output = w.output
  size : w.heap.size ≤ w'.heap.size
  block : ∀ k, k < w.heap.size → k ∉ S → w'.heap[k]? = w.heap[k]?
theorem Only.refl (S : List Nat) (w : World) : Only S w w := ⟨rfl, rfl, rfl, Nat.le_refl _, fun _ _ _ => rfl⟩
theorem Only.trans {S : List Nat} {a b c : World} (h : Only S a b) (k : Only S b c) : Only S a c :=
  ⟨k.os.trans h.os, k.tape.trans h.tape, k.output.trans h.output, Nat.le_trans h.size k.size, fun i hi hn => (k.block i (Nat.lt_of_lt_of_le hi h.size) hn).trans (h.block i hi hn)⟩
theorem Only.andThen {S T : List Nat} {a b c : World} (h : Only S a b) (k : Only T b c) (hT : ∀ j ∈ T, j ∈ S ∨ a.heap.size ≤ j) : Only S a c :=
  ⟨k.os.trans h.os, k.tape.trans h.tape, k.output.trans h.output, Nat.le_trans h.size k.size, fun i hi hn =>
    (k.block i (Nat.lt_of_lt_of_le hi h.size) (fun hm => by rcases hT i hm with h1 | h1; exact hn h1; omega)).trans (h.block i hi hn)⟩
theorem Only.mono {S T : List Nat} {a b : World} (h : Only S a b) (hs : ∀ j ∈ S, j ∈ T) : Only T a b :=
  ⟨h.os, h.tape, h.output, h.size, fun i hi hn => h.block i hi (fun hm => hn (hs i hm))⟩
theorem Only.below {S : List Nat} {a b : World} {B : Nat} (h : Only S a b) (hB : B ≤ a.heap.size) (hs : ∀ j ∈ S, B ≤ j) : Below B a b :=
  ⟨h.os, h.tape, h.output, h.size, fun i hi => h.block i (by omega) (fun hm => by have := hs i hm; omega)⟩
theorem Only.of_below {w w' : World} {S : List Nat} (h : Below w.heap.size w w') : Only S w w' := ⟨h.os, h.tape, h.output, h.size, fun k hk _ => h.block k hk⟩
theorem Only.then_below {S : List Nat} {a b c : World} (h : Only S a b) (k : Below b.heap.size b c) : Only S a c := h.trans (Only.of_below k)
theorem Only.after_below {S : List Nat} {a b c : World} (h : Below a.heap.size a b) (k : Only S b c) : Only S a c := (Only.of_below h).trans k
theorem Only.of_grown {w w' : World} {row : Option Nat} (h : w.grownBy w' row) : Only row.toList w w' :=
  ⟨h.os, h.tape, h.output, h.size, fun k hk hn => h.block k hk (fun e => hn (by rw [← e]; simp))⟩
theorem Only.drew (w : World) (S : List Nat) : Only S w w.drew := ⟨rfl, rfl, rfl, Nat.le_refl _, fun _ _ _ => rfl⟩
theorem Only.alloc (w : World) (o : Obj) (S : List Nat) : Only S w (w.alloc o) :=
  ⟨rfl, rfl, rfl, by simp, fun k hk _ => Below.heap_alloc _ _ _ hk⟩
theorem Only.setCell (w : World) (a : Addr) (v : Value) : Only [a.block] w (w.setCell a v) :=
  ⟨rfl, rfl, rfl, by simp [World.setCell], fun k hk hn => Below.heap_setCell _ _ _ _ (by simpa using hn)⟩
theorem Only.blk {S : List Nat} {w w' : World} (h : Only S w w') {b : Nat} {o : Obj} (hb : w.heap[b]? = some o) (hn : b ∉ S) : w'.heap[b]? = some o := by
  rw [h.block b (Array.getElem?_eq_some_iff.1 hb).1 hn]; exact hb
theorem below_drew (w : World) : Below w.heap.size w w.drew := ⟨rfl, rfl, rfl, Nat.le_refl _, fun _ _ => rfl⟩
theorem below_refl (w : World) : Below w.heap.size w w := Below.refl _ _
theorem below_alloc (w : World) (o : Obj) : Below w.heap.size w (w.alloc o) := new_below w o rfl
theorem below_of_grown {w w' : World} (h : w.grownBy w' none) : Below w.heap.size w w' := ⟨h.os, h.tape, h.output, h.size, fun k hk => h.block k hk (by simp)⟩
/-- A block that came behind w is written. -/
theorem below_only {w w1 w2 : World} {S : List Nat} (h : Below w.heap.size w w1) (ho : Only S w1 w2) (hg : ∀ g ∈ S, w.heap.size ≤ g) : Below w.heap.size w w2 :=
  ⟨ho.os.trans h.os, ho.tape.trans h.tape, ho.output.trans h.output, Nat.le_trans h.size ho.size, fun k hk => (ho.block k (Nat.lt_of_lt_of_le hk h.size) (fun hm => by have := hg k hm; omega)).trans (h.block k hk)⟩
theorem below_only1 {w w1 w2 : World} {g : Nat} (h : Below w.heap.size w w1) (ho : Only [g] w1 w2) (hg : w.heap.size ≤ g) : Below w.heap.size w w2 :=
  below_only h ho (fun k hk => by rw [List.mem_singleton.1 hk]; exact hg)

/-- A block of plain cells. -/
abbrev Blk (w : World) (b : Nat) (c : Array Value) (t : TypeId) : Prop := w.heap[b]? = some (.cells c t (0, 0))
theorem Blk.cell {w : World} {b : Nat} {c : Array Value} {t : TypeId} (h : Blk w b c t) (k : Nat) : w.cell? ⟨b, k, none⟩ = c[k]? := cell_of_row w b k _ _ _ h
theorem Blk.set {w : World} {b : Nat} {c : Array Value} {t : TypeId} (h : Blk w b c t) (o : Nat) (v : Value) : Blk (w.setCell ⟨b, o, none⟩ v) b (c.setIfInBounds o v) t := by
  simp [Blk, World.setCell, Array.getElem?_modify, h]
theorem Blk.lt {w : World} {b : Nat} {c : Array Value} {t : TypeId} (h : Blk w b c t) : b < w.heap.size := (Array.getElem?_eq_some_iff.1 h).1
theorem Blk.new (w : World) (c : Array Value) (t : TypeId) : Blk (w.alloc (.cells c t)) w.heap.size c t := heap_alloc_new w _
theorem Blk.frozen {w : World} {b : Nat} {c : Array Value} {t : TypeId} (h : Blk w b c t) (k : Nat) : w.frozen? ⟨b, k, none⟩ = false := by simp [World.frozen?, h]
theorem Blk.only {w w' : World} {b : Nat} {c : Array Value} {t : TypeId} {S : List Nat} (h : Blk w b c t) (ho : Only S w w') (hn : b ∉ S) : Blk w' b c t := ho.blk h hn
theorem Blk.later {w w' : World} {b : Nat} {c : Array Value} {t : TypeId} (h : Blk w b c t) (hb : Below w.heap.size w w') : Blk w' b c t := (hb.block b h.lt).trans h
theorem Blk.drew {w : World} {b : Nat} {c : Array Value} {t : TypeId} (h : Blk w b c t) : Blk w.drew b c t := h
theorem Blk.range {w : World} {b : Nat} {C : Array Value} {t : TypeId} (hb : Blk w b C t) : w.rangeAt b 0 C.toList := fun j v hv => by
  rw [Nat.zero_add, hb.cell]; simpa using hv
theorem blk_ne {w : World} {b k : Nat} {c c2 : Array Value} {t t2 : TypeId} (h : Blk w b c t) (h2 : Blk w k c2 t2) (hn : t ≠ t2) : b ≠ k := by
  rintro rfl
  have := h.symm.trans h2
  injection this with this
  injection this with _ e _
  exact hn e
theorem blk_map {w : World} {b k : Nat} {c : Array Value} {t : TypeId} {es : Array MapEntry} {cl : Nat} (h : Blk w b c t) (h2 : w.heap[k]? = some (.map es cl)) : b ≠ k := by
  rintro rfl
  have := h.symm.trans h2
  injection this with this
  cases this

theorem wp_storeB {ops : Array Oper} {rest : List Oper} {o : Oper} {a : Act} {Q : Exit → Act → World → Prop} {w : World} {g : Nat} {t : TypeId} {c z : Array Value} (hi : (Tryz.prog.info? t).map (·.size) = some c.size) (hs : c.size = z.size) (h1 : c.all (·.oneCell') = true) (hg : Blk w g z t) (x y : Operand)
    (hgd : o.guard = none) (ho : o.op = .store t x y) (hx : a.eval x = .pointer (some ⟨g, 0, none⟩)) (hy : a.eval y = .agg c)
    (hk : ∀ W', Blk W' g c t → Only [g] w W' → wpList Tryz.prog ops Q rest (a.put o.dst undef) W') : wpList Tryz.prog ops Q (o :: rest) a w :=
  wpList_store_row hgd t x y ho g c hx hy t z hg hi hs.symm h1
    (hk _ (setRow_heap w g _ _ _ _ hg) ⟨rfl, rfl, rfl, by simp [World.setRow], fun k _ hk => heap_setRow w g _ k (fun e => hk (by simp [e]))⟩)
theorem wp_loadB {ops : Array Oper} {rest : List Oper} {o : Oper} {a : Act} {Q : Exit → Act → World → Prop} {w : World} {g : Nat} {t : TypeId} {c : Array Value} (hi : (Tryz.prog.info? t).map (·.size) = some c.size) (hu : ∃ d, Tryz.prog.underlying t = some d ∧ d.isRow = true) (hg : Blk w g c t) (x : Operand)
    (hgd : o.guard = none) (ho : o.op = .load t x) (hx : a.eval x = .pointer (some ⟨g, 0, none⟩)) (hk : wpList Tryz.prog ops Q rest (a.put o.dst (.agg c)) w) : wpList Tryz.prog ops Q (o :: rest) a w := by
  obtain ⟨d, hd, hr⟩ := hu
  have := wpList_load_mid (P := Tryz.prog) (ops := ops) (rest := rest) (Q := Q) hgd t x ho g 0 hx c.toList d hg.range hd hr (by simpa using hi) (by simpa using hk)
  exact this
/-- Guards: the operation at hand is a store, a load of that type. -/
theorem atSt (t : TypeId) {P : Program} {ops : Array Oper} {Q : Exit → Act → World → Prop} {d : Option Tmp} {x y : Operand} {ty : TypeId} {pos : String} {af : Array Edge} {gd : Option (Nat × Bool)} {rest : List Oper} {a : Act} {w : World} (h : wpList P ops Q ({ dst := d, op := .store t x y, type := ty, pos := pos, after := af, guard := gd } :: rest) a w) : wpList P ops Q ({ dst := d, op := .store t x y, type := ty, pos := pos, after := af, guard := gd } :: rest) a w := h
theorem atLd (t : TypeId) {P : Program} {ops : Array Oper} {Q : Exit → Act → World → Prop} {d : Option Tmp} {x : Operand} {ty : TypeId} {pos : String} {af : Array Edge} {gd : Option (Nat × Bool)} {rest : List Oper} {a : Act} {w : World} (h : wpList P ops Q ({ dst := d, op := .load t x, type := ty, pos := pos, after := af, guard := gd } :: rest) a w) : wpList P ops Q ({ dst := d, op := .load t x, type := ty, pos := pos, after := af, guard := gd } :: rest) a w := h
theorem ret_blk {W : World} {g j : Nat} {t : TypeId} {c : Array Value} (hi : (Tryz.prog.info? t).map (·.size) = some c.size) (hu : ∃ d, Tryz.prog.underlying t = some d ∧ d.isRow = true) {fn : Func} (hres : fn.results = #[.cell j t]) {tmps : Array Value} (ht : tmps.getD j undef = .pointer (some ⟨g, 0, none⟩))
    (hg : Blk W g c t) {R : Ending → World → Prop} (h : R (.returned (.agg c)) W) : bodyPost Tryz.prog fn R Exit.ret { tmps := tmps, defers := [] } W := by
  obtain ⟨d, hd, hr⟩ := hu
  have hld := run_loadVar_mid (P := Tryz.prog) W g 0 t c.toList d hg.range hd hr (by simpa using hi)
  refine bodyPost_ret (v := .agg c) ?_ rfl h
  have ht' : tmps[j]?.getD undef = .pointer (some ⟨g, 0, none⟩) := by simpa using ht
  simp [results, hres, ht', asAddr, hld]
theorem ret_blk2 {W : World} {g j k : Nat} {t : TypeId} {c : Array Value} {v : Value} (hi : (Tryz.prog.info? t).map (·.size) = some c.size) (hu : ∃ d, Tryz.prog.underlying t = some d ∧ d.isRow = true) {fn : Func} (hres : fn.results = #[.cell j t, .tmp k]) {tmps : Array Value} (ht : tmps.getD j undef = .pointer (some ⟨g, 0, none⟩)) (hv : tmps.getD k undef = v)
    (hg : Blk W g c t) {R : Ending → World → Prop} (h : R (.returned (.tuple #[.agg c, v])) W) : bodyPost Tryz.prog fn R Exit.ret { tmps := tmps, defers := [] } W := by
  obtain ⟨d, hd, hr⟩ := hu
  have hld := run_loadVar_mid (P := Tryz.prog) W g 0 t c.toList d hg.range hd hr (by simpa using hi)
  refine bodyPost_ret (v := .tuple #[.agg c, v]) ?_ rfl h
  have ht' : tmps[j]?.getD undef = .pointer (some ⟨g, 0, none⟩) := by simpa using ht
  have hv' : tmps[k]?.getD undef = v := by simpa using hv
  simp [results, hres, ht', hv', asAddr, hld]
/-- A map's element that is handed on as it is. -/
def heldR (v : Value) : Option (DataW Value × List MemPlace) := some (.held v, [])
end Go.Proofs.YthgclfhfipfknaaGreat
