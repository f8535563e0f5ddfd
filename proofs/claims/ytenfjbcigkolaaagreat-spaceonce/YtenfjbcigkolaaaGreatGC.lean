/- A page with another link. -/
import Derived.Test.YtenfjbcigkolaaaGreatGB
namespace Go.Proofs.YtenfjbcigkolaaaGreat
open Go.ChangeShapes Go.WideShapes Go.ChangeAt Go.RowKit
set_option linter.unusedVariables false

/-- No bytes but zeros. -/
def zs : List UInt8 := List.replicate 256 0
theorem zs_length : zs.length = 256 := List.length_replicate ..
theorem zero_page : (∀ w, (zeroValue 32).run Tryz.prog w = .ok (.agg (bc zs)) w) ∧ (Tryz.prog.info? 32).map (·.size) = some 256 :=
  zero_of_info (by kernel_rfl)

theorem set_block {W : World} {g : Nat} {cs : Array Value} {t : TypeId} (h : W.heap[g]? = some (.cells cs t (0, 0))) (k : Nat) (v : Value) : (W.setCell ⟨g, k, none⟩ v).heap[g]? = some (.cells (cs.setIfInBounds k v) t (0, 0)) := by
  rw [setCell_eq_setRow W g k cs t (0, 0) v h]
  exact setRow_heap W g cs _ t _ h
theorem bc_set (l : List UInt8) (k : Nat) (b : UInt8) : (bc l).setIfInBounds k (.int .u8 (b.toNat : Int)) = bc (l.set k b) := by
  simp [bc, bcl, List.map_set]
theorem PAt.set {W : World} {g : Nat} {l : List UInt8} (h : PAt W g l) (k : Nat) (b : UInt8) {x : Int} (hx : x = (b.toNat : Int)) : PAt (W.setCell ⟨g, k, none⟩ (.int .u8 x)) g (l.set k b) := by
  subst hx
  have := set_block h k (.int .u8 (b.toNat : Int))
  rwa [bc_set] at this

theorem PAt.frozen {w : World} {g : Nat} {l : List UInt8} (h : PAt w g l) (k : Nat) : w.frozen? ⟨g, k, none⟩ = false := by simp [World.frozen?, h]

/-- A page, loaded whole. -/
theorem wp_loadP {ops : Array Oper} {rest : List Oper} {o : Oper} {a : Act} {Q : Exit → Act → World → Prop} {w : World} {g : Nat} {l : List UInt8} (hl : l.length = 256) (hg : PAt w g l) (x : Operand)
    (hgd : o.guard = none) (ho : o.op = .load 32 x) (hx : a.eval x = .pointer (some ⟨g, 0, none⟩)) (h : wpList Tryz.prog ops Q rest (a.put o.dst (.agg (bc l))) w) : wpList Tryz.prog ops Q (o :: rest) a w :=
  wpList_load_row hgd 32 x ho g hx 32 (bc l) (0, 0) _ hg page_arr rfl (page_size hl) h
theorem PAt.row {W : World} {g : Nat} {l l0 : List UInt8} (h : PAt W g l0) : PAt (W.setRow g (bc l)) g l := setRow_heap W g _ _ _ _ h
theorem heap_setRow (w : World) (g : Nat) (cs : Array Value) (k : Nat) (h : k ≠ g) : (w.setRow g cs).heap[k]? = w.heap[k]? := by
  simp only [World.setRow]
  rw [Array.getElem?_modify, if_neg (Ne.symm h)]
theorem below_setRow {B : Nat} {a w : World} (h : Below B a w) {g : Nat} (hp : B ≤ g) (cs : Array Value) : Below B a (w.setRow g cs) :=
  h.trans ⟨rfl, rfl, rfl, by simp [World.setRow], fun k hk => heap_setRow _ _ _ _ (by omega)⟩
/-- A page, stored whole. -/
theorem wp_storeP {ops : Array Oper} {rest : List Oper} {o : Oper} {a : Act} {Q : Exit → Act → World → Prop} {w : World} {g : Nat} {l l0 : List UInt8} (hl : l.length = 256) (hl0 : l0.length = 256) (hg : PAt w g l0) (x y : Operand)
    (hgd : o.guard = none) (ho : o.op = .store 32 x y) (hx : a.eval x = .pointer (some ⟨g, 0, none⟩)) (hy : a.eval y = .agg (bc l))
    (h : ∀ W', PAt W' g l → (∀ B A, Below B A w → B ≤ g → Below B A W') → (∀ k, k ≠ g → W'.heap[k]? = w.heap[k]?) → wpList Tryz.prog ops Q rest (a.put o.dst undef) W') : wpList Tryz.prog ops Q (o :: rest) a w :=
  wpList_store_row hgd 32 x y ho g (bc l) hx hy 32 (bc l0) hg (page_size hl) (by rw [bc_size, bc_size, hl, hl0]) (bc_one l) (h _ hg.row (fun B A hb hB => below_setRow hb hB _) (fun k hk => heap_setRow _ _ _ _ hk))
/-- A page comes back out of a result's own block. -/
theorem ret_page {W : World} {g j : Nat} {l : List UInt8} {fn : Func} (hres : fn.results = #[.cell j 32]) {tmps : Array Value} (ht : tmps.getD j undef = .pointer (some ⟨g, 0, none⟩)) (hl : l.length = 256)
    (hg : PAt W g l) {R : Ending → World → Prop} (h : R (.returned (.agg (bc l))) W) : bodyPost Tryz.prog fn R Exit.ret { tmps := tmps, defers := [] } W :=
  bodyPost_ret (v := .agg (bc l)) (results_cell_row hres _ _ g 32 _ (0, 0) _ ht hg page_arr rfl (page_size hl)) rfl h
theorem ret_page2 {W : World} {g j i : Nat} {l : List UInt8} {fn : Func} (hres : fn.results = #[.cell j 32, .tmp i]) {tmps : Array Value} (ht : tmps.getD j undef = .pointer (some ⟨g, 0, none⟩)) {u : Value} (hu : tmps.getD i undef = u) (hl : l.length = 256)
    (hg : PAt W g l) {R : Ending → World → Prop} (h : R (.returned (.tuple #[.agg (bc l), u])) W) : bodyPost Tryz.prog fn R Exit.ret { tmps := tmps, defers := [] } W := by
  have hld := run_loadVar_row (P := Tryz.prog) W g 32 32 (bc l) (0, 0) _ hg page_arr rfl (page_size hl)
  refine bodyPost_ret (v := .tuple #[.agg (bc l), u]) ?_ rfl h
  have ht' : tmps[j]?.getD undef = .pointer (some ⟨g, 0, none⟩) := by simpa using ht
  have hu' : tmps[i]?.getD undef = u := by simpa using hu
  simp [results, hres, ht', hu', asAddr, hld]

/-- A page with a link. -/
def setL (l : List UInt8) (L : Nat) : List UInt8 := (((l.set 5 (UInt8.ofNat L)).set 4 (UInt8.ofNat (L / 256))).set 3 (UInt8.ofNat (L / 65536))).set 2 (UInt8.ofNat (L / 16777216))
theorem setL_length (l : List UInt8) (L : Nat) : (setL l L).length = l.length := by simp [setL]

theorem bc_setL (l : List UInt8) (L : Nat) : ((((bc l).setIfInBounds 5 (Value.int IntKind.u8 ((L : Int) % 256))).setIfInBounds 4 (Value.int IntKind.u8 ((L : Int) / 256 % 256))).setIfInBounds 3 (Value.int IntKind.u8 ((L : Int) / 256 / 256 % 256))).setIfInBounds 2 (Value.int IntKind.u8 ((L : Int) / 256 / 256 / 256 % 256)) = bc (setL l L) := by
  have h : ∀ m : Nat, ((UInt8.ofNat m).toNat : Int) = (m : Int) % 256 := fun m => by simp
  rw [show (L : Int) / 256 / 256 / 256 % 256 = ((UInt8.ofNat (L / 16777216)).toNat : Int) by rw [h]; omega, show (L : Int) / 256 / 256 % 256 = ((UInt8.ofNat (L / 65536)).toNat : Int) by rw [h]; omega,
    show (L : Int) / 256 % 256 = ((UInt8.ofNat (L / 256)).toNat : Int) by rw [h]; omega, show (L : Int) % 256 = ((UInt8.ofNat L).toNat : Int) by rw [h]]
  rw [bc_set, bc_set, bc_set, bc_set]
  rfl

set_option maxRecDepth 20000 in
set_option maxHeartbeats 1000000 in
theorem linked_walk (l : List UInt8) (hl : l.length = 256) (L : Nat) (hL : L < 4294967296) (w : World) :
    Calls Tryz.prog 213 #[.agg (bc l), .int .u32 (L : Int)] w fun e w' => e = .returned (.agg (bc (setL l L))) ∧ Below w.heap.size w w' := by
  have HS : Hid ((setL l L).length = 256) := (setL_length l L).trans hl
  have HP : Hid (PAt ((w.alloc (.cells (bc (setL l L)) 32)).alloc (.cells (bc zs) 32)) w.heap.size (setL l L)) := (PAt.new w _).later (new_below _ _ rfl)
  have HZ : Hid (PAt ((w.alloc (.cells (bc (setL l L)) 32)).alloc (.cells (bc zs) 32)) (w.heap.size + 1) zs) := by
    have := PAt.new (w.alloc (.cells (bc (setL l L)) 32)) zs
    rwa [show (w.alloc (.cells (bc (setL l L)) 32)).heap.size = w.heap.size + 1 by simp] at this
  have c2 := bc_get (l := l) (k := 2) (by omega)
  have c3 := bc_get (l := l) (k := 3) (by omega)
  have c4 := bc_get (l := l) (k := 4) (by omega)
  have c5 := bc_get (l := l) (k := 5) (by omega)
  have HB : Hid (Below w.heap.size w ((w.alloc (.cells (bc (setL l L)) 32)).alloc (.cells (bc zs) 32))) := below_trans (new_below w _ rfl) (new_below _ _ rfl)
  have hz := zero_page.1
  clear hl hL
  go_enter Tryz.func213, Tryz.ntmps213
  go_wp2
  refine wp_loop_rounds 5 ?_
  rw [rounds_succ]
  go_wp2
  rw [rounds_succ]
  go_wp2
  rw [rounds_succ]
  go_wp2
  rw [rounds_succ]
  go_wp2
  rw [rounds_succ, bc_setL]
  go_wp2_with (first
    | (refine wp_loadP HS.out HP.out _ (by rfl) (by rfl) (by rfl) ?_)
    | (refine wp_storeP HS.out zs_length HZ.out _ _ (by rfl) (by rfl) (by rfl) (by rfl) ?_; intro W1 hp hb hk; have HP1 := hide hp; have HB1 := hide (hb _ _ HB.out (by omega)); clear hp hb hk)
    | (exact ret_page Tryz.results213 rfl HS.out HP1.out ⟨rfl, HB1.out⟩))
end Go.Proofs.YtenfjbcigkolaaaGreat
