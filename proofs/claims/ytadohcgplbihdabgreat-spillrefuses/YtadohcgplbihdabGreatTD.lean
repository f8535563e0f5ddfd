/- The log on a disk without files. -/
import Derived.RangeFuncNested
import Derived.RangeFuncBound
import Derived.RangeFuncCalls
import Derived.RangeFuncLeaves
import Derived.RangeFuncWrites
import Derived.Shelf.Abstract
import Derived.Shelf.RegionOpen
import Derived.OwnWalkIn
import Derived.TacticsInMore
import Derived.LoopNIn
import Derived.LoopIn
import Derived.Test.YtadohcgplbihdabGreatTC
namespace Go.Proofs.YtadohcgplbihdabGreat
open Go.ChangeShapes Go.WideShapes Go.ChangeAt Go.RowKit Go.Maps Go.Shelf
set_option linter.unusedVariables false
attribute [local go_sem] Oper.semAt_some

/-- The log without frames. -/
def lg0 (d : Nat) : Array Value := #[.pointer (some ⟨d, 0, none⟩), .string ⟨#[]⟩, .int .i64 0]
theorem infoG : (Tryz.prog.info? 190).map (·.size) = some 3 := by kernel_rfl
theorem uG : ∃ d, Tryz.prog.underlying 190 = some d ∧ d.isRow = true := ⟨_, Tryz.underlying190, rfl⟩
theorem lg_one {a : Option Addr} {s : ByteArray} {k : Int} : (#[Value.pointer a, .string s, .int .i64 k]).all (·.oneCell') = true := all_oneCell_toArray (cs := [Value.pointer a, .string s, .int .i64 k]) (by intro v hv; simp at hv; rcases hv with rfl | rfl | rfl <;> rfl)
theorem frames_e (w : World) (d : Nat) : Calls Tryz.prog 175 #[.agg #[.pointer (some ⟨d, 0, none⟩), .string ⟨#[]⟩, .int .i64 0], .int .i64 0] w fun x w' => x = .returned (.func (.func 198) #[] #[.pointer (some ⟨w.heap.size + 1, 0, none⟩), .pointer (some ⟨w.heap.size, 0, none⟩)]) ∧ w' = (w.alloc (.cells #[.pointer (some ⟨d, 0, none⟩), .string ⟨#[]⟩, .int .i64 0] 190)).alloc (.cells #[.int .i64 0] 3) := by
  go_enter Tryz.func175, Tryz.ntmps175
  go_wp2
  go_ret
  exact ⟨rfl, rfl⟩
theorem belowK_b {w : World} {B : Nat} (hB : B ≤ w.heap.size) (W : World) (D : Nat) (o o' : Obj) (hD : B ≤ D) (h : W.heap[D]? = some o) : Below B W (W.putObj D o') :=
  ⟨rfl, rfl, rfl, (grownBy_putObj' W D o').size, fun k hk => (grownBy_putObj' W D o').block k (by have := (Array.getElem?_eq_some_iff.1 h).1; omega) (fun e => by simp at e; omega)⟩
/-- The frames of a log without frames: none. -/
theorem frames_none (n bm bl : Nat) (Kp : World → World → Prop) (w : World) (hw : bm < w.heap.size) (hbm : Blk w bm #[.int .i64 0] 3) :
    SeqStopsK Fence.wide n Tryz.prog 198 #[.pointer (some ⟨bm, 0, none⟩), .pointer (some ⟨bl, 0, none⟩)] (fun x : Empty => x.elim) Kp (fun ys => ys = []) (fun _ => False) 0 w := fun lp J Jx W hW hJ _ hY h0 => by
  have cm : W.cell? ⟨bm, 0, none⟩ = some (.int .i64 0) := (hbm.later hW).cell 0
  refine callsIn_of_wp Tryz.func198 rfl trivial ?_ rfl
  simp only [Tryz.ntmps198, List.size_toArray, List.length_cons, List.length_nil, Nat.reduceAdd, Nat.reduceSub, Array.replicate_succ, Array.replicate_zero, List.push_toArray, List.append_toArray, List.nil_append, List.cons_append]
  gi_wp2
  refine wpIn_loop_rounds 1 ?_
  rw [roundsIn_succ]
  gi_wp2
  go_end0
  exact ⟨⟨_, rfl⟩, .inl ⟨[], rfl, h0⟩⟩
/-- Between two rounds. -/
def WhI (w : World) (sz : Nat) (pre : List Empty) (W : World) : Prop := Boxed W (w.heap.size + 1) 4 (.bool false) ∧ Boxed W (w.heap.size + 1 + 1) 4 (.bool true) ∧ Below w.heap.size w W ∧ sz ≤ W.heap.size
theorem whI_own (w : World) (sz B : Nat) (h : w.heap.size ≤ B) : OwnFrom B (WhI w sz) :=
  OwnFrom.and (Own.from (boxed_own _ _ (fun _ : List Empty => .bool false)) _) (OwnFrom.and (Own.from (boxed_own _ _ (fun pre : List Empty => .bool true)) _) (OwnFrom.and (ownFrom_below (Nat.le_refl _) h) (fun s X Y row hs hg _ => Nat.le_trans hs hg.size)))
set_option maxRecDepth 100000 in
set_option maxHeartbeats 4000000 in
theorem whole_e (w : World) (d : Nat) : Calls Tryz.prog 142 #[.agg #[.pointer (some ⟨d, 0, none⟩), .string ⟨#[]⟩, .int .i64 0]] w fun x w' => x = .returned (.bool true) ∧ Below w.heap.size w w' := by
  have HFm := hide (fun V => frames_e V d)
  have hnil : ∀ (V : World) (b c : Nat), (binOp BinOp.eql 274 (.func (.func 198) #[] #[.pointer (some ⟨b, 0, none⟩), .pointer (some ⟨c, 0, none⟩)]) Value.nilFunc).run Tryz.prog V = .ok (.bool false) V := fun V b c => by kernel_rfl
  refine (callsIn_wide (n := 9)).1 ?_
  refine callsIn_of_wp_marks Tryz.func142 rfl trivial ?_ rfl
  simp only [Tryz.ntmps142, List.size_toArray, List.length_cons, List.length_nil, Nat.reduceAdd, Nat.reduceSub, Array.replicate_succ, Array.replicate_zero, List.push_toArray, List.append_toArray, List.nil_append, List.cons_append]
  gi_wp2_with (refine ⟨trivial, ?_⟩; gi_at_call 175; refine CallsIn.mono (callsIn_wide.2 (HFm.out _)) ?_; rintro e w2 ⟨rfl, rfl⟩)
  have hB0 : Below w.heap.size w (((((w.alloc (.cells #[.pointer (some ⟨d, 0, none⟩), .string ⟨#[]⟩, .int .i64 0] 190)).alloc (.cells #[.bool false] 4)).alloc (.cells #[.bool true] 4)).alloc (.cells #[.pointer (some ⟨d, 0, none⟩), .string ⟨#[]⟩, .int .i64 0] 190)).alloc (.cells #[.int .i64 0] 3)) := below_trans (below_trans (below_trans (below_trans (below_alloc _ _) (below_alloc _ _)) (below_alloc _ _)) (below_alloc _ _)) (below_alloc _ _)
  have bA := Blk.new (w.alloc (.cells #[.pointer (some ⟨d, 0, none⟩), .string ⟨#[]⟩, .int .i64 0] 190)) #[.bool false] 4
  have bB := Blk.new ((w.alloc (.cells #[.pointer (some ⟨d, 0, none⟩), .string ⟨#[]⟩, .int .i64 0] 190)).alloc (.cells #[.bool false] 4)) #[.bool true] 4
  have bD := Blk.new ((((w.alloc (.cells #[.pointer (some ⟨d, 0, none⟩), .string ⟨#[]⟩, .int .i64 0] 190)).alloc (.cells #[.bool false] 4)).alloc (.cells #[.bool true] 4)).alloc (.cells #[.pointer (some ⟨d, 0, none⟩), .string ⟨#[]⟩, .int .i64 0] 190)) #[.int .i64 0] 3
  have bA2 := ((bA.later (below_alloc _ (.cells #[.bool true] 4))).later (below_alloc _ (.cells #[.pointer (some ⟨d, 0, none⟩), .string ⟨#[]⟩, .int .i64 0] 190))).later (below_alloc _ (.cells #[.int .i64 0] 3))
  have bB2 := (bB.later (below_alloc _ (.cells #[.pointer (some ⟨d, 0, none⟩), .string ⟨#[]⟩, .int .i64 0] 190))).later (below_alloc _ (.cells #[.int .i64 0] 3))
  simp only [World.size_alloc] at bA2 bB2 bD
  have hs0 : (((((w.alloc (.cells #[.pointer (some ⟨d, 0, none⟩), .string ⟨#[]⟩, .int .i64 0] 190)).alloc (.cells #[.bool false] 4)).alloc (.cells #[.bool true] 4)).alloc (.cells #[.pointer (some ⟨d, 0, none⟩), .string ⟨#[]⟩, .int .i64 0] 190)).alloc (.cells #[.int .i64 0] 3)).heap.size = w.heap.size + 5 := by simp
  clear bA bB
  generalize (((((w.alloc (.cells #[.pointer (some ⟨d, 0, none⟩), .string ⟨#[]⟩, .int .i64 0] 190)).alloc (.cells #[.bool false] 4)).alloc (.cells #[.bool true] 4)).alloc (.cells #[.pointer (some ⟨d, 0, none⟩), .string ⟨#[]⟩, .int .i64 0] 190)).alloc (.cells #[.int .i64 0] 3)) = W0 at hB0 bA2 bB2 bD hs0 ⊢
  have h0 : WhI w (w.heap.size + 5) [] W0 := ⟨bA2, bB2, hB0, by omega⟩
  refine wpIn_rangeFunc_ownH rfl (by omega) (gf := 198) (lb := #[.pointer (some ⟨w.heap.size + 1 + 1 + 1 + 1, 0, none⟩), .pointer (some ⟨w.heap.size + 1 + 1 + 1, 0, none⟩)]) rfl trivial (enters_of Tryz.func198 (by kernel_rfl) rfl)
    (frames_none _ (w.heap.size + 1 + 1 + 1 + 1) (w.heap.size + 1 + 1 + 1) (fun A B => True) W0 (by omega) bD)
    (fun h h' => trivial) (fun W l o o' hl ho _ _ => trivial) (Below.refl _ _) (fun x => x.elim)
    (WhI w (w.heap.size + 5)) (fun _ _ _ => False) (whI_own w _ _ (by omega)) (fun _ _ _ _ _ hs _ _ => hs) h0
    (fun x a' W => True) (fun x a' s X Y row hs hg hr => trivial) (fun _ _ x => x.elim) (fun _ _ x => x.elim) ?done ?stop
  case done =>
    rintro D ys W hD rfl ⟨h1, h2, hB, hsz⟩ hK0
    have c2 := h2.cell
    have c1 := h1.cell
    have f1 := h1.frozen
    have s1 : Boxed (W.setCell ⟨w.heap.size + 1, 0, none⟩ (.bool true)) (w.heap.size + 1) 4 (.bool true) := h1.set _
    have b1 : Below w.heap.size w (W.setCell ⟨w.heap.size + 1, 0, none⟩ (.bool true)) := hB.trans ((Below.refl _ W).setCell (p := ⟨w.heap.size + 1, 0, none⟩) (by show w.heap.size ≤ w.heap.size + 1; omega) _)
    have k1 : (W.setCell ⟨w.heap.size + 1, 0, none⟩ (.bool true)).heap[D]? = some (.deferred (some [])) := (Below.heap_setCell W ⟨w.heap.size + 1, 0, none⟩ (.bool true) D (by show D ≠ w.heap.size + 1; omega)).trans hK0
    gi_wp2
    generalize W.setCell ⟨w.heap.size + 1, 0, none⟩ (.bool true) = Y at b1 s1 k1 ⊢
    have b2 := b1.trans (belowK_b (w := w) (Nat.le_refl _) Y D _ (.deferred none) (by omega) k1)
    have c9 : (Y.putObj D (.deferred none)).cell? ⟨w.heap.size + 1, 0, none⟩ = some (.bool true) := Boxed.cell (show Boxed (Y.putObj D (.deferred none)) (w.heap.size + 1) 4 (.bool true) from ((grownBy_putObj' Y D (.deferred none)).block _ s1.lt (fun e => by simp at e; omega)).trans s1)
    refine ⟨by simp, .inl ⟨_, _, rfl, run_takeDeferred k1, ?_⟩⟩
    refine ⟨.bool true, ?_, rfl, b2⟩
    simp [results, Tryz.f142, go_sem, c9]
  case stop =>
    rintro D cc pre W _ _ h _
    exact h.elim
end Go.Proofs.YtadohcgplbihdabGreat
