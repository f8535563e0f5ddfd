/- The pages of awake's commits. -/
import Derived.Test.YteocmhbllckpjaaGreatX1
import Derived.Great.BuildSlice
import Derived.Stop.BytesEq
namespace Go.Proofs.YteocmhbllckpjaaGreat
open Go.ChangeShapes Go.WideShapes Go.ChangeAt Go.RowKit
open Go.ChangeMaps (setBlock)
set_option linter.unusedVariables false

theorem JI.fresh (mb : Nat) (r : Int) : JI r (DS.fresh mb r) 0 := by
  refine ⟨⟨?_, ?_, ?_, ?_, ?_, ?_, ?_, ?_, rfl, ⟨Int.le_refl _, show (0 : Int) ≤ 9223372036854775807 by decide⟩, ?_, ?_, fun nm => rfl⟩, rfl⟩
  · intro f hf; cases hf
  · exact List.nodup_nil
  · intro f hf; cases hf
  · intro f hf; cases hf
  · intro f hf; cases hf
  · intro f hf; cases hf
  · intro f hf; cases hf
  · exact Nat.le_refl _
  · exact ⟨Int.le_refl _, Int.le_refl _⟩
  · exact ⟨Int.le_refl _, Int.le_refl _⟩
def one8 : UInt8 := 1
def two8 : UInt8 := 2
def three8 : UInt8 := 3
theorem built1 : Tryz.prog.built 72 [(0, .int .i64 1), (1, .agg (bcs (fullL one8)).toArray)] = some (pcl 1 (fullL one8)).toArray := by kernel_rfl
theorem built2 : Tryz.prog.built 72 [(0, .int .i64 2), (1, .agg (bcs (fullL two8)).toArray)] = some (pcl 2 (fullL two8)).toArray := by kernel_rfl
theorem built3 : Tryz.prog.built 72 [(0, .int .i64 1), (1, .agg (bcs (fullL three8)).toArray)] = some (pcl 1 (fullL three8)).toArray := by kernel_rfl
def cell2 : List Value := pcl 1 (fullL one8) ++ pcl 2 (fullL two8)
theorem fill2 : (Tryz.prog.info? 72).bind (fun ie => ie.zero.bind fun z => Instr.fill (fun i => some (i * ie.size, ie.size)) ((Array.range (2 * ie.size)).map (z.cells[· % z.cells.size]!)) [(0, .agg (pcl 1 (fullL one8)).toArray), (1, .agg (pcl 2 (fullL two8)).toArray)]) = some cell2.toArray := by kernel_rfl
theorem fill3 : (Tryz.prog.info? 72).bind (fun ie => ie.zero.bind fun z => Instr.fill (fun i => some (i * ie.size, ie.size)) ((Array.range (1 * ie.size)).map (z.cells[· % z.cells.size]!)) [(0, .agg (pcl 1 (fullL three8)).toArray)]) = some (pcl 1 (fullL three8)).toArray := by kernel_rfl
theorem wp_b67 {ops : Array Oper} {rest : List Oper} {o : Oper} {a : Act} {Q : Exit → Act → World → Prop} {w : World} {vals : List (Nat × Value)} {c : Array Value} (hf : Tryz.prog.built 72 vals = some c) (parts : Array (Nat × Operand)) (hg : o.guard = none) (ho : o.op = .build 72 parts) (hv : (parts.map fun (i, x) => (i, a.eval x)).toList = vals)
    (hk : wpList Tryz.prog ops Q rest (a.put o.dst (.agg c)) w) : wpList Tryz.prog ops Q (o :: rest) a w :=
  wpList_buildTo hg 72 parts ho o.dst rfl c (by rw [hv]; exact hf) hk
theorem wp_bs22 {ops : Array Oper} {rest : List Oper} {o : Oper} {a : Act} {Q : Exit → Act → World → Prop} {w : World} {vals : List (Nat × Value)} {c : Array Value} {n : Nat} (hn : 0 < n ∧ n ≤ 1000) (hf : (Tryz.prog.info? 72).bind (fun ie => ie.zero.bind fun z => Instr.fill (fun i => some (i * ie.size, ie.size)) ((Array.range (n * ie.size)).map (z.cells[· % z.cells.size]!)) vals) = some c)
    (parts : Array (Nat × Operand)) (hg : o.guard = none) (ho : o.op = .buildSlice 31 n parts) (hv : (parts.map fun (i, x) => (i, a.eval x)).toList = vals)
    (hk : wpList Tryz.prog ops Q rest (a.put o.dst (.slice (some ⟨w.heap.size, 0, none⟩) n n)) (w.alloc (.cells c 72))) : wpList Tryz.prog ops Q (o :: rest) a w := by
  have hi := info67
  cases hq : Tryz.prog.info? 72 with
  | none => simp [hq] at hi
  | some ie =>
    rw [hq] at hf hi
    have hs : ie.size = 257 := by simpa using hi
    cases hz : ie.zero with
    | none => simp [hz] at hf
    | some z =>
      have hf' : Instr.fill (fun i => some (i * ie.size, ie.size)) ((Array.range (n * ie.size)).map (z.cells[· % z.cells.size]!)) vals = some c := by simpa [hz] using hf
      refine wpList_buildSlice hg 31 72 n parts ho c ie z Tryz.underlying31 hq hz (by rw [hs]; omega) (by rw [hs]; omega) (by rw [hv]; exact hf') hk
theorem at67B {P : Program} {ops : Array Oper} {Q : Exit → Act → World → Prop} {d : Option Tmp} {ps : Array (Nat × Operand)} {ty : TypeId} {pos : String} {af : Array Edge} {gd : Option (Nat × Bool)} {rest : List Oper} {a : Act} {w : World} (h : wpList P ops Q ({ dst := d, op := .build 72 ps, type := ty, pos := pos, after := af, guard := gd } :: rest) a w) : wpList P ops Q ({ dst := d, op := .build 72 ps, type := ty, pos := pos, after := af, guard := gd } :: rest) a w := h
theorem at22B {P : Program} {ops : Array Oper} {Q : Exit → Act → World → Prop} {d : Option Tmp} {n : Nat} {ps : Array (Nat × Operand)} {ty : TypeId} {pos : String} {af : Array Edge} {gd : Option (Nat × Bool)} {rest : List Oper} {a : Act} {w : World} (h : wpList P ops Q ({ dst := d, op := .buildSlice 31 n ps, type := ty, pos := pos, after := af, guard := gd } :: rest) a w) : wpList P ops Q ({ dst := d, op := .buildSlice 31 n ps, type := ty, pos := pos, after := af, guard := gd } :: rest) a w := h
def aN : Nat → Nat := fun k => k + 1
def aL : Nat → List UInt8 := fun k => if k = 0 then fullL one8 else fullL two8
theorem pages2 (V : World) : PgA (V.alloc (.cells cell2.toArray 72)) (some ⟨V.heap.size, 0, none⟩) 2 (fun k => (aN k : Int)) aL := fun _ => by
  have hb : Blk (V.alloc (.cells cell2.toArray 72)) V.heap.size cell2.toArray 72 := alloc_new _ _
  refine ⟨V.heap.size, cell2.toArray, rfl, hb, fun k hk => ?_⟩
  rcases (show k = 0 ∨ k = 1 by omega) with rfl | rfl
  · refine ⟨fullL_length _, fun j v hv => ?_⟩
    rw [hb.cell]
    have hj : j < 257 := by have := (List.getElem?_eq_some_iff.1 hv).1; rw [pcl_length _ (show (aL 0).length = 256 from fullL_length _)] at this; exact this
    show cell2.toArray[0 * 257 + j]? = some v
    rw [List.getElem?_toArray, Nat.zero_mul, Nat.zero_add]
    unfold cell2
    rw [List.getElem?_append_left (by rw [pcl_length _ (fullL_length _)]; exact hj)]
    exact hv
  · refine ⟨fullL_length _, fun j v hv => ?_⟩
    rw [hb.cell]
    show cell2.toArray[1 * 257 + j]? = some v
    rw [List.getElem?_toArray]
    unfold cell2
    rw [List.getElem?_append_right (by rw [pcl_length _ (fullL_length _)]; omega), pcl_length _ (fullL_length _), show 1 * 257 + j - 257 = j by omega]
    exact hv
theorem wp_b67l {ops : Array Oper} {rest : List Oper} {o : Oper} {a : Act} {Q : Exit → Act → World → Prop} {w : World} {vals : List (Nat × Value)} {c : Array Value} (hf : Tryz.prog.built 72 vals = some c) (parts : List (Nat × Operand)) (hg : o.guard = none) (ho : o.op = .build 72 parts.toArray) (hv : parts.map (fun p => (p.1, a.eval p.2)) = vals)
    (hk : wpList Tryz.prog ops Q rest (a.put o.dst (.agg c)) w) : wpList Tryz.prog ops Q (o :: rest) a w :=
  wp_b67 hf parts.toArray hg ho (by rw [List.map_toArray]; exact hv) hk
theorem wp_bs22l {ops : Array Oper} {rest : List Oper} {o : Oper} {a : Act} {Q : Exit → Act → World → Prop} {w : World} {vals : List (Nat × Value)} {c : Array Value} {n : Nat} (hn : 0 < n ∧ n ≤ 1000) (hf : (Tryz.prog.info? 72).bind (fun ie => ie.zero.bind fun z => Instr.fill (fun i => some (i * ie.size, ie.size)) ((Array.range (n * ie.size)).map (z.cells[· % z.cells.size]!)) vals) = some c)
    (parts : List (Nat × Operand)) (hg : o.guard = none) (ho : o.op = .buildSlice 31 n parts.toArray) (hv : parts.map (fun p => (p.1, a.eval p.2)) = vals)
    (hk : wpList Tryz.prog ops Q rest (a.put o.dst (.slice (some ⟨w.heap.size, 0, none⟩) n n)) (w.alloc (.cells c 72))) : wpList Tryz.prog ops Q (o :: rest) a w :=
  wp_bs22 hn hf parts.toArray hg ho (by rw [List.map_toArray]; exact hv) hk
theorem grown_drew_then {w w' : World} (hg : w.drew.grownBy w' none) : w.grownBy w' none := grown_trans' (World.grownBy_drew w) hg
theorem eql24 (V : World) (l : List UInt8) (h : l.length = 256) : (binOp .eql 49 (.agg (bcs l).toArray) (.agg (bcs l).toArray)).run Tryz.prog V = .ok (.bool true) V := by
  have := run_eql_bytes (P := Tryz.prog) (w := V) 49 5 256 Tryz.underlying49 Tryz.underlying5 (fun w => by kernel_rfl) l l h h
  rw [show (l == l) = true by simp] at this
  exact this
theorem pages3 (V : World) : PgA (V.alloc (.cells (pcl 1 (fullL three8)).toArray 72)) (some ⟨V.heap.size, 0, none⟩) 1 (fun _ => ((1 : Nat) : Int)) (fun _ => fullL three8) := fun _ => by
  have hb : Blk (V.alloc (.cells (pcl 1 (fullL three8)).toArray 72)) V.heap.size (pcl 1 (fullL three8)).toArray 72 := alloc_new _ _
  refine ⟨V.heap.size, _, rfl, hb, fun k hk => ⟨fullL_length _, fun j v hv => ?_⟩⟩
  obtain rfl : k = 0 := by omega
  rw [hb.cell, Nat.zero_mul, Nat.zero_add, List.getElem?_toArray]
  exact hv
theorem may2 : MayF ((0 : Nat) : Int) ((2 : Nat) : Int) 2 (fun k => (aN k : Int)) := by
  refine ⟨by omega, fun j hj => ?_, by decide⟩
  rcases (show j = 0 ∨ j = 1 by omega) with rfl | rfl
  · exact ⟨by decide, by decide⟩
  · exact ⟨by decide, by decide⟩
theorem may3 : MayF ((2 : Nat) : Int) ((2 : Nat) : Int) 1 (fun _ => ((1 : Nat) : Int)) := by
  refine ⟨by omega, fun j hj => ?_, by decide⟩
  obtain rfl : j = 0 := by omega
  exact ⟨by decide, by decide⟩
end Go.Proofs.YteocmhbllckpjaaGreat
