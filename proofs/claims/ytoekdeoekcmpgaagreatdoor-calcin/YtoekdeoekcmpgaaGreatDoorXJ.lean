/- Rows of values in memory: the document's Check. -/
/- The document's copy of a row; its Check and its copy of no values. -/
import Derived.Test.YtoekdeoekcmpgaaGreatDoorRP
import Derived.Test.YtoekdeoekcmpgaaGreatDoorKP
import Derived.LoopN
import Derived.Laws.Append
namespace Go.Proofs.YtoekdeoekcmpgaaGreatDoor
open Go.ChangeShapes Go.WideShapes Go.ChangeAt Go.RowKit
set_option linter.unusedVariables false

/-- A row of values, as it lies in memory. -/
abbrev RowAt (w : World) (b o len : Nat) (K N : Nat → Int) (T : Nat → ByteArray) : Prop :=
  ∀ i, i < len → w.cell? ⟨b, o + i * 3, none⟩ = some (.int .i64 (K i)) ∧ w.cell? ⟨b, o + i * 3 + 1, none⟩ = some (.int .i64 (N i)) ∧ w.cell? ⟨b, o + i * 3 + 2, none⟩ = some (.string (T i))

theorem RowAt.later {w w' : World} {b o len : Nat} {K N : Nat → Int} {T : Nat → ByteArray} (h : RowAt w b o len K N T) (hb : Below w.heap.size w w') : RowAt w' b o len K N T :=
  fun i hi => ⟨cell_later hb (h i hi).1, cell_later hb (h i hi).2.1, cell_later hb (h i hi).2.2⟩

/-- All that a row has may be. -/
def allMay (len : Nat) (K N : Nat → Int) (T : Nat → ByteArray) : Prop := ∀ i, i < len → mayB (K i) (N i) (T i) = true
open Classical in
/-- What is wrong with a row. -/
noncomputable def chk (len : Nat) (K N : Nat → Int) (T : Nat → ByteArray) : Int := if allMay len K N T then (if 16 < len then 3 else 0) else 2

theorem chk_bad {len : Nat} {K N : Nat → Int} {T : Nat → ByteArray} {j : Nat} (hj : j < len) (h : mayB (K j) (N j) (T j) = false) : chk len K N T = 2 := by
  unfold chk
  rw [if_neg (fun ha => by rw [ha j hj] at h; cases h)]
theorem chk_long {len : Nat} {K N : Nat → Int} {T : Nat → ByteArray} (h : ∀ i, i < len → mayB (K i) (N i) (T i) = true) (hl : 16 < len) : chk len K N T = 3 := by
  unfold chk
  rw [if_pos (show allMay len K N T from h), if_pos hl]
theorem chk_ok {len : Nat} {K N : Nat → Int} {T : Nat → ByteArray} (h : ∀ i, i < len → mayB (K i) (N i) (T i) = true) (hl : ¬ 16 < len) : chk len K N T = 0 := by
  unfold chk
  rw [if_pos (show allMay len K N T from h), if_neg hl]

set_option maxHeartbeats 1000000 in
set_option maxRecDepth 10000 in
theorem rcheck_some (b o len cap : Nat) (K N : Nat → Int) (T : Nat → ByteArray) (hlen : len ≤ 140737488355328) (w : World) (h : RowAt w b o len K N T) : Calls Tryz.prog 53 #[.slice (some ⟨b, o, none⟩) len cap] w fun e w' => e = .returned (.int .i64 (chk len K N T)) ∧ Below w.heap.size w w' := by
  have HM : Hid (∀ k n t V, Calls Tryz.prog 36 #[.agg #[.int .i64 k, .int .i64 n, .string t]] V fun e w' => e = .returned (.bool (mayB k n t)) ∧ Below V.heap.size V w') := fun k n t V => rmay_walk k n t V
  have HR : Hid (RowAt w b o len K N T) := h
  clear h
  go_enter Tryz.func53, Tryz.ntmps53
  go_wp2
  go_loopw [3] (fun iv wr => ∃ j : Nat, j ≤ len ∧ iv = .int .i64 j ∧ (∀ i, i < j → mayB (K i) (N i) (T i) = true) ∧ Below w.heap.size w wr) (fun i _ => len - (intOf i).toNat)
  case atStart => exact ⟨0, Nat.zero_le _, rfl, fun i h => by omega, Below.refl _ _⟩
  case round =>
    obtain ⟨j, hj, rfl, hall, hbel⟩ := hrel
    have HA := hide hall
    have HB := hide hbel
    clear hall hbel
    by_cases hlt : j < len
    · have l1 : (j : Int) < (len : Int) := by omega
      have l0 : (0 : Int) ≤ (j : Int) := by omega
      have hw1 : IntKind.i64.wrap ((j : Int) + 1) = (j : Int) + 1 := by rw [IntKind.wrap_i64]; omega
      obtain ⟨c0, c1, c2⟩ := (HR.out.later HB.out) j hlt
      cases hm : mayB (K j) (N j) (T j)
      · have HMj := hide hm
        go_wp2_with (first
          | (go_at_call 36; (with_reducible refine Calls.mono (HM.out _ _ _ _) ?_); rintro e w1 ⟨rfl, hb⟩; have HX := hide (below_trans HB.out hb); clear hb; rw [HMj.out]))
        go_ret
        exact ⟨by rw [chk_bad hlt HMj.out]; rfl, HX.out⟩
      · have HMj := hide hm
        go_wp2_with (first
          | (go_at_call 36; (with_reducible refine Calls.mono (HM.out _ _ _ _) ?_); rintro e w1 ⟨rfl, hb⟩; have HX := hide (below_trans HB.out hb); clear hb; rw [HMj.out]))
        refine ⟨⟨j + 1, hlt, rfl, fun i hi => ?_, HX.out⟩, ?_⟩
        · by_cases e : i = j
          · subst e; exact HMj.out
          · exact HA.out i (by omega)
        · simp only [intOf]
          omega
    · have l1 : ¬ (j : Int) < (len : Int) := by omega
      have hall : ∀ i, i < len → mayB (K i) (N i) (T i) = true := fun i hi => HA.out i (by omega)
      have HC := hide hall
      clear hall
      by_cases h16 : 16 < len
      · have l2 : (16 : Int) < (len : Int) := by omega
        go_wp2_with fail
        go_ret
        exact ⟨by rw [chk_long HC.out h16]; rfl, HB.out⟩
      · have l2 : ¬ (16 : Int) < (len : Int) := by omega
        go_wp2_with fail
        go_ret
        exact ⟨by rw [chk_ok HC.out h16]; rfl, HB.out⟩
end Go.Proofs.YtoekdeoekcmpgaaGreatDoor

namespace Go.Proofs.YtoekdeoekcmpgaaGreatDoor
open Go.ChangeShapes Go.WideShapes Go.ChangeAt Go.RowKit
set_option linter.unusedVariables false

theorem blk_cell {w : World} {b : Nat} {cs : Array Value} {t : TypeId} (h : w.heap[b]? = some (.cells cs t (0, 0))) (i : Nat) : w.cell? ⟨b, i, none⟩ = cs[i]? := by
  unfold World.cell?
  simp only [h]
  rfl

/-- A row's cells. -/
def rowCell (K N : Nat → Int) (T : Nat → ByteArray) (j : Nat) : Value := if j % 3 = 0 then .int .i64 (K (j / 3)) else if j % 3 = 1 then .int .i64 (N (j / 3)) else .string (T (j / 3))
def rowCells (len : Nat) (K N : Nat → Int) (T : Nat → ByteArray) : List Value := (List.range (len * 3)).map (rowCell K N T)
theorem rowCells_length {len : Nat} {K N : Nat → Int} {T : Nat → ByteArray} : (rowCells len K N T).length = len * 3 := by simp [rowCells]
theorem rowCells_at {len : Nat} {K N : Nat → Int} {T : Nat → ByteArray} {j : Nat} (h : j < len * 3) : (rowCells len K N T)[j]? = some (rowCell K N T j) := by simp [rowCells, h]
theorem rowCell0 {K N : Nat → Int} {T : Nat → ByteArray} (i : Nat) : rowCell K N T (i * 3) = .int .i64 (K i) := by
  unfold rowCell
  rw [if_pos (by omega), show i * 3 / 3 = i by omega]
theorem rowCell1 {K N : Nat → Int} {T : Nat → ByteArray} (i : Nat) : rowCell K N T (i * 3 + 1) = .int .i64 (N i) := by
  unfold rowCell
  rw [if_neg (by omega), if_pos (by omega), show (i * 3 + 1) / 3 = i by omega]
theorem rowCell2 {K N : Nat → Int} {T : Nat → ByteArray} (i : Nat) : rowCell K N T (i * 3 + 2) = .string (T i) := by
  unfold rowCell
  rw [if_neg (by omega), if_neg (by omega), show (i * 3 + 2) / 3 = i by omega]
theorem RowAt.cells {w : World} {b o len : Nat} {K N : Nat → Int} {T : Nat → ByteArray} (h : RowAt w b o len K N T) (j : Nat) (v : Value) (hj : (rowCells len K N T)[j]? = some v) : w.cell? ((⟨b, o, none⟩ : Addr).add j) = some v := by
  have hl : j < len * 3 := by
    have := (List.getElem?_eq_some_iff.1 hj).1
    rwa [rowCells_length] at this
  rw [rowCells_at hl] at hj
  obtain rfl := Option.some.inj hj
  have hi : j / 3 < len := by omega
  have e : (⟨b, o, none⟩ : Addr).add j = ⟨b, o + j, none⟩ := by
    unfold Addr.add
    split
    · subst_vars; rfl
    · rfl
  rw [e]
  obtain ⟨c0, c1, c2⟩ := h (j / 3) hi
  rcases (by omega : j = j / 3 * 3 ∨ j = j / 3 * 3 + 1 ∨ j = j / 3 * 3 + 2) with q | q | q
  · rw [q, rowCell0, ← c0]
  · rw [q, rowCell1, ← c1, ← Nat.add_assoc]
  · rw [q, rowCell2, ← c2, ← Nat.add_assoc]
theorem row_of_block {w : World} {b len : Nat} {K N : Nat → Int} {T : Nat → ByteArray} {z : Array Value} {t : TypeId} (h : w.heap[b]? = some (.cells ((rowCells len K N T).toArray ++ z) t (0, 0))) : RowAt w b 0 len K N T := by
  intro i hi
  have at' : ∀ j, j < len * 3 → w.cell? ⟨b, j, none⟩ = some (rowCell K N T j) := fun j hj => by
    rw [blk_cell h, Array.getElem?_append_left (by simpa [rowCells_length] using hj)]
    simpa using rowCells_at hj
  refine ⟨?_, ?_, ?_⟩
  · rw [Nat.zero_add, at' _ (by omega), rowCell0]
  · rw [Nat.zero_add, at' _ (by omega), rowCell1]
  · rw [Nat.zero_add, at' _ (by omega), rowCell2]

theorem infoV3 : ∃ i, Tryz.prog.info? 24 = some i ∧ i.zero = some (.agg #[.int .i64 0, .int .i64 0, .string ⟨#[]⟩]) ∧ i.size = 3 ∧ i.bytes = 32 := by
  have h : (Tryz.prog.info? 24).map (fun i => (i.zero, i.size, i.bytes)) = some (some (.agg #[.int .i64 0, .int .i64 0, .string ⟨#[]⟩]), 3, 32) := by kernel_rfl
  obtain ⟨i, h1, h2⟩ := Option.map_eq_some_iff.1 h
  simp only [Prod.mk.injEq] at h2
  exact ⟨i, h1, h2.1, h2.2.1, h2.2.2⟩

theorem wp_run2 {ops : Array Oper} {rest : List Oper} {o : Oper} {a : Act} {Q : Exit → Act → World → Prop} {w : World} (hgd : o.guard = none) (sl x : Operand) (t u : TypeId)
    (ho : o.op = .call { callee := .builtin .append, args := #[sl, x], argTypes := #[t, u] }) (v xv v' : Value) (w' : World) (hs : a.eval sl = v) (hx : a.eval x = xv)
    (hr : (Builtin.append_ #[t, u] o.type #[v, xv]).run Tryz.prog w = .ok v' w') (h : wpList Tryz.prog ops Q rest (a.put o.dst v') w') : wpList Tryz.prog ops Q (o :: rest) a w := by
  refine wpList_plain hgd fun K hK => ?_
  unfold Oper.wp execOp
  simp only [ho, resolve, invoke, builtin, Sem.run_bind, Sem.run_pure, Result.andThen_ok, List.map_toArray, List.map_cons, List.map_nil, hs, hx, hr]
  exact hK _ _ h

set_option maxRecDepth 10000 in
theorem copy_some (b o len cap : Nat) (K N : Nat → Int) (T : Nat → ByteArray) (h0 : 0 < len) (hlen : len * 32 ≤ 140737488355328) (w : World) (h : RowAt w b o len K N T) : Calls Tryz.prog 21 #[.slice (some ⟨b, o, none⟩) len cap] w fun e w' => ∃ g c, e = .returned (.slice (some ⟨g, 0, none⟩) len c) ∧ RowAt w' g 0 len K N T ∧ Below w.heap.size w w' := by
  obtain ⟨i, hi, hz, hs, hb⟩ := infoV3
  have hap := fun ty => run_append_nil (P := Tryz.prog) w 42 ty 24 i _ Tryz.underlying42 hi hz ⟨b, o, none⟩ len cap (rowCells len K N T) (by rw [rowCells_length, hs]) h.cells h0 (by omega) (by rw [hb]; omega)
  obtain ⟨v', w', hv, hw⟩ : ∃ (v' : Value) (w' : World), v' = .slice (some ⟨w.heap.size, 0, none⟩) len (grownCap w len 0 24) ∧ w' = (w.drew.alloc (.cells ((rowCells len K N T).toArray ++ Builtin.zeroCells (Value.agg #[.int .i64 0, .int .i64 0, .string ⟨#[]⟩]).cells (grownCap w len 0 24 - len)) 24)) := ⟨_, _, rfl, rfl⟩
  have HAP : Hid (∀ ty, (Builtin.append_ #[42, 42] ty #[.slice none 0 0, .slice (some ⟨b, o, none⟩) len cap]).run Tryz.prog w = .ok v' w') := fun ty => by rw [hv, hw]; exact hap ty
  have HW : Hid (w' = _) := hw
  have HV : Hid (v' = _) := hv
  clear hi hz hs hb hap hw hv
  go_enter Tryz.func21, Tryz.ntmps21
  go_wp2_with (first
    | (at_builtin; refine wp_run2 (by rfl) _ _ _ _ (by rfl) _ _ v' w' (by rfl) (by rfl) (HAP.out _) ?_))
  go_ret
  refine ⟨_, _, congrArg Ending.returned HV.out, ?_, ?_⟩
  · rw [HW.out]
    exact row_of_block (heap_alloc_new _ _)
  · rw [HW.out]
    exact (Below.refl _ w).drew.alloc (Nat.le_refl _) _
theorem rcheck_none (w : World) : Calls Tryz.prog 53 #[.slice none 0 0] w fun e w' => e = .returned (.int .i64 0) ∧ w = w' := by
  go_enter Tryz.func53, Tryz.ntmps53
  go_wp2
  refine wp_loop_rounds 1 ?_
  rw [rounds_succ]
  go_wp2
  go_ret
  exact ⟨rfl, rfl⟩
theorem rcheck_empty (a : Addr) (cap : Nat) (w : World) : Calls Tryz.prog 53 #[.slice (some a) 0 cap] w fun e w' => e = .returned (.int .i64 0) ∧ w = w' := by
  go_enter Tryz.func53, Tryz.ntmps53
  go_wp2
  refine wp_loop_rounds 1 ?_
  rw [rounds_succ]
  go_wp2
  go_ret
  exact ⟨rfl, rfl⟩
theorem copy_none (w : World) : Calls Tryz.prog 21 #[.slice none 0 0] w fun e w' => e = .returned (.slice none 0 0) ∧ w = w' := by
  go_enter Tryz.func21, Tryz.ntmps21
  go_wp2
  go_ret
  exact ⟨rfl, rfl⟩
theorem copy_empty (a : Addr) (cap : Nat) (w : World) : Calls Tryz.prog 21 #[.slice (some a) 0 cap] w fun e w' => e = .returned (.slice none 0 0) ∧ w = w' := by
  go_enter Tryz.func21, Tryz.ntmps21
  go_wp2
  go_ret
  exact ⟨rfl, rfl⟩
end Go.Proofs.YtoekdeoekcmpgaaGreatDoor
