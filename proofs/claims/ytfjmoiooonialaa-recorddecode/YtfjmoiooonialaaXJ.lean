/- The document's copy of a row; its Check and its copy of no values. -/
import Derived.Test.YtfjmoiooonialaaXA
import Derived.Laws.Append
namespace Go.Proofs.Ytfjmoiooonialaa
open Go.ChangeShapes Go.WideShapes Go.ChangeAt Go.RowKit
set_option linter.unusedVariables false

theorem blk_cell {w : World} {b : Nat} {cs : Array Value} {t : TypeId} (h : w.heap[b]? = some (.cells cs t (0, 0))) (i : Nat) : w.cell? ⟨b, i, none⟩ = cs[i]? := by
  unfold World.cell?
  simp only [h]
  rfl

/-- A row's cells. -/
def rowCell (K N : Nat → Int) (T : Nat → ByteArray) (j : Nat) : Value := if j % 3 = 0 then .int .i64 (K (j / 3)) else if j % 3 = 1 then .int .i64 (N (j / 3)) else .string (T (j / 3))
def rowCells (len : Nat) (K N : Nat → Int) (T : Nat → ByteArray) : List Value := (List.range (len * 3)).map (rowCell K N T)
theorem rowCells_length {len : Nat} {K N : Nat → Int} {T : Nat → ByteArray} : (rowCells len K N T).length = len * 3 := by simp [rowCells]
theorem rowCells_at {len : Nat} {K N : Nat → Int} {T : Nat → ByteArray} {j : Nat} (h : j < len * 3) : (rowCells len K N T)[j]? = some (rowCell K N T j) := by simp [rowCells, h]
theorem rowCell0 {K N : Nat → Int} {T : Nat → ByteArray} (i : Nat) : rowCell K N T (i * 3) = .int .i64 (K i) := by
  unfold rowCell
  rw [if_pos (by omega), show i * 3 / 3 = i by omega]
theorem rowCell1 {K N : Nat → Int} {T : Nat → ByteArray} (i : Nat) : rowCell K N T (i * 3 + 1) = .int .i64 (N i) := by
  unfold rowCell
  rw [if_neg (by omega), if_pos (by omega), show (i * 3 + 1) / 3 = i by omega]
theorem rowCell2 {K N : Nat → Int} {T : Nat → ByteArray} (i : Nat) : rowCell K N T (i * 3 + 2) = .string (T i) := by
  unfold rowCell
  rw [if_neg (by omega), if_neg (by omega), show (i * 3 + 2) / 3 = i by omega]
theorem RowAt.cells {w : World} {b o len : Nat} {K N : Nat → Int} {T : Nat → ByteArray} (h : RowAt w b o len K N T) (j : Nat) (v : Value) (hj : (rowCells len K N T)[j]? = some v) : w.cell? ((⟨b, o, none⟩ : Addr).add j) = some v := by
  have hl : j < len * 3 := by
    have := (List.getElem?_eq_some_iff.1 hj).1
    rwa [rowCells_length] at this
  rw [rowCells_at hl] at hj
  obtain rfl := Option.some.inj hj
  have hi : j / 3 < len := by omega
  have e : (⟨b, o, none⟩ : Addr).add j = ⟨b, o + j, none⟩ := by
    unfold Addr.add
    split
    · subst_vars; rfl
    · rfl
  rw [e]
  obtain ⟨c0, c1, c2⟩ := h (j / 3) hi
  rcases (by omega : j = j / 3 * 3 ∨ j = j / 3 * 3 + 1 ∨ j = j / 3 * 3 + 2) with q | q | q
  · rw [q, rowCell0, ← c0]
  · rw [q, rowCell1, ← c1, ← Nat.add_assoc]
  · rw [q, rowCell2, ← c2, ← Nat.add_assoc]
theorem row_of_block {w : World} {b len : Nat} {K N : Nat → Int} {T : Nat → ByteArray} {z : Array Value} {t : TypeId} (h : w.heap[b]? = some (.cells ((rowCells len K N T).toArray ++ z) t (0, 0))) : RowAt w b 0 len K N T := by
  intro i hi
  have at' : ∀ j, j < len * 3 → w.cell? ⟨b, j, none⟩ = some (rowCell K N T j) := fun j hj => by
    rw [blk_cell h, Array.getElem?_append_left (by simpa [rowCells_length] using hj)]
    simpa using rowCells_at hj
  refine ⟨?_, ?_, ?_⟩
  · rw [Nat.zero_add, at' _ (by omega), rowCell0]
  · rw [Nat.zero_add, at' _ (by omega), rowCell1]
  · rw [Nat.zero_add, at' _ (by omega), rowCell2]

theorem infoV3 : ∃ i, Try.prog.info? 46 = some i ∧ i.zero = some (.agg #[.int .i64 0, .int .i64 0, .string ⟨#[]⟩]) ∧ i.size = 3 ∧ i.bytes = 32 := by
  have h : (Try.prog.info? 46).map (fun i => (i.zero, i.size, i.bytes)) = some (some (.agg #[.int .i64 0, .int .i64 0, .string ⟨#[]⟩]), 3, 32) := by kernel_rfl
  obtain ⟨i, h1, h2⟩ := Option.map_eq_some_iff.1 h
  simp only [Prod.mk.injEq] at h2
  exact ⟨i, h1, h2.1, h2.2.1, h2.2.2⟩

theorem wp_run2 {ops : Array Oper} {rest : List Oper} {o : Oper} {a : Act} {Q : Exit → Act → World → Prop} {w : World} (hgd : o.guard = none) (sl x : Operand) (t u : TypeId)
    (ho : o.op = .call { callee := .builtin .append, args := #[sl, x], argTypes := #[t, u] }) (v xv v' : Value) (w' : World) (hs : a.eval sl = v) (hx : a.eval x = xv)
    (hr : (Builtin.append_ #[t, u] o.type #[v, xv]).run Try.prog w = .ok v' w') (h : wpList Try.prog ops Q rest (a.put o.dst v') w') : wpList Try.prog ops Q (o :: rest) a w := by
  refine wpList_plain hgd fun K hK => ?_
  unfold Oper.wp execOp
  simp only [ho, resolve, invoke, builtin, Sem.run_bind, Sem.run_pure, Result.andThen_ok, List.map_toArray, List.map_cons, List.map_nil, hs, hx, hr]
  exact hK _ _ h

end Go.Proofs.Ytfjmoiooonialaa
