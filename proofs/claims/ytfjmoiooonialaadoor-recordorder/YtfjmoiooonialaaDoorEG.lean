/- The walk of RecordCmp. -/
import Derived.Test.YtfjmoiooonialaaDoorEF
import Derived.Test.YtfjmoiooonialaaDoorEC
import Derived.Test.YtfjmoiooonialaaDoorSU
namespace Go.Proofs.YtfjmoiooonialaaDoor
open Go.ChangeShapes Go.WideShapes Go.ChangeAt Go.RowKit
set_option linter.unusedVariables false

theorem order_info : ∃ i, Tryd.prog.info? 29 = some i ∧ i.zero = some (.agg #[.int .i64 0, .bool false]) ∧ i.size = 2 ∧ i.bytes = 16 := by
  have h : (Tryd.prog.info? 29).map (fun i => (i.zero, i.size, i.bytes)) = some (some (.agg #[.int .i64 0, .bool false]), 2, 16) := by kernel_rfl
  obtain ⟨i, h1, h2⟩ := Option.map_eq_some_iff.1 h
  simp only [Prod.mk.injEq] at h2
  exact ⟨i, h1, h2.1, h2.2.1, h2.2.2⟩
/-- The cells of orders. -/
def ordCell (C : Nat → Int) (D : Nat → Bool) (j : Nat) : Value := if j % 2 = 0 then .int .i64 (C (j / 2)) else .bool (D (j / 2))
def ordCells (len : Nat) (C : Nat → Int) (D : Nat → Bool) : List Value := (List.range (len * 2)).map (ordCell C D)
theorem ordCells_length {len : Nat} {C : Nat → Int} {D : Nat → Bool} : (ordCells len C D).length = len * 2 := by simp [ordCells]
theorem ordCells_at {len : Nat} {C : Nat → Int} {D : Nat → Bool} {j : Nat} (h : j < len * 2) : (ordCells len C D)[j]? = some (ordCell C D j) := by simp [ordCells, h]
theorem ordCell0 {C : Nat → Int} {D : Nat → Bool} (i : Nat) : ordCell C D (i * 2) = .int .i64 (C i) := by
  unfold ordCell
  rw [if_pos (by omega), show i * 2 / 2 = i by omega]
theorem ordCell1 {C : Nat → Int} {D : Nat → Bool} (i : Nat) : ordCell C D (i * 2 + 1) = .bool (D i) := by
  unfold ordCell
  rw [if_neg (by omega), show (i * 2 + 1) / 2 = i by omega]
theorem ordCell_one {C : Nat → Int} {D : Nat → Bool} {n : Nat} : ∀ u ∈ ordCells n C D, u.oneCell' = true := by
  intro u hu
  simp only [ordCells, List.mem_map] at hu
  obtain ⟨i, _, rfl⟩ := hu
  unfold ordCell
  split <;> rfl
theorem OrdAt.cells {w : World} {b o len : Nat} {C : Nat → Int} {D : Nat → Bool} (h : OrdAt w b o len C D) (j : Nat) (v : Value) (hj : (ordCells len C D)[j]? = some v) : w.cell? ((⟨b, o, none⟩ : Addr).add j) = some v := by
  have hl : j < len * 2 := by
    have := (List.getElem?_eq_some_iff.1 hj).1
    rwa [ordCells_length] at this
  rw [ordCells_at hl] at hj
  obtain rfl := Option.some.inj hj
  have hi : j / 2 < len := by omega
  have e : (⟨b, o, none⟩ : Addr).add j = ⟨b, o + j, none⟩ := by
    unfold Addr.add
    split
    · subst_vars; rfl
    · rfl
  rw [e]
  obtain ⟨c0, c1⟩ := h (j / 2) hi
  rcases (by omega : j = j / 2 * 2 ∨ j = j / 2 * 2 + 1) with q | q
  · rw [q, ordCell0, ← c0]
  · rw [q, ordCell1, ← c1, ← Nat.add_assoc]
theorem own_ord {w : World} {base n : Nat} {v : Value} {C : Nat → Int} {D : Nat → Bool} (h : w.ownsRow base 29 2 v n (ordCells n C D)) (hv : v ≠ .slice none 0 0) : ∃ g o c, v = .slice (some ⟨g, o, none⟩) n c ∧ OrdAt w g o n C D := by
  rcases h.2 with ⟨h0, _⟩ | ⟨g, cap, cur, rfl, hbg, hg, hnc, hcm, hcs, htake⟩
  · exact absurd h0 hv
  have e : ∀ j, (⟨g, 0, none⟩ : Addr).add j = ⟨g, j, none⟩ := fun j => by unfold Addr.add; split <;> simp_all
  have hc := h.cells (g := g) rfl
  have at' : ∀ j, j < n * 2 → w.cell? ⟨g, j, none⟩ = some (ordCell C D j) := fun j hj => by
    have := hc j _ (ordCells_at hj)
    rwa [e] at this
  refine ⟨g, 0, cap, rfl, fun i hi => ⟨?_, ?_⟩⟩
  · rw [Nat.zero_add, at' _ (by omega), ordCell0]
  · rw [Nat.zero_add, at' _ (by omega), ordCell1]

theorem run_append_none (w : World) (ty : TypeId) (g c : Nat) : (Builtin.append_ #[23, 23] ty #[.slice (some ⟨g, 0, none⟩) 0 c, .slice none 0 0]).run Tryd.prog w = .ok (.slice (some ⟨g, 0, none⟩) 0 c) w := by
  obtain ⟨i, hi, hz, hs, hb⟩ := order_info
  simp [Builtin.append_, run_underlying Tryd.underlying23, sizeOf, typeInfo, hi, Builtin.lenOf, Builtin.firstCells, loadCells, loadCellsFrom, storeCells]

/-- All orders are appended to none. -/
theorem wp_appO {ops : Array Oper} {rest : List Oper} {o : Oper} {a : Act} {Q : Exit → Act → World → Prop} {w : World} (p : Option Addr) (lc cap : Nat) (hp : p = none → lc = 0 ∧ cap = 0) (C : Nat → Int) (D : Nat → Bool) (hn : lc * 16 ≤ 140737488355328) (hO : OrdP w p lc C D) (s z : Operand)
    (hgd : o.guard = none) (ho : o.op = .call { callee := .builtin .append, args := #[s, z], argTypes := #[23, 23] }) (hs : a.eval s = .slice (some ⟨w.heap.size, 0, none⟩) 0 0) (hz : a.eval z = .slice p lc cap)
    (hk : ∀ g oo c w', OrdAt w' g oo lc C D → Below w.heap.size w w' → wpList Tryd.prog ops Q rest (a.put o.dst (.slice (some ⟨g, oo, none⟩) lc c)) w') : wpList Tryd.prog ops Q (o :: rest) a (w.alloc (.cells #[] 29)) := by
  have hB := new_below w (.cells #[] 29) rfl
  cases p with
  | none =>
    obtain ⟨rfl, rfl⟩ := hp rfl
    exact wp_run2 hgd s z _ _ ho _ _ _ _ hs hz (run_append_none _ _ _ _) (hk _ _ _ _ (fun i hi => by omega) hB)
  | some ad =>
    obtain ⟨i, hi, hz0, hsz, hby⟩ := order_info
    have hown : (w.alloc (.cells #[] 29)).ownsRow w.heap.size 29 2 (.slice (some ⟨w.heap.size, 0, none⟩) 0 0) 0 [] := World.ownsRow_made w #[] 0 (Nat.le_refl _) (by simp [maxLen]) (by simp)
    refine wpList_append_own _ hgd s z 23 ho w.heap.size 29 i _ 2 16 Tryd.underlying23 hi hz0 hsz hby rfl (by omega) _ 0 [] hs hown ad lc cap (ordCells lc C D) hz ordCells_length ?_ ordCell_one (by simp only [maxLen]; omega) (by omega) hB.size (fun v' w' h2 h3 h4 => ?_)
    · by_cases h0 : lc = 0
      · subst h0
        intro j u hu
        simp [ordCells] at hu
      · obtain ⟨b, o', e, hr⟩ := hO (by omega)
        obtain rfl := Option.some.inj e
        exact (hr.later hB).cells
    · rw [Nat.zero_add, List.nil_append] at h2
      obtain ⟨g, oo, c, rfl, hr⟩ := own_ord h2 (fun e => by have := (h4.1 e).1; simp at this)
      refine hk g oo c w' hr (hB.grown h3 hB.size (fun k e => ?_))
      simp only [Value.ownBlock, Option.some.injEq] at e
      omega
end Go.Proofs.YtfjmoiooonialaaDoor
