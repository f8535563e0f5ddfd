/- A run of one cell; a page of cells. -/
import Derived.Test.YtenfjbcigkolaaaGreatGG
import Derived.Laws.OwnMore
namespace Go.Proofs.YtenfjbcigkolaaaGreat
open Go.ChangeShapes Go.WideShapes Go.ChangeAt Go.RowKit
set_option linter.unusedVariables false

/-- The length of a cell, as a text. -/
def lenS (s : ByteArray) : ByteArray := ⟨#[UInt8.ofNat s.size]⟩
/-- A piece of memory as a text. -/
theorem conv_piece (W : World) (g x cap : Nat) (l : List UInt8) (h : ∀ j, j < l.length → W.cell? ⟨g, x + j, none⟩ = some (.int .u8 (byt l j : Int))) : (convert 53 9 (.slice (some ⟨g, x, none⟩) l.length cap)).run Tryz.prog W = .ok (.string ⟨l.toArray⟩) W := by
  refine run_convert_bytes_back W _ _ 5 ⟨g, x, none⟩ cap l Tryz.underlying53 Tryz.underlying5 Tryz.underlying9 ?_
  intro j hj
  have e : (⟨g, x, none⟩ : Addr).add j = ⟨g, x + j, none⟩ := by unfold Addr.add; split <;> simp_all
  rw [e, h j hj]
  simp [byt, hj]
theorem ret_run {W : World} {g j : Nat} {fn : Func} (hres : fn.results = #[.cell j 272]) {tmps : Array Value} (ht : tmps.getD j undef = .pointer (some ⟨g, 0, none⟩)) {a b : Value}
    (hg : W.heap[g]? = some (.cells #[a, b] 272 (0, 0))) {R : Ending → World → Prop} (h : R (.returned (.agg #[a, b])) W) : bodyPost Tryz.prog fn R Exit.ret { tmps := tmps, defers := [] } W :=
  bodyPost_ret (v := .agg #[a, b]) (results_cell_row hres _ _ g 272 _ (0, 0) _ ht hg Tryz.underlying272 rfl (by kernel_rfl)) rfl h

set_option maxRecDepth 20000 in
set_option maxHeartbeats 1000000 in
theorem single_walk (s : ByteArray) (hs : s.size ≤ 60) (w : World) :
    Calls Tryz.prog 177 #[.string s] w fun e w' => e = .returned (.agg #[.string (lenS s), .string s]) ∧ Below w.heap.size w w' := by
  have e1 : IntKind.u8.wrap (s.size : Int) = (s.size : Int) := by rw [IntKind.wrap_u8]; omega
  have hcv : (convert 53 9 (.slice (some ⟨w.heap.size + 1, 0, none⟩) 1 1)).run Tryz.prog ((w.alloc (.cells #[.string ⟨#[]⟩, .string ⟨#[]⟩] 272)).alloc (.cells #[.int .u8 (s.size : Int)] 5)) = .ok (.string (lenS s)) ((w.alloc (.cells #[.string ⟨#[]⟩, .string ⟨#[]⟩] 272)).alloc (.cells #[.int .u8 (s.size : Int)] 5)) := by
    refine conv_piece _ (w.heap.size + 1) 0 1 [UInt8.ofNat s.size] (fun j hj => ?_)
    have hj0 : j = 0 := by simpa using hj
    subst hj0
    have h := heap_alloc2_new w (.cells #[.string ⟨#[]⟩, .string ⟨#[]⟩] 272) (.cells #[.int .u8 (s.size : Int)] 5)
    rw [cell_of_row _ _ _ _ _ _ h]
    simp [byt]
    omega
  go_enter Tryz.func177, Tryz.ntmps177
  go_wp2
  exact ret_run Tryz.results177 rfl (heap_alloc2_old w _ _) ⟨rfl, below_trans (new_below w _ rfl) (new_below _ _ rfl)⟩

/-- The cells of runs of one cell each. -/
def rcl (S : Nat → ByteArray) (n : Nat) : List Value := (List.range (n * 2)).map fun j => if j % 2 = 0 then .string (lenS (S (j / 2))) else .string (S (j / 2))
theorem rcl_succ (S : Nat → ByteArray) (n : Nat) : rcl S (n + 1) = rcl S n ++ [.string (lenS (S n)), .string (S n)] := by
  unfold rcl
  rw [show (n + 1) * 2 = n * 2 + 1 + 1 by omega, List.range_succ, List.range_succ]
  simp only [List.map_append, List.map_cons, List.map_nil, List.append_assoc, List.cons_append, List.nil_append]
  rw [if_pos (by omega), if_neg (by omega), show n * 2 / 2 = n by omega, show (n * 2 + 1) / 2 = n by omega]
theorem rcl_at (S : Nat → ByteArray) {n i : Nat} (h : i < n) : (rcl S n)[i * 2]? = some (.string (lenS (S i))) ∧ (rcl S n)[i * 2 + 1]? = some (.string (S i)) := by
  unfold rcl
  rw [List.getElem?_map, List.getElem?_map, List.getElem?_range (by omega), List.getElem?_range (by omega)]
  simp only [Option.map_some]
  rw [if_pos (by omega), if_neg (by omega), show i * 2 / 2 = i by omega, show (i * 2 + 1) / 2 = i by omega]
  exact ⟨rfl, rfl⟩
theorem runs_of_own {w : World} {base g n cap : Nat} {S : Nat → ByteArray} (h : w.ownsRow base 272 2 (.slice (some ⟨g, 0, none⟩) n cap) n (rcl S n)) : RunsAt w g 0 n (fun i => lenS (S i)) S := by
  intro i hi
  obtain ⟨h1, h2⟩ := rcl_at S hi
  have c1 := h.cells (g := g) rfl _ _ h1
  have c2 := h.cells (g := g) rfl _ _ h2
  have e : ∀ j, (⟨g, 0, none⟩ : Addr).add j = ⟨g, j, none⟩ := fun j => by unfold Addr.add; split <;> simp_all
  rw [e] at c1 c2
  simp only [Nat.zero_add]
  exact ⟨c1, c2⟩
theorem run_info : ∃ i, Tryz.prog.info? 272 = some i ∧ i.zero = some (.agg #[.string ⟨#[]⟩, .string ⟨#[]⟩]) ∧ i.size = 2 ∧ i.bytes = 32 := by
  have h : (Tryz.prog.info? 272).map (fun i => (i.zero, i.size, i.bytes)) = some (some (.agg #[.string ⟨#[]⟩, .string ⟨#[]⟩]), 2, 32) := by kernel_rfl
  obtain ⟨i, h1, h2⟩ := Option.map_eq_some_iff.1 h
  simp only [Prod.mk.injEq] at h2
  exact ⟨i, h1, h2.1, h2.2.1, h2.2.2⟩
/-- One run more. -/
theorem wp_appR {ops : Array Oper} {rest : List Oper} {o : Oper} {a : Act} {Q : Exit → Act → World → Prop} {w : World} {base g n cap : Nat} {xs : List Value} (hown : w.ownsRow base 272 2 (.slice (some ⟨g, 0, none⟩) n cap) n xs) {h : Nat} {A B : ByteArray}
    (hc : w.heap[h]? = some (.cells #[.string A, .string B] 272 (0, 0))) (hroom : n + 1 ≤ cap) (s z : Operand)
    (hgd : o.guard = none) (ho : o.op = .call { callee := .builtin .append, args := #[s, z], argTypes := #[270, 270] }) (hs : a.eval s = .slice (some ⟨g, 0, none⟩) n cap) (hz : a.eval z = .slice (some ⟨h, 0, none⟩) 1 1)
    (hk : ∀ w', w'.ownsRow base 272 2 (.slice (some ⟨g, 0, none⟩) (n + 1) cap) (n + 1) (xs ++ [.string A, .string B]) → w.grownBy w' (some g) → wpList Tryz.prog ops Q rest (a.put o.dst (.slice (some ⟨g, 0, none⟩) (n + 1) cap)) w') : wpList Tryz.prog ops Q (o :: rest) a w := by
  obtain ⟨i, hi, hz0, hsz, hby⟩ := run_info
  obtain ⟨w', hr, h2, h3⟩ := run_append_fits (P := Tryz.prog) w base 270 o.type 272 i 2 Tryz.underlying270 hi hsz g n cap xs hown ⟨h, 0, none⟩ 1 1 [.string A, .string B] rfl (by
    intro j u hu
    have e : (⟨h, 0, none⟩ : Addr).add j = ⟨h, j, none⟩ := by unfold Addr.add; split <;> simp_all
    rw [e, cell_of_row _ _ _ _ _ _ hc]
    simpa using hu) (by
    intro u hu
    simp at hu
    rcases hu with rfl | rfl <;> rfl) hroom
  refine wpList_plain hgd fun K hK => ?_
  unfold Oper.wp execOp
  simp only [ho, resolve, invoke, builtin, Sem.run_bind, Sem.run_pure, Result.andThen_ok, List.map_toArray, List.map_cons, List.map_nil, hs, hz, hr]
  exact hK _ _ (hk w' h2 h3)
end Go.Proofs.YtenfjbcigkolaaaGreat
