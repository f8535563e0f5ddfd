/- Package space: the first page is read. -/
import Derived.Test.YtadohcgplbihdabGreatSC
import Derived.Test.YtadohcgplbihdabGreatOH
namespace Go.Proofs.YtadohcgplbihdabGreat
open Go.ChangeShapes Go.WideShapes Go.ChangeAt Go.RowKit Go.Maps Go.Shelf
set_option linter.unusedVariables false
attribute [local go_sem] Oper.semAt_some

theorem wpIn_storeB {F : Fence} {n : Nat} {ops : Array Oper} {rest : List Oper} {o : Oper} {a : Act} {Q : Exit → Act → World → Prop} {w : World} {g : Nat} {t : TypeId} {c z : Array Value} (hi : (Tryz.prog.info? t).map (·.size) = some c.size) (hs : c.size = z.size) (h1 : c.all (·.oneCell') = true) (hg : Blk w g z t) (x y : Operand)
    (hgd : o.guard = none) (ho : o.op = .store t x y) (hx : a.eval x = .pointer (some ⟨g, 0, none⟩)) (hy : a.eval y = .agg c)
    (hk : ∀ W', Blk W' g c t → Only [g] w W' → KeepsOthers w W' → wpListIn F n Tryz.prog ops Q rest (a.put o.dst undef) W') : wpListIn F n Tryz.prog ops Q (o :: rest) a w := by
  refine wpListIn_plain hgd fun K hK' => ?_
  unfold Oper.wpIn
  refine ⟨by simp [Oper.about, ho], ?_⟩
  rw [Oper.semAt_plain F _ _ (by rw [ho]; intro c hc'; cases hc')]
  unfold execOp
  simp only [ho, hx, hy, Instr.storeAt, Instr.sureAddr, Sem.run_bind, Sem.run_pure, Result.andThen_ok, run_storeVar_row w g t t z c hg hi hs.symm h1]
  refine hK' _ _ (hk _ (setRow_heap w g _ _ _ _ hg) ⟨rfl, rfl, rfl, by simp [World.setRow], fun k _ hk => heap_setRow w g _ k (fun e => hk (by simp [e]))⟩ ⟨by simp [World.setRow], fun k o hq ho => ?_⟩)
  rw [heap_setRow w g _ k (fun e => ?_)]
  · exact hq
  · subst e; rw [show w.heap[k]? = _ from hg] at hq; cases hq; cases ho
theorem wpIn_loadB {F : Fence} {n : Nat} {ops : Array Oper} {rest : List Oper} {o : Oper} {a : Act} {Q : Exit → Act → World → Prop} {w : World} {g : Nat} {t : TypeId} {c : Array Value} (hi : (Tryz.prog.info? t).map (·.size) = some c.size) (hu : ∃ d, Tryz.prog.underlying t = some d ∧ d.isRow = true) (hg : Blk w g c t) (x : Operand)
    (hgd : o.guard = none) (ho : o.op = .load t x) (hx : a.eval x = .pointer (some ⟨g, 0, none⟩)) (h : wpListIn F n Tryz.prog ops Q rest (a.put o.dst (.agg c)) w) : wpListIn F n Tryz.prog ops Q (o :: rest) a w := by
  obtain ⟨d, hd, hr⟩ := hu
  have hld := run_loadVar_mid (P := Tryz.prog) w g 0 t c.toList d hg.range hd hr (by simpa using hi)
  refine wpListIn_plain hgd fun K hK' => ?_
  unfold Oper.wpIn
  refine ⟨by simp [Oper.about, ho], ?_⟩
  rw [Oper.semAt_plain F _ _ (by rw [ho]; intro c hc'; cases hc')]
  unfold execOp
  simp only [ho, hx, Instr.loadAt, Instr.sureAddr, Sem.run_bind, Sem.run_pure, Result.andThen_ok, hld]
  exact hK' _ _ h
theorem blk_own {β : Type} (B : Nat) (t : TypeId) (f : β → Array Value) : Own (fun s W => Blk W B (f s) t) := fun s X Y row hv hg hrow =>
  (hg.block B (Blk.lt hv) (fun e' => by obtain ⟨o, ho, hc⟩ := hrow B e'.symm; rw [show X.heap[B]? = _ from hv] at ho; cases ho; cases hc)).trans hv

/-- A cell is as it must be in a first page. -/
def good (S : Nat → ByteArray) (i : Nat) : Prop := if i = 0 then S 0 = markS else (S i).size = 4
/-- The numbers that have been read. -/
def upN (S : Nat → ByteArray) (pre : List (Fin 9)) : Nat → Nat := fun i => if (i + 1) ∈ pre.map (·.val) then numS (S (i + 1)) else 0
def zN : Nat → Nat := fun _ => 0
def RdC (w : World) (b1 b2 sz : Nat) (E : Int) (W : World) : Prop := FstB W b1 0 zN ∧ Blk W b2 #[.int .i64 E] 27 ∧ Below w.heap.size w W ∧ sz ≤ W.heap.size
def RdI (w : World) (S : Nat → ByteArray) (L g b1 b2 sz : Nat) (pre : List (Fin 9)) (W : World) : Prop := (∀ x ∈ pre, good S x.val) ∧ FstB W g L (upN S pre) ∧ RdC w b1 b2 sz 0 W
def RdX (w : World) (S : Nat → ByteArray) (b1 b2 sz : Nat) (c : Code) (pre : List (Fin 9)) (W : World) : Prop := c = .ret ∧ (∃ i, i < 9 ∧ ¬ good S i) ∧ RdC w b1 b2 sz 8 W
theorem rdC_own {β : Type} (w : World) (b1 b2 sz B : Nat) (E : Int) (h : w.heap.size ≤ B) : OwnFrom B (fun (_ : β) W => RdC w b1 b2 sz E W) :=
  OwnFrom.and (Own.from (blk_own b1 _ (fun _ : β => (fstL 0 zN).toArray)) _) (OwnFrom.and (Own.from (blk_own b2 _ (fun _ : β => #[.int .i64 E])) _) (OwnFrom.and (ownFrom_below (Nat.le_refl _) h) (fun s X Y row hs hg _ => Nat.le_trans hs hg.size)))
theorem rdI_own (w : World) (S : Nat → ByteArray) (L g b1 b2 sz B : Nat) (h : w.heap.size ≤ B) : OwnFrom B (RdI w S L g b1 b2 sz) :=
  OwnFrom.and (ownFrom_pure _ _) (OwnFrom.and (Own.from (blk_own g _ (fun pre : List (Fin 9) => (fstL L (upN S pre)).toArray)) _) (rdC_own w b1 b2 sz B 0 h))
theorem rdX_own (w : World) (S : Nat → ByteArray) (b1 b2 sz B : Nat) (c : Code) (h : w.heap.size ≤ B) : OwnFrom B (RdX w S b1 b2 sz c) :=
  OwnFrom.and (ownFrom_pure _ _) (OwnFrom.and (ownFrom_pure _ _) (rdC_own w b1 b2 sz B 8 h))
theorem fst_set (L : Nat) (N : Nat → Nat) {k : Nat} (hk : k < 8) (x : Nat) : (fstL L N).toArray.setIfInBounds (1 + k) (.int .u32 (x : Int)) = (fstL L (fun i => if i = k then x else N i)).toArray := by
  rw [Nat.add_comm]
  simp only [fstL, List.setIfInBounds_toArray, List.set_cons_succ]
  congr 2
  apply List.ext_getElem?
  intro i
  rw [List.getElem?_set]
  by_cases e : k = i
  · subst e
    simp [nmL, hk]
  · rw [if_neg e]
    by_cases hi : i < 8
    · rw [nmL_get N hi, nmL_get _ hi, if_neg (Ne.symm e)]
    · simp [nmL, hi]
theorem upN_snoc0 (S : Nat → ByteArray) (pre : List (Fin 9)) (x : Fin 9) (h : x.val = 0) : upN S (pre ++ [x]) = upN S pre := by
  funext i
  unfold upN
  simp [h]
theorem upN_snoc (S : Nat → ByteArray) (pre : List (Fin 9)) (x : Fin 9) {k : Nat} (h : x.val = k + 1) : upN S (pre ++ [x]) = fun i => if i = k then numS (S x.val) else upN S pre i := by
  funext i
  unfold upN
  by_cases e : i = k
  · subst e
    simp [h]
  · simp [h, e]
theorem upN_all (S : Nat → ByteArray) : ∀ i, i < 8 → upN S (List.finRange 9) i = numS (S (i + 1)) := fun i hi => by
  unfold upN
  rw [if_pos (List.mem_map.2 ⟨⟨i + 1, by omega⟩, List.mem_finRange _, rfl⟩)]
theorem fst_congr (L : Nat) {N M : Nat → Nat} (h : ∀ i, i < 8 → N i = M i) : fstL L N = fstL L M := by
  unfold fstL nmL
  congr 1
  apply List.map_congr_left
  intro i hi
  rw [h i (by simpa using hi)]
end Go.Proofs.YtadohcgplbihdabGreat
