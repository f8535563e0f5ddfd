/- Package space: the first page is read. -/
/- Package space: the first page is read: one of another kind or count. -/
import Derived.Test.YtenfjbcigkolaaaGreatSC
import Derived.Test.YtenfjbcigkolaaaGreatOH
namespace Go.Proofs.YtenfjbcigkolaaaGreat
open Go.ChangeShapes Go.WideShapes Go.ChangeAt Go.RowKit Go.Maps Go.Shelf
set_option linter.unusedVariables false
attribute [local go_sem] Oper.semAt_some

theorem wpIn_storeB {F : Fence} {n : Nat} {ops : Array Oper} {rest : List Oper} {o : Oper} {a : Act} {Q : Exit → Act → World → Prop} {w : World} {g : Nat} {t : TypeId} {c z : Array Value} (hi : (Tryz.prog.info? t).map (·.size) = some c.size) (hs : c.size = z.size) (h1 : c.all (·.oneCell') = true) (hg : Blk w g z t) (x y : Operand)
    (hgd : o.guard = none) (ho : o.op = .store t x y) (hx : a.eval x = .pointer (some ⟨g, 0, none⟩)) (hy : a.eval y = .agg c)
    (hk : ∀ W', Blk W' g c t → Only [g] w W' → KeepsOthers w W' → wpListIn F n Tryz.prog ops Q rest (a.put o.dst undef) W') : wpListIn F n Tryz.prog ops Q (o :: rest) a w := by
  refine wpListIn_plain hgd fun K hK' => ?_
  unfold Oper.wpIn
  refine ⟨by simp [Oper.about, ho], ?_⟩
  rw [Oper.semAt_plain F _ _ (by rw [ho]; intro c hc'; cases hc')]
  unfold execOp
  simp only [ho, hx, hy, Instr.storeAt, Instr.sureAddr, Sem.run_bind, Sem.run_pure, Result.andThen_ok, run_storeVar_row w g t t z c hg hi hs.symm h1]
  refine hK' _ _ (hk _ (setRow_heap w g _ _ _ _ hg) ⟨rfl, rfl, rfl, by simp [World.setRow], fun k _ hk => heap_setRow w g _ k (fun e => hk (by simp [e]))⟩ ⟨by simp [World.setRow], fun k o hq ho => ?_⟩)
  rw [heap_setRow w g _ k (fun e => ?_)]
  · exact hq
  · subst e; rw [show w.heap[k]? = _ from hg] at hq; cases hq; cases ho
theorem wpIn_loadB {F : Fence} {n : Nat} {ops : Array Oper} {rest : List Oper} {o : Oper} {a : Act} {Q : Exit → Act → World → Prop} {w : World} {g : Nat} {t : TypeId} {c : Array Value} (hi : (Tryz.prog.info? t).map (·.size) = some c.size) (hu : ∃ d, Tryz.prog.underlying t = some d ∧ d.isRow = true) (hg : Blk w g c t) (x : Operand)
    (hgd : o.guard = none) (ho : o.op = .load t x) (hx : a.eval x = .pointer (some ⟨g, 0, none⟩)) (h : wpListIn F n Tryz.prog ops Q rest (a.put o.dst (.agg c)) w) : wpListIn F n Tryz.prog ops Q (o :: rest) a w := by
  obtain ⟨d, hd, hr⟩ := hu
  have hld := run_loadVar_mid (P := Tryz.prog) w g 0 t c.toList d hg.range hd hr (by simpa using hi)
  refine wpListIn_plain hgd fun K hK' => ?_
  unfold Oper.wpIn
  refine ⟨by simp [Oper.about, ho], ?_⟩
  rw [Oper.semAt_plain F _ _ (by rw [ho]; intro c hc'; cases hc')]
  unfold execOp
  simp only [ho, hx, Instr.loadAt, Instr.sureAddr, Sem.run_bind, Sem.run_pure, Result.andThen_ok, hld]
  exact hK' _ _ h
theorem blk_own {β : Type} (B : Nat) (t : TypeId) (f : β → Array Value) : Own (fun s W => Blk W B (f s) t) := fun s X Y row hv hg hrow =>
  (hg.block B (Blk.lt hv) (fun e' => by obtain ⟨o, ho, hc⟩ := hrow B e'.symm; rw [show X.heap[B]? = _ from hv] at ho; cases ho; cases hc)).trans hv

/-- A cell is as it must be in a first page. -/
def good (S : Nat → ByteArray) (i : Nat) : Prop := if i = 0 then S 0 = markS else (S i).size = 4
/-- The numbers that have been read. -/
def upN (S : Nat → ByteArray) (pre : List (Fin 9)) : Nat → Nat := fun i => if (i + 1) ∈ pre.map (·.val) then numS (S (i + 1)) else 0
def zN : Nat → Nat := fun _ => 0
def RdC (w : World) (b1 b2 sz : Nat) (E : Int) (W : World) : Prop := FstB W b1 0 zN ∧ Blk W b2 #[.int .i64 E] 23 ∧ Below w.heap.size w W ∧ sz ≤ W.heap.size
def RdI (w : World) (S : Nat → ByteArray) (L g b1 b2 sz : Nat) (pre : List (Fin 9)) (W : World) : Prop := (∀ x ∈ pre, good S x.val) ∧ FstB W g L (upN S pre) ∧ RdC w b1 b2 sz 0 W
def RdX (w : World) (S : Nat → ByteArray) (b1 b2 sz : Nat) (c : Code) (pre : List (Fin 9)) (W : World) : Prop := c = .ret ∧ (∃ i, i < 9 ∧ ¬ good S i) ∧ RdC w b1 b2 sz 8 W
theorem rdC_own {β : Type} (w : World) (b1 b2 sz B : Nat) (E : Int) (h : w.heap.size ≤ B) : OwnFrom B (fun (_ : β) W => RdC w b1 b2 sz E W) :=
  OwnFrom.and (Own.from (blk_own b1 _ (fun _ : β => (fstL 0 zN).toArray)) _) (OwnFrom.and (Own.from (blk_own b2 _ (fun _ : β => #[.int .i64 E])) _) (OwnFrom.and (ownFrom_below (Nat.le_refl _) h) (fun s X Y row hs hg _ => Nat.le_trans hs hg.size)))
theorem rdI_own (w : World) (S : Nat → ByteArray) (L g b1 b2 sz B : Nat) (h : w.heap.size ≤ B) : OwnFrom B (RdI w S L g b1 b2 sz) :=
  OwnFrom.and (ownFrom_pure _ _) (OwnFrom.and (Own.from (blk_own g _ (fun pre : List (Fin 9) => (fstL L (upN S pre)).toArray)) _) (rdC_own w b1 b2 sz B 0 h))
theorem rdX_own (w : World) (S : Nat → ByteArray) (b1 b2 sz B : Nat) (c : Code) (h : w.heap.size ≤ B) : OwnFrom B (RdX w S b1 b2 sz c) :=
  OwnFrom.and (ownFrom_pure _ _) (OwnFrom.and (ownFrom_pure _ _) (rdC_own w b1 b2 sz B 8 h))
theorem fst_set (L : Nat) (N : Nat → Nat) {k : Nat} (hk : k < 8) (x : Nat) : (fstL L N).toArray.setIfInBounds (1 + k) (.int .u32 (x : Int)) = (fstL L (fun i => if i = k then x else N i)).toArray := by
  rw [Nat.add_comm]
  simp only [fstL, List.setIfInBounds_toArray, List.set_cons_succ]
  congr 2
  apply List.ext_getElem?
  intro i
  rw [List.getElem?_set]
  by_cases e : k = i
  · subst e
    simp [nmL, hk]
  · rw [if_neg e]
    by_cases hi : i < 8
    · rw [nmL_get N hi, nmL_get _ hi, if_neg (Ne.symm e)]
    · simp [nmL, hi]
theorem upN_snoc0 (S : Nat → ByteArray) (pre : List (Fin 9)) (x : Fin 9) (h : x.val = 0) : upN S (pre ++ [x]) = upN S pre := by
  funext i
  unfold upN
  simp [h]
theorem upN_snoc (S : Nat → ByteArray) (pre : List (Fin 9)) (x : Fin 9) {k : Nat} (h : x.val = k + 1) : upN S (pre ++ [x]) = fun i => if i = k then numS (S x.val) else upN S pre i := by
  funext i
  unfold upN
  by_cases e : i = k
  · subst e
    simp [h]
  · simp [h, e]
theorem upN_all (S : Nat → ByteArray) : ∀ i, i < 8 → upN S (List.finRange 9) i = numS (S (i + 1)) := fun i hi => by
  unfold upN
  rw [if_pos (List.mem_map.2 ⟨⟨i + 1, by omega⟩, List.mem_finRange _, rfl⟩)]
theorem fst_congr (L : Nat) {N M : Nat → Nat} (h : ∀ i, i < 8 → N i = M i) : fstL L N = fstL L M := by
  unfold fstL nmL
  congr 1
  apply List.map_congr_left
  intro i hi
  rw [h i (by simpa using hi)]
end Go.Proofs.YtenfjbcigkolaaaGreat

namespace Go.Proofs.YtenfjbcigkolaaaGreat
open Go.ChangeShapes Go.WideShapes Go.ChangeAt Go.RowKit Go.Maps Go.Shelf
set_option linter.unusedVariables false

theorem wp_loadPG {ops : Array Oper} {rest : List Oper} {o : Oper} {a : Act} {Q : Exit → Act → World → Prop} {w : World} {g : Nat} {l : List UInt8} (hl : l.length = 256) (hg : PAt w g l) (x : Operand)
    (hw : Region.wanted o (yielded ops a.tmps) = true) (ho : o.op = .load 32 x) (hx : a.eval x = .pointer (some ⟨g, 0, none⟩)) (h : wpList Tryz.prog ops Q rest (a.put o.dst (.agg (bc l))) w) : wpList Tryz.prog ops Q (o :: rest) a w := by
  refine wpList_step fun K hK => ?_
  rw [if_pos hw]
  exact wp_load_row 32 x ho g hx 32 (bc l) (0, 0) _ hg page_arr rfl (page_size hl) (hK _ _ h)
/-- A first page. -/
def fok (l : List UInt8) : Prop := kindV l = 0 ∧ cntV l = 9 ∧ ∀ i, i < 9 → good (cellS l) i
def rdN (l : List UInt8) : Nat → Nat := fun i => numS (cellS l (i + 1))
theorem ret_cells2 {W : World} {g h j i : Nat} {t : TypeId} {c : Array Value} {v : Int} (hi : (Tryz.prog.info? t).map (·.size) = some c.size) (hu : ∃ d, Tryz.prog.underlying t = some d ∧ d.isRow = true) {fn : Func} (hres : fn.results = #[.cell j t, .cell i 23]) {tmps : Array Value} (ht : tmps.getD j undef = .pointer (some ⟨g, 0, none⟩)) (hv : tmps.getD i undef = .pointer (some ⟨h, 0, none⟩))
    (hg : Blk W g c t) (hh : Blk W h #[.int .i64 v] 23) {R : Ending → World → Prop} (hR : R (.returned (.tuple #[.agg c, .int .i64 v])) W) : bodyPost Tryz.prog fn R Exit.ret { tmps := tmps, defers := [] } W := by
  obtain ⟨d, hd, hr⟩ := hu
  have hld := run_loadVar_mid (P := Tryz.prog) W g 0 t c.toList d hg.range hd hr (by simpa using hi)
  have hc : W.cell? ⟨h, 0, none⟩ = some (.int .i64 v) := hh.cell 0
  have hld2 : (loadVar 23 ⟨h, 0, none⟩).run Tryz.prog W = .ok (.int .i64 v) W := by
    simp [go_sem, hc]
  refine bodyPost_ret (v := .tuple #[.agg c, .int .i64 v]) ?_ rfl hR
  have ht' : tmps[j]?.getD undef = .pointer (some ⟨g, 0, none⟩) := by simpa using ht
  have hv' : tmps[i]?.getD undef = .pointer (some ⟨h, 0, none⟩) := by simpa using hv
  simp [results, hres, ht', hv', asAddr, hld, hld2]
/-- The blocks that read makes first. -/
theorem read_start (w W0 : World) (l : List UInt8) (h : ((w.alloc (.cells (bc l) 32)).alloc (.cells #[.int .u32 0, .int .u32 0, .int .u32 0, .int .u32 0, .int .u32 0, .int .u32 0, .int .u32 0, .int .u32 0, .int .u32 0] 151)).alloc (.cells #[.int .i64 0] 23) = W0) :
    PAt W0 w.heap.size l ∧ FstB W0 (w.heap.size + 1) 0 zN ∧ Blk W0 (w.heap.size + 1 + 1) #[.int .i64 0] 23 ∧ Below w.heap.size w W0 ∧ W0.heap.size = w.heap.size + 3 := by
  subst h
  refine ⟨((PAt.new w l).later (below_alloc _ _)).later (below_alloc _ _), ?_, ?_, below_trans (below_trans (below_alloc _ _) (below_alloc _ _)) (below_alloc _ _), by simp⟩
  · have := (Blk.new (w.alloc (.cells (bc l) 32)) #[.int .u32 0, .int .u32 0, .int .u32 0, .int .u32 0, .int .u32 0, .int .u32 0, .int .u32 0, .int .u32 0, .int .u32 0] 151).later (below_alloc _ (.cells #[.int .i64 0] 23))
    rw [show (w.alloc (.cells (bc l) 32)).heap.size = w.heap.size + 1 by simp] at this
    exact this
  · have := Blk.new ((w.alloc (.cells (bc l) 32)).alloc (.cells #[.int .u32 0, .int .u32 0, .int .u32 0, .int .u32 0, .int .u32 0, .int .u32 0, .int .u32 0, .int .u32 0, .int .u32 0] 151)) #[.int .i64 0] 23
    rw [show ((w.alloc (.cells (bc l) 32)).alloc (.cells #[.int .u32 0, .int .u32 0, .int .u32 0, .int .u32 0, .int .u32 0, .int .u32 0, .int .u32 0, .int .u32 0, .int .u32 0] 151)).heap.size = w.heap.size + 1 + 1 by simp] at this
    exact this
theorem fst_new (V : World) : FstB (V.alloc (.cells #[.int .u32 0, .int .u32 0, .int .u32 0, .int .u32 0, .int .u32 0, .int .u32 0, .int .u32 0, .int .u32 0, .int .u32 0] 151)) V.heap.size 0 zN := Blk.new V _ _
theorem size_fst (L M : Nat) (N N' : Nat → Nat) : (fstL L N).toArray.size = (fstL M N').toArray.size := by rw [List.size_toArray, List.size_toArray, fstL_length, fstL_length]
set_option maxRecDepth 100000 in
set_option maxHeartbeats 4000000 in
theorem read_kind (w : World) (l : List UInt8) (hl : l.length = 256) (h : ¬ (kindV l = 0 ∧ cntV l = 9)) : Calls Tryz.prog 135 #[.agg (bc l)] w fun e w' => e = .returned (.tuple #[.agg (fstL 0 zN).toArray, .int .i64 8]) ∧ Below w.heap.size w w' := by
  have HL := hide hl
  have HK := hide (fun V => link_walk l hl V)
  have HKi := hide (fun V => kind_walk l hl V)
  have HCo := hide (fun V => count_walk l hl V)
  have HSt := hide (read_start w)
  have HI := hide (sizeF (linkV l) zN)
  have HI0 := hide (sizeF 0 zN)
  have HO := hide (fstL_one (linkV l) zN)
  have HO0 := hide (fstL_one 0 zN)
  have HSz := hide (size_fst (linkV l) 0 zN zN)
  have HFn := hide fst_new
  clear hl
  generalize linkV l = lk at *
  by_cases hk : kindV l = 0
  · have hc : cntV l ≠ 9 := fun e => h ⟨hk, e⟩
    rw [hk] at HKi
    generalize cntV l = cn at *
    have hq : ((cn : Int) == 9) = false := by simp; omega
    clear h hk hc
    go_enter Tryz.func135, Tryz.ntmps135
    go_upto_region 1 with fail
    go_name_world W0 hW0
    obtain ⟨hP, hF, hE, hB, hs⟩ := HSt.out _ l hW0
    have HP := hide hP
    have HF := hide hF
    have HE := hide hE
    have HB := hide hB
    have HS := hide hs
    clear hP hF hE hB hs hW0
    go_wp2_with (first
      | ((with_reducible refine atLd 32 ?_); refine wp_loadP HL.out HP.out _ (by rfl) (by rfl) (by rfl) ?_)
      | (go_at_call 147; (with_reducible refine Calls.mono (HK.out _) ?_); rintro e w4 ⟨rfl, hb⟩; have HB4 := hide (below_trans hb (below_alloc w4 (.cells #[.int .u32 0, .int .u32 0, .int .u32 0, .int .u32 0, .int .u32 0, .int .u32 0, .int .u32 0, .int .u32 0, .int .u32 0] 151))); have HN4 := hide (HFn.out w4); have HS4 := hide hb.size; clear hb)
      | ((with_reducible refine atSt 151 ?_); refine wp_storeB (c := (fstL lk zN).toArray) HI.out HSz.out HO.out HN4.out _ _ (by rfl) (by rfl) (by rfl) (by rfl) ?_; intro W5 hb5 ho5; have HG5 := hide (below_only1 HB4.out ho5 HS4.out); have HP5 := hide (HP.out.later HG5.out); clear hb5 ho5)
      | ((with_reducible refine atLd 32 ?_); refine wp_loadP HL.out HP5.out _ (by rfl) (by rfl) (by rfl) ?_)
      | (go_at_call 143; (with_reducible refine Calls.mono (HKi.out _) ?_); rintro e w6 ⟨rfl, hb⟩; have HG6 := hide (below_trans HG5.out hb); have HP6 := hide (HP5.out.later hb); clear hb)
      | ((with_reducible refine atLd 32 ?_); refine wp_loadPG HL.out HP6.out _ (by rfl) (by rfl) (by rfl) ?_)
      | (go_at_call 144; (with_reducible refine Calls.mono (HCo.out _) ?_); rintro e w7 ⟨rfl, hb⟩; have HG7 := hide (below_trans HG6.out hb); have HF7 := hide (Blk.later HF.out HG7.out); have HE7 := hide (HE.out.later HG7.out); clear hb)
      | ((with_reducible refine atSt 151 ?_); refine wp_storeB (c := (fstL 0 zN).toArray) HI0.out rfl HO0.out HF7.out _ _ (by rfl) (by rfl) (by rfl) (by rfl) ?_; intro W8 hb8 ho8; have HF8 := hide hb8; have HE8 := hide (HE7.out.only ho8 (by simp)); have c8 := (HE8.out.cell 0).trans (show _ = some (Value.int .i64 0) from rfl); have f8 := HE8.out.frozen 0; have HG8 := hide (below_only1 (below_trans HB.out HG7.out) ho8 (by omega)); clear hb8 ho8))
    refine ret_cells2 (c := (fstL 0 zN).toArray) HI0.out uF Tryz.results135 rfl rfl (HF8.out.only (Only.setCell W8 ⟨w.heap.size + 1 + 1, 0, none⟩ (.int .i64 8)) (by simp)) (HE8.out.set 0 (.int .i64 8)) ?_
    exact ⟨rfl, below_only1 HG8.out (Only.setCell W8 ⟨w.heap.size + 1 + 1, 0, none⟩ (.int .i64 8)) (by show w.heap.size ≤ w.heap.size + 1 + 1; omega)⟩
  · generalize kindV l = kd at *
    have hq : ((kd : Int) == 0) = false := by simp; omega
    have hq2 : ((kd : Int) != 0) = true := by simp; omega
    clear h
    go_enter Tryz.func135, Tryz.ntmps135
    go_upto_region 1 with fail
    go_name_world W0 hW0
    obtain ⟨hP, hF, hE, hB, hs⟩ := HSt.out _ l hW0
    have HP := hide hP
    have HF := hide hF
    have HE := hide hE
    have HB := hide hB
    have HS := hide hs
    clear hP hF hE hB hs hW0
    go_wp2_with (first
      | ((with_reducible refine atLd 32 ?_); refine wp_loadP HL.out HP.out _ (by rfl) (by rfl) (by rfl) ?_)
      | (go_at_call 147; (with_reducible refine Calls.mono (HK.out _) ?_); rintro e w4 ⟨rfl, hb⟩; have HB4 := hide (below_trans hb (below_alloc w4 (.cells #[.int .u32 0, .int .u32 0, .int .u32 0, .int .u32 0, .int .u32 0, .int .u32 0, .int .u32 0, .int .u32 0, .int .u32 0] 151))); have HN4 := hide (HFn.out w4); have HS4 := hide hb.size; clear hb)
      | ((with_reducible refine atSt 151 ?_); refine wp_storeB (c := (fstL lk zN).toArray) HI.out HSz.out HO.out HN4.out _ _ (by rfl) (by rfl) (by rfl) (by rfl) ?_; intro W5 hb5 ho5; have HG5 := hide (below_only1 HB4.out ho5 HS4.out); have HP5 := hide (HP.out.later HG5.out); clear hb5 ho5)
      | ((with_reducible refine atLd 32 ?_); refine wp_loadP HL.out HP5.out _ (by rfl) (by rfl) (by rfl) ?_)
      | (go_at_call 143; (with_reducible refine Calls.mono (HKi.out _) ?_); rintro e w6 ⟨rfl, hb⟩; have HG6 := hide (below_trans HG5.out hb); have HF7 := hide (Blk.later HF.out HG6.out); have HE7 := hide (HE.out.later HG6.out); clear hb)
      | ((with_reducible refine atSt 151 ?_); refine wp_storeB (c := (fstL 0 zN).toArray) HI0.out rfl HO0.out HF7.out _ _ (by rfl) (by rfl) (by rfl) (by rfl) ?_; intro W8 hb8 ho8; have HF8 := hide hb8; have HE8 := hide (HE7.out.only ho8 (by simp)); have c8 := (HE8.out.cell 0).trans (show _ = some (Value.int .i64 0) from rfl); have f8 := HE8.out.frozen 0; have HG8 := hide (below_only1 (below_trans HB.out HG6.out) ho8 (by omega)); clear hb8 ho8))
    refine ret_cells2 (c := (fstL 0 zN).toArray) HI0.out uF Tryz.results135 rfl rfl (HF8.out.only (Only.setCell W8 ⟨w.heap.size + 1 + 1, 0, none⟩ (.int .i64 8)) (by simp)) (HE8.out.set 0 (.int .i64 8)) ?_
    exact ⟨rfl, below_only1 HG8.out (Only.setCell W8 ⟨w.heap.size + 1 + 1, 0, none⟩ (.int .i64 8)) (by show w.heap.size ≤ w.heap.size + 1 + 1; omega)⟩
end Go.Proofs.YtenfjbcigkolaaaGreat
