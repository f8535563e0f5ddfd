/- The cells of a page gone over, each with its place below their count. -/
/- Package space: the first page is read. -/
import Derived.Maps.AppendAt
import Derived.RangeFuncWrites
import Derived.Test.YthgclfhfipfknaaGreatOA
import Derived.Test.YthgclfhfipfknaaGreatSC
namespace Go.Proofs.YthgclfhfipfknaaGreat
open Go.ChangeShapes Go.WideShapes Go.ChangeAt Go.RowKit Go.Shelf
set_option linter.unusedVariables false
attribute [local go_sem] Oper.semAt_some

set_option maxRecDepth 100000 in
set_option maxHeartbeats 2000000 in
theorem cells1_inF (l : List UInt8) (hl : l.length = 256) (c : Nat) (hcv : cntV l = c) (hc : c ≤ 250) (S : Nat → ByteArray) (hS : ∀ k, k < c → 6 + c + sm l (k + 1) ≤ 256 ∧ subS l (6 + c + sm l k) (byt l (6 + k)) = S k)
    (n lp Bp : Nat) (Kp : World → World → Prop) (hKp : ∀ A B, Kp A B → B.heap[Bp]? = A.heap[Bp]?) (J Jx : List (Fin c) → World → Prop)
    (hY : ∀ pre x W, J pre W → pre.length < c → YieldAt Fence.wide (n - 1) Tryz.prog lp (encC S x.val) W fun e W' =>
      (e = .returned (.bool true) ∧ J (pre ++ [x]) W' ∧ Kp W W') ∨ (e = .returned (.bool false) ∧ Jx (pre ++ [x]) W'))
    (W : World) (hJ : AbidesFrom W.heap.size J) (hP : PAt W Bp l) (h0 : J [] W) :
    CallsIn Fence.wide n Tryz.prog 188 #[.func (.yield lp) #[] #[], .pointer (some ⟨Bp, 0, none⟩)] W fun e W' => (∃ v, e = .returned v) ∧
      ((∃ ys, ys = List.finRange c ∧ J ys W') ∨ (∃ pre, True ∧ Jx pre W')) := by
  have HP := hide hP
  have HL := hide hl
  have HC : Hid (∀ V, Calls Tryz.prog 104 #[.agg (bc l)] V fun e w' => e = .returned (.int .i64 (c : Int)) ∧ Below V.heap.size V w') := fun V => by rw [← hcv]; exact count_walk l hl V
  have e1 : IntKind.i64.wrap (6 + (c : Int)) = 6 + (c : Int) := by rw [IntKind.wrap_i64]; omega
  have hs : ∀ V : World, (Instr.sliceAt 59 (.pointer (some ⟨Bp, 0, none⟩)) (some (.int .i64 6)) (some (.int .i64 (6 + (c : Int)))) none).run Tryz.prog V = .ok (.slice (some ⟨Bp, 6, none⟩) c (256 - 6)) V := fun V => cut_page V Bp (x := 6) (y := 6 + (c : Int)) 6 c rfl rfl (by omega) (by omega)
  refine callsIn_of_wp Tryz.func188 rfl trivial ?_ rfl
  simp only [Tryz.ntmps188, List.size_toArray, List.length_cons, List.length_nil, Nat.reduceAdd, Nat.reduceSub, Array.replicate_succ, Array.replicate_zero, List.push_toArray, List.append_toArray, List.nil_append, List.cons_append]
  gi_wp2_with (first
    | (refine wpIn_loadP HL.out HP.out _ (by rfl) (by rfl) (by rfl) ?_)
    | (refine ⟨trivial, (fun h => absurd h (by decide)), ?_⟩; gi_at_call 104; refine CallsIn.mono (callsIn_wide.2 (HC.out _)) ?_; rintro e w2 ⟨rfl, hb2⟩; have HJ2 := hide (hJ _ _ _ _ h0 (grown_below hb2) (fun r e => by cases e)); have HP2 := hide (HP.out.later hb2); clear hb2))
  gi_loopw [16, 4] (fun iv av wr => ∃ k : Nat, k ≤ c ∧ iv = .int .i64 (k : Int) ∧ av = .int .i64 ((6 + c + sm l k : Nat) : Int) ∧ J ((List.finRange c).take k) wr ∧ PAt wr Bp l) (fun iv _ _ => c - (intOf iv).toNat)
  case atStart => exact ⟨0, Nat.zero_le _, rfl, rfl, HJ2.out, HP2.out⟩
  case round =>
    obtain ⟨k, hk, rfl, rfl, hJs, hPr⟩ := hrel
    by_cases hlt : k < c
    · obtain ⟨hle, hSk⟩ := hS k hlt
      obtain ⟨fn, tmps, assign, body, hy, hR⟩ := hY _ ⟨k, hlt⟩ wr hJs (by rw [List.length_take, List.length_finRange]; omega)
      have HTk : Hid ((List.finRange c).take k ++ [⟨k, hlt⟩] = (List.finRange c).take (k + 1)) := by
        show _ = _
        rw [List.take_add_one, List.getElem?_eq_getElem (by rw [List.length_finRange]; exact hlt)]
        simp
      simp only [encC] at hy
      have HR := hide hR
      have HPr := hide hPr
      have hlt' : (k : Int) < (c : Int) := by omega
      have hk0 : (0 : Int) ≤ (k : Int) := by omega
      have ck := hPr.cell (k := 6 + k) (by omega)
      have bk := byt_lt l (6 + k)
      simp only [sm] at hle
      have w1 : IntKind.i64.wrap (((6 + c + sm l k : Nat) : Int) + (byt l (6 + k) : Int)) = ((6 + c + sm l k : Nat) : Int) + (byt l (6 + k) : Int) := by rw [IntKind.wrap_i64]; omega
      have w2 : IntKind.i64.wrap (byt l (6 + k) : Int) = (byt l (6 + k) : Int) := by rw [IntKind.wrap_i64]; omega
      have w3 : IntKind.i64.wrap ((k : Int) + 1) = (k : Int) + 1 := by rw [IntKind.wrap_i64]; omega
      obtain ⟨x1, hs1, hx1⟩ := cut_page' Bp (x := 6 + (c : Int) + (sm l k : Int)) (y := 6 + (c : Int) + (sm l k : Int) + (byt l (6 + k) : Int)) (6 + c + sm l k) (byt l (6 + k)) (by omega) (by omega) (by omega)
      have hv1 := conv_page HL.out hPr x1 (6 + c + sm l k) (byt l (6 + k)) (256 - (6 + c + sm l k)) (by omega) hx1
      rw [hSk] at hv1
      clear hR hPr hS hY hx1
      gi_wp2
      refine ⟨(fun h => absurd h (by decide)), HR.out.mono ?_⟩
      rintro e W3 (⟨rfl, hJ3, hk3⟩ | ⟨rfl, hJx3⟩)
      · have hP3 : PAt W3 Bp l := by
          show W3.heap[Bp]? = _
          rw [hKp _ _ hk3]; exact HPr.out
        gi_wp2
        go_roundw
        case rel => exact ⟨k + 1, by omega, by simp, by simp only [sm]; exact congrArg (Value.int IntKind.i64) (by omega), by rw [← HTk.out]; exact hJ3, hP3⟩
        case measure => simp [intOf]; omega
      · gi_wp2
        refine bodyPost_ret (results_none rfl _ _ _) rfl ?_
        exact ⟨⟨_, rfl⟩, .inr ⟨_, trivial, hJx3⟩⟩
    · obtain rfl : k = c := by omega
      gi_wp2
      go_end0
      rw [List.take_of_length_le (by rw [List.length_finRange]; exact Nat.le_refl _)] at hJs
      exact ⟨⟨_, rfl⟩, .inl ⟨_, rfl, hJs⟩⟩

theorem cells_stopsF (l : List UInt8) (hl : l.length = 256) (c : Nat) (hcv : cntV l = c) (hc : c ≤ 250) (S : Nat → ByteArray) (hS : ∀ k, k < c → 6 + c + sm l (k + 1) ≤ 256 ∧ subS l (6 + c + sm l k) (byt l (6 + k)) = S k)
    (n Bp : Nat) (Kp : World → World → Prop) (hKp : ∀ A B, Kp A B → B.heap[Bp]? = A.heap[Bp]?) (w : World) (hB2 : Bp < w.heap.size) (hP : PAt w Bp l) :
    SeqStopsK Fence.wide n Tryz.prog 188 #[.pointer (some ⟨Bp, 0, none⟩)] (fun x : Fin c => encC S x.val) Kp (fun ys => ys = List.finRange c) (fun pre => True) c w := fun lp J Jx W hW hJ _ hY h0 =>
  cells1_inF l hl c hcv hc S hS n lp Bp Kp hKp J Jx hY W hJ (hP.later hW) h0
end Go.Proofs.YthgclfhfipfknaaGreat

namespace Go.Proofs.YthgclfhfipfknaaGreat
open Go.ChangeShapes Go.WideShapes Go.ChangeAt Go.RowKit Go.Maps Go.Shelf
set_option linter.unusedVariables false
attribute [local go_sem] Oper.semAt_some

theorem wpIn_storeB {F : Fence} {n : Nat} {ops : Array Oper} {rest : List Oper} {o : Oper} {a : Act} {Q : Exit → Act → World → Prop} {w : World} {g : Nat} {t : TypeId} {c z : Array Value} (hi : (Tryz.prog.info? t).map (·.size) = some c.size) (hs : c.size = z.size) (h1 : c.all (·.oneCell') = true) (hg : Blk w g z t) (x y : Operand)
    (hgd : o.guard = none) (ho : o.op = .store t x y) (hx : a.eval x = .pointer (some ⟨g, 0, none⟩)) (hy : a.eval y = .agg c)
    (hk : ∀ W', Blk W' g c t → Only [g] w W' → KeepsOthers w W' → wpListIn F n Tryz.prog ops Q rest (a.put o.dst undef) W') : wpListIn F n Tryz.prog ops Q (o :: rest) a w := by
  refine wpListIn_plain hgd fun K hK' => ?_
  unfold Oper.wpIn
  refine ⟨by simp [Oper.about, ho], ?_⟩
  rw [Oper.semAt_plain F _ _ (by rw [ho]; intro c hc'; cases hc')]
  unfold execOp
  simp only [ho, hx, hy, Instr.storeAt, Instr.sureAddr, Sem.run_bind, Sem.run_pure, Result.andThen_ok, run_storeVar_row w g t t z c hg hi hs.symm h1]
  refine hK' _ _ (hk _ (setRow_heap w g _ _ _ _ hg) ⟨rfl, rfl, rfl, by simp [World.setRow], fun k _ hk => heap_setRow w g _ k (fun e => hk (by simp [e]))⟩ ⟨by simp [World.setRow], fun k o hq ho => ?_⟩)
  rw [heap_setRow w g _ k (fun e => ?_)]
  · exact hq
  · subst e; rw [show w.heap[k]? = _ from hg] at hq; cases hq; cases ho
theorem wpIn_loadB {F : Fence} {n : Nat} {ops : Array Oper} {rest : List Oper} {o : Oper} {a : Act} {Q : Exit → Act → World → Prop} {w : World} {g : Nat} {t : TypeId} {c : Array Value} (hi : (Tryz.prog.info? t).map (·.size) = some c.size) (hu : ∃ d, Tryz.prog.underlying t = some d ∧ d.isRow = true) (hg : Blk w g c t) (x : Operand)
    (hgd : o.guard = none) (ho : o.op = .load t x) (hx : a.eval x = .pointer (some ⟨g, 0, none⟩)) (h : wpListIn F n Tryz.prog ops Q rest (a.put o.dst (.agg c)) w) : wpListIn F n Tryz.prog ops Q (o :: rest) a w := by
  obtain ⟨d, hd, hr⟩ := hu
  have hld := run_loadVar_mid (P := Tryz.prog) w g 0 t c.toList d hg.range hd hr (by simpa using hi)
  refine wpListIn_plain hgd fun K hK' => ?_
  unfold Oper.wpIn
  refine ⟨by simp [Oper.about, ho], ?_⟩
  rw [Oper.semAt_plain F _ _ (by rw [ho]; intro c hc'; cases hc')]
  unfold execOp
  simp only [ho, hx, Instr.loadAt, Instr.sureAddr, Sem.run_bind, Sem.run_pure, Result.andThen_ok, hld]
  exact hK' _ _ h
theorem blk_own {β : Type} (B : Nat) (t : TypeId) (f : β → Array Value) : Own (fun s W => Blk W B (f s) t) := fun s X Y row hv hg hrow =>
  (hg.block B (Blk.lt hv) (fun e' => by obtain ⟨o, ho, hc⟩ := hrow B e'.symm; rw [show X.heap[B]? = _ from hv] at ho; cases ho; cases hc)).trans hv

/-- A cell is as it must be in a first page. -/
def good (S : Nat → ByteArray) (i : Nat) : Prop := if i = 0 then S 0 = markS else (S i).size = 4
/-- The numbers that have been read. -/
def upN (S : Nat → ByteArray) (pre : List (Fin 9)) : Nat → Nat := fun i => if (i + 1) ∈ pre.map (·.val) then numS (S (i + 1)) else 0
def zN : Nat → Nat := fun _ => 0
def RdC (w : World) (b1 b2 sz : Nat) (E : Int) (W : World) : Prop := FstB W b1 0 zN ∧ Blk W b2 #[.int .i64 E] 35 ∧ Below w.heap.size w W ∧ sz ≤ W.heap.size
def RdI (w : World) (S : Nat → ByteArray) (L g b1 b2 sz : Nat) (pre : List (Fin 9)) (W : World) : Prop := (∀ x ∈ pre, good S x.val) ∧ FstB W g L (upN S pre) ∧ RdC w b1 b2 sz 0 W
def RdX (w : World) (S : Nat → ByteArray) (b1 b2 sz : Nat) (c : Code) (pre : List (Fin 9)) (W : World) : Prop := c = .ret ∧ (∃ i, i < 9 ∧ ¬ good S i) ∧ RdC w b1 b2 sz 8 W
theorem rdC_own {β : Type} (w : World) (b1 b2 sz B : Nat) (E : Int) (h : w.heap.size ≤ B) : OwnFrom B (fun (_ : β) W => RdC w b1 b2 sz E W) :=
  OwnFrom.and (Own.from (blk_own b1 _ (fun _ : β => (fstL 0 zN).toArray)) _) (OwnFrom.and (Own.from (blk_own b2 _ (fun _ : β => #[.int .i64 E])) _) (OwnFrom.and (ownFrom_below (Nat.le_refl _) h) (fun s X Y row hs hg _ => Nat.le_trans hs hg.size)))
theorem rdI_own (w : World) (S : Nat → ByteArray) (L g b1 b2 sz B : Nat) (h : w.heap.size ≤ B) : OwnFrom B (RdI w S L g b1 b2 sz) :=
  OwnFrom.and (ownFrom_pure _ _) (OwnFrom.and (Own.from (blk_own g _ (fun pre : List (Fin 9) => (fstL L (upN S pre)).toArray)) _) (rdC_own w b1 b2 sz B 0 h))
theorem rdX_own (w : World) (S : Nat → ByteArray) (b1 b2 sz B : Nat) (c : Code) (h : w.heap.size ≤ B) : OwnFrom B (RdX w S b1 b2 sz c) :=
  OwnFrom.and (ownFrom_pure _ _) (OwnFrom.and (ownFrom_pure _ _) (rdC_own w b1 b2 sz B 8 h))
theorem fst_set (L : Nat) (N : Nat → Nat) {k : Nat} (hk : k < 8) (x : Nat) : (fstL L N).toArray.setIfInBounds (1 + k) (.int .u32 (x : Int)) = (fstL L (fun i => if i = k then x else N i)).toArray := by
  rw [Nat.add_comm]
  simp only [fstL, List.setIfInBounds_toArray, List.set_cons_succ]
  congr 2
  apply List.ext_getElem?
  intro i
  rw [List.getElem?_set]
  by_cases e : k = i
  · subst e
    simp [nmL, hk]
  · rw [if_neg e]
    by_cases hi : i < 8
    · rw [nmL_get N hi, nmL_get _ hi, if_neg (Ne.symm e)]
    · simp [nmL, hi]
theorem upN_snoc0 (S : Nat → ByteArray) (pre : List (Fin 9)) (x : Fin 9) (h : x.val = 0) : upN S (pre ++ [x]) = upN S pre := by
  funext i
  unfold upN
  simp [h]
theorem upN_snoc (S : Nat → ByteArray) (pre : List (Fin 9)) (x : Fin 9) {k : Nat} (h : x.val = k + 1) : upN S (pre ++ [x]) = fun i => if i = k then numS (S x.val) else upN S pre i := by
  funext i
  unfold upN
  by_cases e : i = k
  · subst e
    simp [h]
  · simp [h, e]
theorem upN_all (S : Nat → ByteArray) : ∀ i, i < 8 → upN S (List.finRange 9) i = numS (S (i + 1)) := fun i hi => by
  unfold upN
  rw [if_pos (List.mem_map.2 ⟨⟨i + 1, by omega⟩, List.mem_finRange _, rfl⟩)]
theorem fst_congr (L : Nat) {N M : Nat → Nat} (h : ∀ i, i < 8 → N i = M i) : fstL L N = fstL L M := by
  unfold fstL nmL
  congr 1
  apply List.map_congr_left
  intro i hi
  rw [h i (by simpa using hi)]
end Go.Proofs.YthgclfhfipfknaaGreat
