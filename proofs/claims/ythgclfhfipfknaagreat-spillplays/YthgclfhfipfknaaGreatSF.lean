/- Package space: the first page is read: one of another kind or count. -/
/- Package space: the first page is read: its cells. -/
import Derived.Test.YthgclfhfipfknaaGreatSD
namespace Go.Proofs.YthgclfhfipfknaaGreat
open Go.ChangeShapes Go.WideShapes Go.ChangeAt Go.RowKit Go.Maps Go.Shelf
set_option linter.unusedVariables false

theorem wp_loadPG {ops : Array Oper} {rest : List Oper} {o : Oper} {a : Act} {Q : Exit → Act → World → Prop} {w : World} {g : Nat} {l : List UInt8} (hl : l.length = 256) (hg : PAt w g l) (x : Operand)
    (hw : Region.wanted o (yielded ops a.tmps) = true) (ho : o.op = .load 59 x) (hx : a.eval x = .pointer (some ⟨g, 0, none⟩)) (h : wpList Tryz.prog ops Q rest (a.put o.dst (.agg (bc l))) w) : wpList Tryz.prog ops Q (o :: rest) a w := by
  refine wpList_step fun K hK => ?_
  rw [if_pos hw]
  exact wp_load_row 59 x ho g hx 59 (bc l) (0, 0) _ hg page_arr rfl (page_size hl) (hK _ _ h)
/-- A first page. -/
def fok (l : List UInt8) : Prop := kindV l = 0 ∧ cntV l = 9 ∧ ∀ i, i < 9 → good (cellS l) i
def rdN (l : List UInt8) : Nat → Nat := fun i => numS (cellS l (i + 1))
theorem ret_cells2 {W : World} {g h j i : Nat} {t : TypeId} {c : Array Value} {v : Int} (hi : (Tryz.prog.info? t).map (·.size) = some c.size) (hu : ∃ d, Tryz.prog.underlying t = some d ∧ d.isRow = true) {fn : Func} (hres : fn.results = #[.cell j t, .cell i 35]) {tmps : Array Value} (ht : tmps.getD j undef = .pointer (some ⟨g, 0, none⟩)) (hv : tmps.getD i undef = .pointer (some ⟨h, 0, none⟩))
    (hg : Blk W g c t) (hh : Blk W h #[.int .i64 v] 35) {R : Ending → World → Prop} (hR : R (.returned (.tuple #[.agg c, .int .i64 v])) W) : bodyPost Tryz.prog fn R Exit.ret { tmps := tmps, defers := [] } W := by
  obtain ⟨d, hd, hr⟩ := hu
  have hld := run_loadVar_mid (P := Tryz.prog) W g 0 t c.toList d hg.range hd hr (by simpa using hi)
  have hc : W.cell? ⟨h, 0, none⟩ = some (.int .i64 v) := hh.cell 0
  have hld2 : (loadVar 35 ⟨h, 0, none⟩).run Tryz.prog W = .ok (.int .i64 v) W := by
    simp [go_sem, hc]
  refine bodyPost_ret (v := .tuple #[.agg c, .int .i64 v]) ?_ rfl hR
  have ht' : tmps[j]?.getD undef = .pointer (some ⟨g, 0, none⟩) := by simpa using ht
  have hv' : tmps[i]?.getD undef = .pointer (some ⟨h, 0, none⟩) := by simpa using hv
  simp [results, hres, ht', hv', asAddr, hld, hld2]
/-- The blocks that read makes first. -/
theorem read_start (w W0 : World) (l : List UInt8) (h : ((w.alloc (.cells (bc l) 59)).alloc (.cells #[.int .u32 0, .int .u32 0, .int .u32 0, .int .u32 0, .int .u32 0, .int .u32 0, .int .u32 0, .int .u32 0, .int .u32 0] 105)).alloc (.cells #[.int .i64 0] 35) = W0) :
    PAt W0 w.heap.size l ∧ FstB W0 (w.heap.size + 1) 0 zN ∧ Blk W0 (w.heap.size + 1 + 1) #[.int .i64 0] 35 ∧ Below w.heap.size w W0 ∧ W0.heap.size = w.heap.size + 3 := by
  subst h
  refine ⟨((PAt.new w l).later (below_alloc _ _)).later (below_alloc _ _), ?_, ?_, below_trans (below_trans (below_alloc _ _) (below_alloc _ _)) (below_alloc _ _), by simp⟩
  · have := (Blk.new (w.alloc (.cells (bc l) 59)) #[.int .u32 0, .int .u32 0, .int .u32 0, .int .u32 0, .int .u32 0, .int .u32 0, .int .u32 0, .int .u32 0, .int .u32 0] 105).later (below_alloc _ (.cells #[.int .i64 0] 35))
    rw [show (w.alloc (.cells (bc l) 59)).heap.size = w.heap.size + 1 by simp] at this
    exact this
  · have := Blk.new ((w.alloc (.cells (bc l) 59)).alloc (.cells #[.int .u32 0, .int .u32 0, .int .u32 0, .int .u32 0, .int .u32 0, .int .u32 0, .int .u32 0, .int .u32 0, .int .u32 0] 105)) #[.int .i64 0] 35
    rw [show ((w.alloc (.cells (bc l) 59)).alloc (.cells #[.int .u32 0, .int .u32 0, .int .u32 0, .int .u32 0, .int .u32 0, .int .u32 0, .int .u32 0, .int .u32 0, .int .u32 0] 105)).heap.size = w.heap.size + 1 + 1 by simp] at this
    exact this
theorem fst_new (V : World) : FstB (V.alloc (.cells #[.int .u32 0, .int .u32 0, .int .u32 0, .int .u32 0, .int .u32 0, .int .u32 0, .int .u32 0, .int .u32 0, .int .u32 0] 105)) V.heap.size 0 zN := Blk.new V _ _
theorem size_fst (L M : Nat) (N N' : Nat → Nat) : (fstL L N).toArray.size = (fstL M N').toArray.size := by rw [List.size_toArray, List.size_toArray, fstL_length, fstL_length]
set_option maxRecDepth 100000 in
set_option maxHeartbeats 4000000 in
theorem read_kind (w : World) (l : List UInt8) (hl : l.length = 256) (h : ¬ (kindV l = 0 ∧ cntV l = 9)) : Calls Tryz.prog 121 #[.agg (bc l)] w fun e w' => e = .returned (.tuple #[.agg (fstL 0 zN).toArray, .int .i64 8]) ∧ Below w.heap.size w w' := by
  have HL := hide hl
  have HK := hide (fun V => link_walk l hl V)
  have HKi := hide (fun V => kind_walk l hl V)
  have HCo := hide (fun V => count_walk l hl V)
  have HSt := hide (read_start w)
  have HI := hide (sizeF (linkV l) zN)
  have HI0 := hide (sizeF 0 zN)
  have HO := hide (fstL_one (linkV l) zN)
  have HO0 := hide (fstL_one 0 zN)
  have HSz := hide (size_fst (linkV l) 0 zN zN)
  have HFn := hide fst_new
  clear hl
  generalize linkV l = lk at *
  by_cases hk : kindV l = 0
  · have hc : cntV l ≠ 9 := fun e => h ⟨hk, e⟩
    rw [hk] at HKi
    generalize cntV l = cn at *
    have hq : ((cn : Int) == 9) = false := by simp; omega
    clear h hk hc
    go_enter Tryz.func121, Tryz.ntmps121
    go_upto_region 1 with fail
    go_name_world W0 hW0
    obtain ⟨hP, hF, hE, hB, hs⟩ := HSt.out _ l hW0
    have HP := hide hP
    have HF := hide hF
    have HE := hide hE
    have HB := hide hB
    have HS := hide hs
    clear hP hF hE hB hs hW0
    go_wp2_with (first
      | ((with_reducible refine atLd 59 ?_); refine wp_loadP HL.out HP.out _ (by rfl) (by rfl) (by rfl) ?_)
      | (go_at_call 107; (with_reducible refine Calls.mono (HK.out _) ?_); rintro e w4 ⟨rfl, hb⟩; have HB4 := hide (below_trans hb (below_alloc w4 (.cells #[.int .u32 0, .int .u32 0, .int .u32 0, .int .u32 0, .int .u32 0, .int .u32 0, .int .u32 0, .int .u32 0, .int .u32 0] 105))); have HN4 := hide (HFn.out w4); have HS4 := hide hb.size; clear hb)
      | ((with_reducible refine atSt 105 ?_); refine wp_storeB (c := (fstL lk zN).toArray) HI.out HSz.out HO.out HN4.out _ _ (by rfl) (by rfl) (by rfl) (by rfl) ?_; intro W5 hb5 ho5; have HG5 := hide (below_only1 HB4.out ho5 HS4.out); have HP5 := hide (HP.out.later HG5.out); clear hb5 ho5)
      | ((with_reducible refine atLd 59 ?_); refine wp_loadP HL.out HP5.out _ (by rfl) (by rfl) (by rfl) ?_)
      | (go_at_call 103; (with_reducible refine Calls.mono (HKi.out _) ?_); rintro e w6 ⟨rfl, hb⟩; have HG6 := hide (below_trans HG5.out hb); have HP6 := hide (HP5.out.later hb); clear hb)
      | ((with_reducible refine atLd 59 ?_); refine wp_loadPG HL.out HP6.out _ (by rfl) (by rfl) (by rfl) ?_)
      | (go_at_call 104; (with_reducible refine Calls.mono (HCo.out _) ?_); rintro e w7 ⟨rfl, hb⟩; have HG7 := hide (below_trans HG6.out hb); have HF7 := hide (Blk.later HF.out HG7.out); have HE7 := hide (HE.out.later HG7.out); clear hb)
      | ((with_reducible refine atSt 105 ?_); refine wp_storeB (c := (fstL 0 zN).toArray) HI0.out rfl HO0.out HF7.out _ _ (by rfl) (by rfl) (by rfl) (by rfl) ?_; intro W8 hb8 ho8; have HF8 := hide hb8; have HE8 := hide (HE7.out.only ho8 (by simp)); have c8 := (HE8.out.cell 0).trans (show _ = some (Value.int .i64 0) from rfl); have f8 := HE8.out.frozen 0; have HG8 := hide (below_only1 (below_trans HB.out HG7.out) ho8 (by omega)); clear hb8 ho8))
    refine ret_cells2 (c := (fstL 0 zN).toArray) HI0.out uF Tryz.results121 rfl rfl (HF8.out.only (Only.setCell W8 ⟨w.heap.size + 1 + 1, 0, none⟩ (.int .i64 8)) (by simp)) (HE8.out.set 0 (.int .i64 8)) ?_
    exact ⟨rfl, below_only1 HG8.out (Only.setCell W8 ⟨w.heap.size + 1 + 1, 0, none⟩ (.int .i64 8)) (by show w.heap.size ≤ w.heap.size + 1 + 1; omega)⟩
  · generalize kindV l = kd at *
    have hq : ((kd : Int) == 0) = false := by simp; omega
    have hq2 : ((kd : Int) != 0) = true := by simp; omega
    clear h
    go_enter Tryz.func121, Tryz.ntmps121
    go_upto_region 1 with fail
    go_name_world W0 hW0
    obtain ⟨hP, hF, hE, hB, hs⟩ := HSt.out _ l hW0
    have HP := hide hP
    have HF := hide hF
    have HE := hide hE
    have HB := hide hB
    have HS := hide hs
    clear hP hF hE hB hs hW0
    go_wp2_with (first
      | ((with_reducible refine atLd 59 ?_); refine wp_loadP HL.out HP.out _ (by rfl) (by rfl) (by rfl) ?_)
      | (go_at_call 107; (with_reducible refine Calls.mono (HK.out _) ?_); rintro e w4 ⟨rfl, hb⟩; have HB4 := hide (below_trans hb (below_alloc w4 (.cells #[.int .u32 0, .int .u32 0, .int .u32 0, .int .u32 0, .int .u32 0, .int .u32 0, .int .u32 0, .int .u32 0, .int .u32 0] 105))); have HN4 := hide (HFn.out w4); have HS4 := hide hb.size; clear hb)
      | ((with_reducible refine atSt 105 ?_); refine wp_storeB (c := (fstL lk zN).toArray) HI.out HSz.out HO.out HN4.out _ _ (by rfl) (by rfl) (by rfl) (by rfl) ?_; intro W5 hb5 ho5; have HG5 := hide (below_only1 HB4.out ho5 HS4.out); have HP5 := hide (HP.out.later HG5.out); clear hb5 ho5)
      | ((with_reducible refine atLd 59 ?_); refine wp_loadP HL.out HP5.out _ (by rfl) (by rfl) (by rfl) ?_)
      | (go_at_call 103; (with_reducible refine Calls.mono (HKi.out _) ?_); rintro e w6 ⟨rfl, hb⟩; have HG6 := hide (below_trans HG5.out hb); have HF7 := hide (Blk.later HF.out HG6.out); have HE7 := hide (HE.out.later HG6.out); clear hb)
      | ((with_reducible refine atSt 105 ?_); refine wp_storeB (c := (fstL 0 zN).toArray) HI0.out rfl HO0.out HF7.out _ _ (by rfl) (by rfl) (by rfl) (by rfl) ?_; intro W8 hb8 ho8; have HF8 := hide hb8; have HE8 := hide (HE7.out.only ho8 (by simp)); have c8 := (HE8.out.cell 0).trans (show _ = some (Value.int .i64 0) from rfl); have f8 := HE8.out.frozen 0; have HG8 := hide (below_only1 (below_trans HB.out HG6.out) ho8 (by omega)); clear hb8 ho8))
    refine ret_cells2 (c := (fstL 0 zN).toArray) HI0.out uF Tryz.results121 rfl rfl (HF8.out.only (Only.setCell W8 ⟨w.heap.size + 1 + 1, 0, none⟩ (.int .i64 8)) (by simp)) (HE8.out.set 0 (.int .i64 8)) ?_
    exact ⟨rfl, below_only1 HG8.out (Only.setCell W8 ⟨w.heap.size + 1 + 1, 0, none⟩ (.int .i64 8)) (by show w.heap.size ≤ w.heap.size + 1 + 1; omega)⟩
end Go.Proofs.YthgclfhfipfknaaGreat

namespace Go.Proofs.YthgclfhfipfknaaGreat
open Go.ChangeShapes Go.WideShapes Go.ChangeAt Go.RowKit Go.Maps Go.Shelf
set_option linter.unusedVariables false
attribute [local go_sem] Oper.semAt_some

theorem wpIn_loadPG {F : Fence} {n : Nat} {ops : Array Oper} {rest : List Oper} {o : Oper} {a : Act} {Q : Exit → Act → World → Prop} {w : World} {g : Nat} {l : List UInt8} (hl : l.length = 256) (hg : PAt w g l) (x : Operand)
    (hw : Region.wanted o (yielded ops a.tmps) = true) (ho : o.op = .load 59 x) (hx : a.eval x = .pointer (some ⟨g, 0, none⟩)) (h : wpListIn F n Tryz.prog ops Q rest (a.put o.dst (.agg (bc l))) w) : wpListIn F n Tryz.prog ops Q (o :: rest) a w := by
  refine wpListIn_step fun K hK' => ?_
  rw [if_pos hw]
  unfold Oper.wpIn
  refine ⟨by simp [Oper.about, ho], ?_⟩
  rw [Oper.semAt_plain F _ _ (by rw [ho]; intro c hc'; cases hc')]
  unfold execOp
  simp only [ho, hx, Instr.loadAt, Instr.sureAddr, Sem.run_bind, Sem.run_pure, Result.andThen_ok, run_loadVar_row w g 59 59 (bc l) (0, 0) _ hg page_arr rfl (page_size hl)]
  exact hK' _ _ h
theorem inSt (t : TypeId) {F : Fence} {n : Nat} {P : Program} {ops : Array Oper} {Q : Exit → Act → World → Prop} {d : Option Tmp} {x y : Operand} {ty : TypeId} {pos : String} {af : Array Edge} {gd : Option (Nat × Bool)} {rest : List Oper} {a : Act} {w : World} (h : wpListIn F n P ops Q ({ dst := d, op := .store t x y, type := ty, pos := pos, after := af, guard := gd } :: rest) a w) : wpListIn F n P ops Q ({ dst := d, op := .store t x y, type := ty, pos := pos, after := af, guard := gd } :: rest) a w := h
theorem inLd (t : TypeId) {F : Fence} {n : Nat} {P : Program} {ops : Array Oper} {Q : Exit → Act → World → Prop} {d : Option Tmp} {x : Operand} {ty : TypeId} {pos : String} {af : Array Edge} {gd : Option (Nat × Bool)} {rest : List Oper} {a : Act} {w : World} (h : wpListIn F n P ops Q ({ dst := d, op := .load t x, type := ty, pos := pos, after := af, guard := gd } :: rest) a w) : wpListIn F n P ops Q ({ dst := d, op := .load t x, type := ty, pos := pos, after := af, guard := gd } :: rest) a w := h
def raT (w : World) (l : List UInt8) (lk g z7 x : Nat) (s : ByteArray) : Act := { tmps := #[.agg (bc l), .pointer (some ⟨w.heap.size, 0, none⟩), .pointer (some ⟨w.heap.size + 1, 0, none⟩), .pointer (some ⟨w.heap.size + 1 + 1, 0, none⟩), .pointer (some ⟨g, 0, none⟩), .int .i64 (x : Int), .string s, .agg (bc l), .int .u32 (lk : Int), .agg #[.int .u32 (lk : Int), .int .u32 0, .int .u32 0, .int .u32 0, .int .u32 0, .int .u32 0, .int .u32 0, .int .u32 0, .int .u32 0], .agg (bc l), .int .u8 0, .bool false, .bool false, .agg (bc l), .int .i64 9, .bool false, .bool false, undef, .agg (bc l), .func (.func 188) #[] #[.pointer (some ⟨z7, 0, none⟩)], .int .i64 (x : Int), .string s, undef, undef, undef, undef, undef, undef, undef, undef, undef, undef, undef, undef, undef, undef, undef, undef, undef, undef, undef, undef, undef, undef, undef], defers := [] }
theorem res_cells2 {W : World} {g h j i : Nat} {t : TypeId} {c : Array Value} {v : Int} (hi : (Tryz.prog.info? t).map (·.size) = some c.size) (hu : ∃ d, Tryz.prog.underlying t = some d ∧ d.isRow = true) {fn : Func} (hres : fn.results = #[.cell j t, .cell i 35]) {tmps : Array Value} (ht : tmps.getD j undef = .pointer (some ⟨g, 0, none⟩)) (hv : tmps.getD i undef = .pointer (some ⟨h, 0, none⟩))
    (hg : Blk W g c t) (hh : Blk W h #[.int .i64 v] 35) : (results fn tmps).run Tryz.prog W = .ok (.tuple #[.agg c, .int .i64 v]) W := by
  obtain ⟨d, hd, hr⟩ := hu
  have hld := run_loadVar_mid (P := Tryz.prog) W g 0 t c.toList d hg.range hd hr (by simpa using hi)
  have hc : W.cell? ⟨h, 0, none⟩ = some (.int .i64 v) := hh.cell 0
  have hld2 : (loadVar 35 ⟨h, 0, none⟩).run Tryz.prog W = .ok (.int .i64 v) W := by
    simp [go_sem, hc]
  have ht' : tmps[j]?.getD undef = .pointer (some ⟨g, 0, none⟩) := by simpa using ht
  have hv' : tmps[i]?.getD undef = .pointer (some ⟨h, 0, none⟩) := by simpa using hv
  simp [results, hres, ht', hv', asAddr, hld, hld2]
theorem put_blk {W : World} {b D : Nat} {c : Array Value} {t : TypeId} {x y : Option (List Deferred)} (h : Blk W b c t) (hD : W.heap[D]? = some (.deferred x)) : Blk (W.putObj D (.deferred y)) b c t :=
  ((grownBy_putObj' W D (.deferred y)).block b h.lt (fun e => by simp at e; subst e; rw [show W.heap[b]? = _ from h] at hD; cases hD)).trans h
open Classical in
noncomputable def rdE (l : List UInt8) : Int := if fok l then 0 else 8
open Classical in
noncomputable def rdV (l : List UInt8) : List Value := if fok l then fstL (linkV l) (rdN l) else fstL 0 zN
set_option maxRecDepth 100000 in
set_option maxHeartbeats 4000000 in
theorem read_cells (w : World) (l : List UInt8) (hl : l.length = 256) (hk : kindV l = 0) (hc9 : cntV l = 9) : Calls Tryz.prog 121 #[.agg (bc l)] w fun e w' => e = .returned (.tuple #[.agg (rdV l).toArray, .int .i64 (rdE l)]) ∧ Below w.heap.size w w' := by
  have HL := hide hl
  have HK := hide (fun V => link_walk l hl V)
  have HKi := hide (fun V => kind_walk l hl V)
  rw [hk] at HKi
  have HCo := hide (fun V => count_walk l hl V)
  rw [hc9] at HCo
  have HSt := hide (read_start w)
  have HI := hide (sizeF (linkV l) zN)
  have HO := hide (fstL_one (linkV l) zN)
  have HSz := hide (size_fst (linkV l) 0 zN zN)
  have HFn := hide fst_new
  have HCf := hide (fun V => cells_fn l hl V)
  obtain ⟨c0, hc0, hc250, hS0, _⟩ := cells_facts l hl
  obtain rfl : c0 = 9 := by omega
  have HSt9 := hide (cells_stopsF l hl 9 hc9 (by omega) (cellS l) hS0)
  have HRd : Hid (∀ W : World, (∀ i, i < 9 → good (cellS l) i) → rdV l = fstL (linkV l) (rdN l) ∧ rdE l = 0) := fun W hg => ⟨if_pos ⟨hk, hc9, hg⟩, if_pos ⟨hk, hc9, hg⟩⟩
  have HRx : Hid ((∃ i, i < 9 ∧ ¬ good (cellS l) i) → rdV l = fstL 0 zN ∧ rdE l = 8) := fun ⟨i, hi, hg⟩ => ⟨if_neg (fun h => hg (h.2.2 i hi)), if_neg (fun h => hg (h.2.2 i hi))⟩
  have HRn : Hid (rdN l = fun i => numS (cellS l (i + 1))) := rfl
  have hnil : ∀ (V : World) (b : Nat), (binOp BinOp.eql 214 (.func (.func 188) #[] #[.pointer (some ⟨b, 0, none⟩)]) Value.nilFunc).run Tryz.prog V = .ok (.bool false) V := fun V b => by kernel_rfl
  clear hl hk hc9 hc0 hc250 hS0
  generalize rdV l = RV at *
  generalize rdE l = RE at *
  generalize rdN l = RN at *
  generalize linkV l = lk at *
  generalize cellS l = S at *
  refine (callsIn_wide (n := 9)).1 ?_
  refine callsIn_of_wp_marks Tryz.func121 rfl trivial ?_ rfl
  simp only [Tryz.ntmps121, List.size_toArray, List.length_cons, List.length_nil, Nat.reduceAdd, Nat.reduceSub, Array.replicate_succ, Array.replicate_zero, List.push_toArray, List.append_toArray, List.nil_append, List.cons_append]
  obtain ⟨hP, hF, hE, hB, hs⟩ := HSt.out _ l rfl
  have HP := hide hP
  have HF := hide hF
  have HE := hide hE
  have HB := hide hB
  have HS := hide hs
  clear hP hF hE hB hs
  gi_wp2_with (first
    | ((with_reducible refine inLd 59 ?_); refine wpIn_loadP HL.out HP.out _ (by rfl) (by rfl) (by rfl) ?_)
    | (refine ⟨trivial, ?_⟩; gi_at_call 107; refine CallsIn.mono (callsIn_wide.2 (HK.out _)) ?_; rintro e w4 ⟨rfl, hb⟩; have HB4 := hide (below_trans hb (below_alloc w4 (.cells #[.int .u32 0, .int .u32 0, .int .u32 0, .int .u32 0, .int .u32 0, .int .u32 0, .int .u32 0, .int .u32 0, .int .u32 0] 105))); have HN4 := hide (HFn.out w4); have HS4 := hide hb.size; clear hb)
    | ((with_reducible refine inSt 105 ?_); refine wpIn_storeB (c := (fstL lk zN).toArray) HI.out HSz.out HO.out HN4.out _ _ (by rfl) (by rfl) (by rfl) (by rfl) ?_; intro W5 hb5 ho5 _; have HG5 := hide (below_only1 HB4.out ho5 HS4.out); have HP5 := hide (HP.out.later HG5.out); have HQ5 := hide hb5; clear hb5 ho5)
    | ((with_reducible refine inLd 59 ?_); refine wpIn_loadP HL.out HP5.out _ (by rfl) (by rfl) (by rfl) ?_)
    | (refine ⟨trivial, ?_⟩; gi_at_call 103; refine CallsIn.mono (callsIn_wide.2 (HKi.out _)) ?_; rintro e w6 ⟨rfl, hb⟩; have HG6 := hide (below_trans HG5.out hb); have HP6 := hide (HP5.out.later hb); have HQ6 := hide (HQ5.out.later hb); clear hb)
    | ((with_reducible refine inLd 59 ?_); refine wpIn_loadPG HL.out HP6.out _ (by rfl) (by rfl) (by rfl) ?_)
    | (refine ⟨trivial, ?_⟩; gi_at_call 104; refine CallsIn.mono (callsIn_wide.2 (HCo.out _)) ?_; rintro e w7 ⟨rfl, hb⟩; have HG7 := hide (below_trans HG6.out hb); have HP7 := hide (HP6.out.later hb); have HQ7 := hide (HQ6.out.later hb); clear hb)
    | ((with_reducible refine inLd 59 ?_); refine wpIn_loadP HL.out HP7.out _ (by rfl) (by rfl) (by rfl) ?_)
    | (refine ⟨trivial, ?_⟩; gi_at_call 106; refine CallsIn.mono (callsIn_wide.2 (HCf.out _)) ?_; rintro e w8 ⟨rfl, rfl⟩))
  have hs4 := HG7.out.size
  have hs4b := HS4.out
  have hs0 := HS.out
  have hs7 : w4.heap.size < w7.heap.size := HQ7.out.lt
  have bP := PAt.new w7 l
  have hBw : Below w.heap.size w (w7.alloc (.cells (bc l) 59)) := below_trans (below_trans HB.out HG7.out) (below_alloc _ _)
  have hF0 : FstB (w7.alloc (.cells (bc l) 59)) (w.heap.size + 1) 0 zN := Blk.later (Blk.later HF.out HG7.out) (below_alloc _ _)
  have hE0 : Blk (w7.alloc (.cells (bc l) 59)) (w.heap.size + 1 + 1) #[.int .i64 0] 35 := Blk.later (Blk.later HE.out HG7.out) (below_alloc _ _)
  have hQ0 : FstB (w7.alloc (.cells (bc l) 59)) w4.heap.size lk zN := Blk.later HQ7.out (below_alloc _ _)
  have hsz : (w7.alloc (.cells (bc l) 59)).heap.size = w7.heap.size + 1 := by simp
  rw [hs0] at hs4 hs4b
  generalize w7.heap.size = z7 at *
  generalize w4.heap.size = g at *
  generalize w7.alloc (.cells (bc l) 59) = W0 at *
  have h0 : RdI w S lk g (w.heap.size + 1) (w.heap.size + 1 + 1) W0.heap.size [] W0 := by
    refine ⟨fun x hx => (by cases hx), ?_, hF0, hE0, hBw, Nat.le_refl _⟩
    have : upN S [] = zN := by funext i; simp [upN, zN]
    rw [this]; exact hQ0
  clear HB HF HE HP HS HP5 HP6 HP7 HQ5 HQ6 HQ7 HG5 HG6 HG7 HB4 HN4 HS4 HSt HFn HCf HK HKi HCo
  refine wpIn_rangeFunc_ownH rfl (by omega) (gf := 188) (lb := #[.pointer (some ⟨z7, 0, none⟩)]) rfl trivial (enters_of Tryz.func188 (by kernel_rfl) rfl)
    (HSt9.out _ z7 (fun A B => B.heap[z7]? = A.heap[z7]?) (fun A B h => h) W0 (by omega) bP)
    (fun h h' => h'.trans h)
    (fun W l o o' hl ho _ _ => (grownBy_putObj' W l o').block _ (by have := (Array.getElem?_eq_some_iff.1 ho).1; omega) (fun e => by simp at e; omega)) (Below.refl _ _) (fun _ => rfl)
    (RdI w S lk g (w.heap.size + 1) (w.heap.size + 1 + 1) W0.heap.size) (RdX w S (w.heap.size + 1) (w.heap.size + 1 + 1) W0.heap.size) (rdI_own w S lk g _ _ _ _ (by omega)) (fun c => rdX_own w S _ _ _ _ c (by omega)) h0
    (fun x a' W => a' = raT w l lk g z7 x.val (S x.val)) (fun x a' s X Y row hs hg hr => hs) ?assign ?body ?done ?stop
  case assign =>
    intro lp pre x W Kk hI hKk
    have HKk := hide hKk
    have HI := hide hI
    clear hKk hI
    simp only [encC]
    gi_wp2
    exact HKk.out _ _ (KeepsFrom.of_grownBy (grown_of_below (below_refl W)) (fun j e => by cases e)) rfl HI.out rfl
  case body =>
    rintro lp pre x a' W hlp hr ⟨hgd, hQ, hF, hE, hB, hz⟩ rfl hlt
    have HQ := hide hQ
    have HF := hide hF
    have HE := hide hE
    have HB := hide hB
    have HGd := hide hgd
    have HI0 := hide (sizeF 0 zN)
    have HO0 := hide (fstL_one 0 zN)
    have hx9 := x.isLt
    have cE : W.cell? ⟨w.heap.size + 1 + 1, 0, none⟩ = some (.int .i64 0) := hE.cell 0
    have HBad : Hid (∀ V, Only [w.heap.size + 1] W V → KeepsOthers W V → FstB V (w.heap.size + 1) 0 zN → ¬ good S x.val → ownPostG W0.heap.size (fun A B => B.heap[z7]? = A.heap[z7]?) (RdI w S lk g (w.heap.size + 1) (w.heap.size + 1 + 1) W0.heap.size) (RdX w S (w.heap.size + 1) (w.heap.size + 1 + 1) W0.heap.size) (pre ++ [x]) W Exit.ret (raT w l lk g z7 x.val (S x.val)) (V.setCell ⟨w.heap.size + 1 + 1, 0, none⟩ (.int .i64 8))) := fun V ho hk hf hng => by
      have ho2 := Only.setCell V ⟨w.heap.size + 1 + 1, 0, none⟩ (.int .i64 8)
      refine ⟨(hk.trans (KeepsOthers.setCell _ _ _)).from _, rfl, ⟨x.val, hx9, hng⟩, Blk.only hf ho2 (by simp), (hE.only ho (by simp)).set 0 (.int .i64 8), ?_, ?_⟩
      · exact below_only1 (below_only1 hB ho (by omega)) ho2 (by show w.heap.size ≤ w.heap.size + 1 + 1; omega)
      · have := ho.size; have := ho2.size; omega
    clear hQ hF hE hB hgd
    by_cases hx0 : x.val = 0
    · have HUp := hide (upN_snoc0 S pre x hx0)
      rw [hx0] at HBad ⊢
      by_cases hm : S 0 = markS
      · have HNx : Hid (∀ y ∈ pre ++ [x], good S y.val) := fun y hy => by
          rcases List.mem_append.1 hy with hy | hy
          · exact HGd.out y hy
          · rw [List.mem_singleton.1 hy]; unfold good; rw [if_pos hx0]; exact hm
        simp only [raT]
        rw [hm]
        clear hm hx0
        have hmk : markS = ⟨#[98, 117, 114, 101, 97, 117, 32, 49]⟩ := rfl
        rw [hmk]
        gi_wp2
        exact ⟨KeepsFrom.of_grownBy (grown_of_below (below_refl W)) (fun j e => by cases e), rfl, HNx.out, by rw [HUp.out]; exact HQ.out, HF.out, HE.out, HB.out, hz⟩
      · have hng : ¬ good S 0 := fun h => hm (by simpa [good] using h)
        have hb3 : ((S 0).toList == [98, 117, 114, 101, 97, 117, 32, 49]) = false :=
          Bool.eq_false_iff.2 (fun h => hm (by rw [beq_iff_eq, ByteArray.toList_eq] at h; exact ByteArray.ext (Array.toList_inj.mp h)))
        simp only [raT]
        clear hm hx0
        generalize S 0 = s0 at *
        gi_wp2_with (first
          | ((with_reducible refine inSt 105 ?_); refine wpIn_storeB (c := (fstL 0 zN).toArray) HI0.out rfl HO0.out HF.out _ _ (by rfl) (by rfl) (by rfl) (by rfl) ?_; intro W8 hb8 ho8 hk8; have HF8 := hide hb8; have HO8 := hide ho8; have HK8 := hide hk8; have HE8 := hide (HE.out.only ho8 (by simp)); have c8 := (HE8.out.cell 0).trans (show _ = some (Value.int .i64 0) from rfl); have f8 := HE8.out.frozen 0; clear hb8 ho8 hk8))
        exact HBad.out _ HO8.out HK8.out HF8.out hng
    · obtain ⟨k, hk1⟩ : ∃ k, x.val = k + 1 := ⟨x.val - 1, by omega⟩
      have hk8 : k < 8 := by omega
      have HUp := hide (upN_snoc S pre x hk1)
      have hgo : good S x.val ↔ (S x.val).size = 4 := by unfold good; rw [if_neg hx0]
      have l1 : ¬ ((x.val : Nat) : Int) = 0 := by omega
      have l2 : (0 : Int) < ((x.val : Nat) : Int) := by omega
      by_cases hs4' : (S x.val).size = 4
      · have HNx : Hid (∀ y ∈ pre ++ [x], good S y.val) := fun y hy => by
          rcases List.mem_append.1 hy with hy | hy
          · exact HGd.out y hy
          · rw [List.mem_singleton.1 hy]; exact hgo.2 hs4'
        have HNm := hide (fun V => number_e V (S x.val) hs4')
        have hS4 : ((S x.val).size : Int) = 4 := by omega
        generalize hsx : S x.val = sx at HNm hS4 HUp ⊢
        have hw : IntKind.i64.wrap (((k + 1 : Nat) : Int) - 1) = (k : Int) := by rw [IntKind.wrap_i64]; omega
        have hkI : (0 : Int) ≤ (k : Int) := by omega
        have hkI8 : (k : Int) < 8 := by omega
        have ck : ∃ y : Nat, W.cell? ⟨g, 1 + k, none⟩ = some (.int .u32 (y : Int)) := ⟨_, HQ.out.nums k _ (nmL_get _ hk8)⟩
        obtain ⟨y, ck⟩ := ck
        have fk := HQ.out.frozen (1 + k)
        simp only [raT]
        rw [hk1]
        gi_wp2_with (first
          | (first | refine ⟨trivial, ?_⟩ | refine ⟨trivial, (fun h => absurd h (by decide)), ?_⟩); gi_at_call 199; refine CallsIn.mono (CallsIn.inRound _ (callsIn_wide.2 (HNm.out _))) ?_; rintro e w3 ⟨rfl, rfl⟩)
        have ho := Only.setCell W ⟨g, 1 + k, none⟩ (.int .u32 (numS sx : Int))
        have hgz : g < W0.heap.size := by omega
        refine ⟨(KeepsOthers.setCell _ _ _).from _, Below.heap_setCell W ⟨g, 1 + k, none⟩ _ z7 (by show z7 ≠ g; omega), HNx.out, ?_, Blk.only HF.out ho (by simp; omega), Blk.only HE.out ho (by simp; omega), below_only1 HB.out ho (by show w.heap.size ≤ g; omega), by have := ho.size; omega⟩
        have := HQ.out.set (1 + k) (.int .u32 (numS sx : Int))
        rw [fst_set lk _ hk8] at this
        rw [HUp.out]
        exact this
      · have hng : ¬ good S x.val := fun h => hs4' (hgo.1 h)
        have hS4 : ¬ ((S x.val).size : Int) = 4 := by omega
        have hS4b : (((S x.val).size : Int) == 4) = false := by simpa using hS4
        generalize S x.val = sx at *
        simp only [raT]
        rw [hk1] at l1 l2 ⊢
        gi_wp2_with (first
          | ((with_reducible refine inSt 105 ?_); refine wpIn_storeB (c := (fstL 0 zN).toArray) HI0.out rfl HO0.out HF.out _ _ (by rfl) (by rfl) (by rfl) (by rfl) ?_; intro W8 hb8 ho8 hkk8; have HF8 := hide hb8; have HO8 := hide ho8; have HK8 := hide hkk8; have HE8 := hide (HE.out.only ho8 (by simp)); have c8 := (HE8.out.cell 0).trans (show _ = some (Value.int .i64 0) from rfl); have f8 := HE8.out.frozen 0; clear hb8 ho8 hkk8))
        exact HBad.out _ HO8.out HK8.out HF8.out hng
  case done =>
    rintro D xs W hD rfl ⟨hgd, hQ, hF, hE, hB, hz⟩ hK0
    obtain ⟨hrv, hre⟩ := HRd.out W (fun i hi => hgd ⟨i, hi⟩ (List.mem_finRange _))
    subst hrv hre
    have hfin : fstL lk (upN S (List.finRange 9)) = fstL lk RN := fst_congr lk (fun i hi => by rw [upN_all S i hi, HRn.out])
    rw [show FstB W g lk (upN S (List.finRange 9)) = Blk W g (fstL lk (upN S (List.finRange 9))).toArray _ from rfl, hfin] at hQ
    have HQ := hide hQ
    have HF := hide hF
    have HE := hide hE
    have HB := hide hB
    have HIn := hide (sizeF lk RN)
    have HOn := hide (fstL_one lk RN)
    have HSn := hide (size_fst lk 0 RN zN)
    have HD := hide hK0
    clear hQ hF hE hB hK0 hfin
    gi_wp2_with (first
      | ((with_reducible refine inLd 105 ?_); refine wpIn_loadB (c := (fstL lk RN).toArray) HIn.out uF HQ.out _ (by rfl) (by rfl) (by rfl) ?_)
      | ((with_reducible refine inSt 105 ?_); refine wpIn_storeB (c := (fstL lk RN).toArray) HIn.out HSn.out HOn.out HF.out _ _ (by rfl) (by rfl) (by rfl) (by rfl) ?_; intro W8 hb8 ho8 hk8; have HF8 := hide hb8; have HO8 := hide ho8; have HE8 := hide (HE.out.only ho8 (by simp)); have c8 := (HE8.out.cell 0).trans (show _ = some (Value.int .i64 0) from rfl); have f8 := HE8.out.frozen 0; clear hb8 ho8 hk8))
    have ho2 := Only.setCell W8 ⟨w.heap.size + 1 + 1, 0, none⟩ (.int .i64 0)
    have hK8 : (W8.setCell ⟨w.heap.size + 1 + 1, 0, none⟩ (.int .i64 0)).heap[D]? = some (.deferred (some [])) := (ho2.block D (by have := HO8.out.size; have := (Array.getElem?_eq_some_iff.1 HD.out).1; omega) (by simp; omega)).trans ((HO8.out.block D (Array.getElem?_eq_some_iff.1 HD.out).1 (by simp; omega)).trans HD.out)
    have hb8 := below_only1 (below_only1 HB.out HO8.out (by omega)) ho2 (by show w.heap.size ≤ w.heap.size + 1 + 1; omega)
    have hF9 : FstB (W8.setCell ⟨w.heap.size + 1 + 1, 0, none⟩ (.int .i64 0)) (w.heap.size + 1) lk RN := Blk.only HF8.out ho2 (by simp)
    have hE9 := HE8.out.set 0 (.int .i64 0)
    refine ⟨by simp, .inl ⟨_, _, rfl, run_takeDeferred hK8, ?_⟩⟩
    exact ⟨_, res_cells2 (c := (fstL lk RN).toArray) HIn.out uF Tryz.results121 rfl rfl (put_blk hF9 hK8) (put_blk hE9 hK8), rfl, hb8.trans (belowK_b (w := w) (Nat.le_refl _) _ D _ _ (by omega) hK8)⟩
  case stop =>
    rintro D cc pre W hD _ ⟨rfl, hbad, hF, hE, hB, hz⟩ hK0
    obtain ⟨hrv, hre⟩ := HRx.out hbad
    subst hrv hre
    have HI0 := hide (sizeF 0 zN)
    gi_wp2
    refine ⟨by simp, .inl ⟨_, _, rfl, run_takeDeferred hK0, ?_⟩⟩
    exact ⟨_, res_cells2 (c := (fstL 0 zN).toArray) HI0.out uF Tryz.results121 rfl rfl (put_blk hF hK0) (put_blk hE hK0), rfl, hB.trans (belowK_b (w := w) (Nat.le_refl _) _ D _ _ (by omega) hK0)⟩
end Go.Proofs.YthgclfhfipfknaaGreat
