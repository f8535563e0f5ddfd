/- A record is laid. -/
/- The steps that lay pages aside. -/
import Derived.Test.YtfcgjedanhmpiaaAKB
import Derived.Test.YtfcgjedanhmpiaaAJS
import Derived.Great.BuildSlice
namespace Go.Proofs.Ytfcgjedanhmpiaa
open Go.ChangeShapes Go.WideShapes Go.ChangeAt Go.RowKit
open Go.ChangeMaps (setBlock)
set_option linter.unusedVariables false

theorem recordStart_j (w : World) (k : Nat) (hk : k ≤ 10000) : Calls Try.prog 40 #[.int .i64 (k : Int)] w fun e w' => e = .returned (.int .i64 ((64 + 320 * k : Nat) : Int)) ∧ w = w' := by
  have e1 : IntKind.i64.wrap (320 * (k : Int)) = 320 * (k : Int) := by rw [IntKind.wrap_i64]; omega
  have e2 : IntKind.i64.wrap (64 + 320 * (k : Int)) = 64 + 320 * (k : Int) := by rw [IntKind.wrap_i64]; omega
  go_enter Try.func40, Try.ntmps40
  go_wp2
  go_ret
  exact ⟨by simp, rfl⟩
def z320 : List UInt8 := List.replicate 320 0
theorem z320_length : z320.length = 320 := List.length_replicate ..
theorem made320 (V : World) : (Instr.makeSlice 43 (.int .i64 320) (.int .i64 320)).run Try.prog V = .ok (.slice (some ⟨V.heap.size, 0, none⟩) 320 320) (V.alloc (.cells (bcs z320).toArray 5)) := by
  have hinf : (Try.prog.info? 5).map (fun i => (i.zero, i.size, i.bytes)) = some (some (.int .u8 0), 1, 1) := by kernel_rfl
  obtain ⟨i, h1, h2⟩ := Option.map_eq_some_iff.1 hinf
  simp only [Prod.mk.injEq] at h2
  have := run_makeSlice (P := Try.prog) V 43 5 i (.int .u8 0) Try.underlying43 h1 h2.1 .i64 .i64 320 320 (by omega) (by omega) (by rw [h2.2.1]; decide) (by rw [h2.2.2]; decide) (by omega)
  rw [this, h2.2.1]
  have e : madeCells (Value.int .u8 0).cells (Int.toNat 320 * 1) = (bcs z320).toArray := by kernel_rfl
  rw [e]
  rfl
theorem step_copyS {ops : Array Oper} {o : Oper} {a : Act} {K : Act → World → Prop} {Q : Exit → Act → World → Prop} {E : Prop} {W : World} {g off sb so m dl dc sc : Nat} {t : TypeId} {z d : List UInt8} (hg : Blk W g (bcs z).toArray t) (hsrc : W.rangeAt sb so (bcs d)) (hm : d.length = m) (hoff : off + m ≤ z.length) (hdl : m ≤ dl) (x y : Operand)
    (hgd : o.guard = none) (ho : o.op = .call { callee := .builtin .copy, args := #[x, y], argTypes := #[43, 43] }) (hx : a.eval x = .slice (some ⟨g, off, none⟩) dl dc) (hy : a.eval y = .slice (some ⟨sb, so, none⟩) m sc)
    (hk : ∀ W', Blk W' g (bcs (splice z off d)).toArray t → Only [g] W W' → K (a.put o.dst (goInt m)) W') :
    if Region.wanted o (yielded ops a.tmps) = true then Oper.wp Try.prog o a W K Q else E := by
  have hw : Region.wanted o (yielded ops a.tmps) = true := by simp [Region.wanted, hgd]
  rw [if_pos hw]
  have hr := run_copy_row (P := Try.prog) W 43 43 o.type 5 g off dl dc ⟨sb, so, none⟩ m sc (bcs z).toArray t (bcs d) Try.underlying43 (by kernel_rfl) hg (by rw [length_bcs, hm]; exact (Nat.min_eq_left hdl).symm) (fun j v hv => by
    rw [show (⟨sb, so, none⟩ : Addr).add j = ⟨sb, so + j, none⟩ by unfold Addr.add; split <;> simp_all]
    exact hsrc j v hv) (by rw [List.size_toArray, length_bcs, length_bcs]; omega) (one_bcs d)
  unfold Oper.wp execOp
  simp only [ho, resolve, invoke, builtin, Sem.run_bind, Sem.run_pure, Result.andThen_ok, List.map_toArray, List.map_cons, List.map_nil, hx, hy, hr]
  have hl : (bcs d).length = m := by rw [length_bcs, hm]
  rw [hl]
  refine hk _ ?_ ⟨rfl, rfl, rfl, by simp [World.setRow], fun k _ hk => setRow_other W g k _ (fun e => hk (by simp [e]))⟩
  have := setRow_heap W g (bcs z).toArray (((bcs z).toArray.toList.take off ++ bcs d ++ (bcs z).toArray.toList.drop (off + m)).toArray) t (0, 0) hg
  have e : ((bcs z).toArray.toList.take off ++ bcs d ++ (bcs z).toArray.toList.drop (off + m)) = bcs (splice z off d) := by rw [bcs_splice]; simp [splice, length_bcs, hm]
  rw [e] at this ⊢
  exact this
theorem rec_gen {b p : List UInt8} {a : Nat} (hb : b.length = 4) (hp : p.length = 256) (ha : a = 320) : splice (splice (List.replicate a 0) 0 b) 64 p = b ++ (List.replicate 60 0 ++ p) := by
  have e : splice (List.replicate a (0 : UInt8)) 0 b = b ++ List.replicate (a - 4) 0 := by
    unfold splice
    rw [List.take_zero, List.nil_append, List.drop_replicate, hb]
  rw [e]
  unfold splice
  rw [List.take_append, hb, List.take_of_length_le (by omega), List.take_replicate, List.drop_of_length_le (by rw [List.length_append, List.length_replicate]; omega), List.append_nil, List.append_assoc, show min (64 - 4) (a - 4) = 60 by omega]
theorem rec_splice (n : Nat) {p : List UInt8} (h : p.length = 256) : splice (splice z320 0 (be4 n)) 64 p = recB n p := rec_gen (length_be4 n) h rfl
theorem u8_3m (n : Nat) : (n : Int) / 256 / 256 / 256 % 256 = ((UInt8.ofNat (n / 16777216)).toNat : Int) := by
  have : (UInt8.ofNat (n / 16777216)).toNat = n / 16777216 % 256 := UInt8.toNat_ofNat'
  omega
theorem word_blk {W : World} {g n : Nat} {l : List UInt8} {t : TypeId} (hb : Blk W g (bcs l).toArray t) (hn : n < 4294967296) (hcs : 0 + 4 ≤ l.length) :
    Blk ((((W.setCell ⟨g, 3, none⟩ (.int .u8 ((n : Int) % 256))).setCell ⟨g, 2, none⟩ (.int .u8 ((n : Int) / 256 % 256))).setCell ⟨g, 1, none⟩ (.int .u8 ((n : Int) / 256 / 256 % 256))).setCell ⟨g, 0, none⟩ (.int .u8 ((n : Int) / 256 / 256 / 256 % 256))) g (bcs (splice l 0 (be4 n))).toArray t ∧
    Only [g] W ((((W.setCell ⟨g, 3, none⟩ (.int .u8 ((n : Int) % 256))).setCell ⟨g, 2, none⟩ (.int .u8 ((n : Int) / 256 % 256))).setCell ⟨g, 1, none⟩ (.int .u8 ((n : Int) / 256 / 256 % 256))).setCell ⟨g, 0, none⟩ (.int .u8 ((n : Int) / 256 / 256 / 256 % 256))) := by
  refine ⟨?_, (((onlyAt W g 3 _).trans (onlyAt _ g 2 _)).trans (onlyAt _ g 1 _)).trans (onlyAt _ g 0 _)⟩
  have h := (((hb.set 3 (.int .u8 ((n : Int) % 256))).set 2 (.int .u8 ((n : Int) / 256 % 256))).set 1 (.int .u8 ((n : Int) / 256 / 256 % 256))).set 0 (.int .u8 ((n : Int) / 256 / 256 / 256 % 256))
  have e : ((((bcs l).toArray.setIfInBounds 3 (.int .u8 ((n : Int) % 256))).setIfInBounds 2 (.int .u8 ((n : Int) / 256 % 256))).setIfInBounds 1 (.int .u8 ((n : Int) / 256 / 256 % 256))).setIfInBounds 0 (.int .u8 ((n : Int) / 256 / 256 / 256 % 256)) = (bcs (splice l 0 (be4 n))).toArray := by
    rw [u8_0, u8_1, u8_2, u8_3m n]
    simp only [List.setIfInBounds_toArray]
    have := splice_four (bcs l) 0 (Value.int .u8 ((UInt8.ofNat (n / 16777216)).toNat : Int)) (Value.int .u8 ((UInt8.ofNat (n / 65536)).toNat : Int)) (Value.int .u8 ((UInt8.ofNat (n / 256)).toNat : Int)) (Value.int .u8 ((UInt8.ofNat n).toNat : Int)) (by rw [length_bcs]; exact hcs)
    rw [bcs_splice]
    simp only [Nat.zero_add] at this
    rw [this]
    rfl
  rw [e] at h
  exact h

set_option maxHeartbeats 4000000 in
set_option maxRecDepth 100000 in
theorem layRecord_j (w : World) (n : Nat) (hn : n < 4294967296) (p : List UInt8) (hp : p.length = 256) :
    Calls Try.prog 38 #[.agg (pcl (n : Int) p).toArray] w fun e w' => e = .returned (.string (bstr (recB n p))) ∧ w.grownBy w' none := by
  obtain ⟨X, hX⟩ : ∃ X, X = (pcl (n : Int) p).toArray := ⟨_, rfl⟩
  obtain ⟨Z, hZ⟩ : ∃ Z, Z = (bcs z320).toArray := ⟨_, rfl⟩
  have hmk := made320
  rw [← hZ] at hmk
  rw [← hX]
  have hbx : Blk (w.alloc (.cells X 67)) w.heap.size X 67 := alloc_new _ _
  have HBx : Hid (Blk ((w.alloc (.cells X 67)).alloc (.cells Z 5)) w.heap.size X 67) := (Below.heap_alloc _ _ _ hbx.lt).trans hbx
  have HBz : Hid (Blk ((w.alloc (.cells X 67)).alloc (.cells Z 5)) (w.heap.size + 1) (bcs z320).toArray 5) := by
    have := alloc_new (w.alloc (.cells X 67)) (.cells Z 5)
    rw [show (w.alloc (.cells X 67)).heap.size = w.heap.size + 1 by simp, hZ] at this
    rw [hZ]; exact this
  have HG : Hid (w.grownBy ((w.alloc (.cells X 67)).alloc (.cells Z 5)) none) := grown_trans' (World.grownBy_alloc _ _ _) (World.grownBy_alloc _ _ _)
  have hw1 : IntKind.u32.wrap (n : Int) = (n : Int) := by rw [IntKind.wrap_u32]; omega
  have cX := (HBx.out.cell 0).trans (show _ = some (Value.int .i64 (n : Int)) by rw [hX]; rfl)
  have HN := hideJ hn
  have HP := hideJ hp
  have HX := hideJ hX
  clear hbx hZ hX hn hp
  go_enter Try.func38, Try.ntmps38
  go_upto_region 3 with fail
  go_name_world W hW
  rw [hW] at HG HBx HBz cX
  have c0 := (HBz.out.cell 0).trans (show _ = some (Value.int .u8 0) from rfl)
  have c1 := (HBz.out.cell 1).trans (show _ = some (Value.int .u8 0) from rfl)
  have c2 := (HBz.out.cell 2).trans (show _ = some (Value.int .u8 0) from rfl)
  have c3 := (HBz.out.cell 3).trans (show _ = some (Value.int .u8 0) from rfl)
  have f0 := HBz.out.frozen 0
  have f1 := HBz.out.frozen 1
  have f2 := HBz.out.frozen 2
  have f3 := HBz.out.frozen 3
  have HWb := hideJ (word_blk HBz.out HN.out (by rw [z320_length]; omega))
  clear hW
  go_wp2
  refine wp_loop_rounds 5 ?_
  rw [rounds_succ]
  go_wp2
  rw [rounds_succ]
  go_wp2
  rw [rounds_succ]
  go_wp2
  rw [rounds_succ]
  go_wp2
  rw [rounds_succ]
  go_wp2_with fail
  go_name_world W4 hW4
  rw [hW4] at HWb
  have HX4 : Hid (Blk W4.drew w.heap.size X 67) := Blk.grown (only_blk (g := w.heap.size + 1) HBx.out HWb.out.2 (by omega)) (World.grownBy_drew W4)
  have HB4 : Hid (Blk W4.drew (w.heap.size + 1) (bcs (splice z320 0 (be4 n))).toArray 5) := HWb.out.1
  have HG4 := hideJ (grown_trans' (grown_only HG.out HWb.out.2 (by omega)) (World.grownBy_drew W4))
  have HR4 : Hid (W4.drew.rangeAt w.heap.size 1 (bcs p)) := fun j v hv => by
    rw [HX4.out.cell, HX.out, Nat.add_comm]
    simpa [pcl] using hv
  have HS3 : Hid (splice (splice z320 0 (be4 n)) 64 p = recB n p ∧ (splice z320 0 (be4 n)).length = 320) := ⟨rec_splice n HP.out, by rw [length_splice _ _ _ (by rw [length_be4, z320_length]; omega)]; exact z320_length⟩
  have HL3 := hideJ (recB_length n HP.out)
  clear c0 c1 c2 c3 f0 f1 f2 f3 hW4 cX
  go_region_held3 (fun V => True) (exact trivial) (first
    | (refine step_copyS (off := 64) (dl := 256) (d := p) (z := splice z320 0 (be4 n)) HB4.out HR4.out HP.out (by rw [HS3.out.2]; omega) (by omega) _ _ (by rfl) (by rfl) (by rfl) (by rfl) ?_; intro W5 hb5 ho5; rw [HS3.out.1] at hb5; have HG5 := hideJ (grown_only HG4.out ho5 (by omega)); have hcv := conv_blk HL3.out hb5 320; clear hb5 ho5))
  all_goals (try go_wp2)
  go_ret
  exact ⟨rfl, HG5.out⟩
end Go.Proofs.Ytfcgjedanhmpiaa

namespace Go.Proofs.Ytfcgjedanhmpiaa
open Go.ChangeShapes Go.WideShapes Go.ChangeAt Go.RowKit
open Go.ChangeMaps (setBlock)
set_option linter.unusedVariables false

/-- Numbers in memory. -/
def IntA (w : World) (q : Option Addr) (m : Nat) (T : Nat → Nat) : Prop := 0 < m → ∃ g, ∃ cur : Array Value, q = some ⟨g, 0, none⟩ ∧ Blk w g cur 3 ∧ ∀ k, k < m → cur[k]? = some (.int .i64 (T k : Int))
theorem IntA.grown {w w' : World} {q : Option Addr} {m : Nat} {T : Nat → Nat} (h : IntA w q m T) (hg : w.grownBy w' none) : IntA w' q m T := fun h0 => by
  obtain ⟨g, cur, e, hb, hc⟩ := h h0
  exact ⟨g, cur, e, hb.grown hg, hc⟩
theorem IntA.app {w w' : World} {base m : Nat} {q : Option Addr} {T : Nat → Nat} (h : IntA w q m T) (hg : App base w w') : IntA w' q m T := fun h0 => by
  obtain ⟨g, cur, e, hb, hc⟩ := h h0
  exact ⟨g, cur, e, hg.blk _ _ _ (by decide) hb, hc⟩
theorem IntO.form {w : World} {base : Nat} {v : Value} {l : List Nat} (h : IntO w base v l) : ∃ q c, v = .slice q l.length c ∧ IntA w q l.length (fun k => l.getD k 0) := by
  obtain ⟨q, c, rfl, hown⟩ := h
  refine ⟨q, c, rfl, fun h0 => ?_⟩
  rcases hown.2 with ⟨e, hz⟩ | ⟨g, cap, cur, e, hbg, hg, hnc, hcm, hcs, htake⟩
  · omega
  · cases e
    refine ⟨g, cur, rfl, hg, fun k hk => ?_⟩
    have h1 : cur.toList[k]? = (ivs l)[k]? := by rw [← htake, List.getElem?_take, if_pos (by omega)]
    rw [← Array.getElem?_toList, h1]
    simp [ivs, hk, List.getD]
theorem fill_one {s : Nat} {Z X : Array Value} (hZ : Z.size = s) (hX : X.size = s) : Instr.fill (fun i => some (i * s, s)) Z [(0, .agg X)] = some X := by
  unfold Instr.fill
  have e : (Value.agg X).cells = X := rfl
  simp only [Nat.zero_mul, e, hX, hZ]
  rw [if_neg (by simp)]
  unfold Instr.fill
  have h := fold_set X Z 0 s hX.symm (by omega)
  simp only [Nat.zero_add] at h
  have e2 : Array.foldl (fun cs x => cs.setIfInBounds (0 + x.2) x.1) Z X.zipIdx = (splice Z.toList 0 X.toList).toArray := by
    have := fold_set X Z 0 X.zipIdx.size (by simp) (by omega)
    exact this
  rw [e2]
  have e3 : splice Z.toList 0 X.toList = X.toList := by
    unfold splice
    rw [List.take_zero, List.nil_append, List.drop_of_length_le (by simp; omega), List.append_nil]
  rw [e3]
theorem wp_bs1 {ops : Array Oper} {rest : List Oper} {o : Oper} {a : Act} {Q : Exit → Act → World → Prop} {w : World} {t e size bytes : Nat} {X : Array Value} (hu : Try.prog.underlying t = some (.slice e)) (hinf : InfoE e size bytes) (hpos : 0 < size) (hsm : size ≤ 1000) (hX : X.size = size) (x : Operand)
    (hg : o.guard = none) (ho : o.op = .buildSlice t 1 #[(0, x)]) (hv : a.eval x = .agg X) (hk : wpList Try.prog ops Q rest (a.put o.dst (.slice (some ⟨w.heap.size, 0, none⟩) 1 1)) (w.alloc (.cells X e))) : wpList Try.prog ops Q (o :: rest) a w := by
  obtain ⟨i0, z, hi, hz0, hz1, hz2, hz3⟩ := hinf
  have e1 : ((([(0, x)] : List (Nat × Operand)).toArray).map fun (i, x) => (i, a.eval x)).toList = [(0, .agg X)] := by rw [List.map_toArray]; simp [hv]
  refine wpList_buildSlice hg t e 1 ([(0, x)] : List (Nat × Operand)).toArray ho X i0 z hu hi hz0 (by rw [hz1]; omega) (by rw [hz1]; omega) ?_ hk
  rw [e1, hz1]
  exact fill_one (by simp) hX
theorem atBs22 {P : Program} {ops : Array Oper} {Q : Exit → Act → World → Prop} {d : Option Tmp} {ps : Array (Nat × Operand)} {ty : TypeId} {pos : String} {af : Array Edge} {gd : Option (Nat × Bool)} {rest : List Oper} {a : Act} {w : World} (h : wpList P ops Q ({ dst := d, op := .buildSlice 22 1 ps, type := ty, pos := pos, after := af, guard := gd } :: rest) a w) : wpList P ops Q ({ dst := d, op := .buildSlice 22 1 ps, type := ty, pos := pos, after := af, guard := gd } :: rest) a w := h
theorem atBs39 {P : Program} {ops : Array Oper} {Q : Exit → Act → World → Prop} {d : Option Tmp} {ps : Array (Nat × Operand)} {ty : TypeId} {pos : String} {af : Array Edge} {gd : Option (Nat × Bool)} {rest : List Oper} {a : Act} {w : World} (h : wpList P ops Q ({ dst := d, op := .buildSlice 39 1 ps, type := ty, pos := pos, after := af, guard := gd } :: rest) a w) : wpList P ops Q ({ dst := d, op := .buildSlice 39 1 ps, type := ty, pos := pos, after := af, guard := gd } :: rest) a w := h
theorem atB67 {P : Program} {ops : Array Oper} {Q : Exit → Act → World → Prop} {d : Option Tmp} {ps : Array (Nat × Operand)} {ty : TypeId} {pos : String} {af : Array Edge} {gd : Option (Nat × Bool)} {rest : List Oper} {a : Act} {w : World} (h : wpList P ops Q ({ dst := d, op := .build 67 ps, type := ty, pos := pos, after := af, guard := gd } :: rest) a w) : wpList P ops Q ({ dst := d, op := .build 67 ps, type := ty, pos := pos, after := af, guard := gd } :: rest) a w := h
theorem built67_fill (parts : List (Nat × Value)) : Try.prog.built 67 parts = Instr.fill (#[(0, 1), (1, 256)][·]?) Try.zeroCells67 parts := by
  have hi : (Try.prog.info? 67).map (·.zero) = some (some (.agg Try.zeroCells67)) := by kernel_rfl
  obtain ⟨it, h1, h2⟩ := Option.map_eq_some_iff.1 hi
  have hf : ∃ fs, Try.prog.underlying 67 = some (.struct fs) ∧ fs.toList.mapM (fun f => (Try.prog.info? f.type).map fun i => (f.offset, i.size)) = some [(0, 1), (1, 256)] := ⟨_, Try.underlying67, by kernel_rfl⟩
  obtain ⟨fs, h3, h4⟩ := hf
  unfold Program.built
  rw [h1, h3]
  simp only [h2, h4]
  rfl
theorem fill_step {place : Nat → Option (Nat × Nat)} {cells : Array Value} {i off size : Nat} {v : Value} {rest : List (Nat × Value)} (hp : place i = some (off, size)) (hv : v.cells.size = size) (hl : off + size ≤ cells.size) : Instr.fill place cells ((i, v) :: rest) = Instr.fill place (splice cells.toList off v.cells.toList).toArray rest := by
  rw [Instr.fill, hp]
  simp only
  rw [if_neg (by simp [hv]; omega)]
  have := fold_set v.cells cells off v.cells.zipIdx.size (by simp) (by omega)
  rw [this]
theorem built67 (n : Int) {p : List UInt8} (h : p.length = 256) : Try.prog.built 67 [(0, .int .i64 n), (1, .agg (bcs p).toArray)] = some (pcl n p).toArray := by
  have hz : Try.zeroCells67.size = 257 := by kernel_rfl
  have hl : Try.zeroCells67.toList.length = 257 := by rw [Array.length_toList]; exact hz
  have hb : (bcs p).length = 256 := by rw [length_bcs, h]
  rw [built67_fill, fill_step (off := 0) (size := 1) rfl rfl (by omega), fill_step (off := 1) (size := 256) rfl (by show (bcs p).toArray.size = 256; rw [List.size_toArray]; exact hb) (by simp [splice]; omega)]
  unfold Instr.fill
  congr 2
  show splice (splice Try.zeroCells67.toList 0 [.int .i64 n]) 1 (bcs p) = pcl n p
  unfold splice pcl
  simp [hb]
theorem wp_b67g {ops : Array Oper} {rest : List Oper} {o : Oper} {a : Act} {Q : Exit → Act → World → Prop} {w : World} {n : Int} {p : List UInt8} (h : p.length = 256) (x y : Operand) (hg : o.guard = none) (ho : o.op = .build 67 #[(0, x), (1, y)]) (hx : a.eval x = .int .i64 n) (hy : a.eval y = .agg (bcs p).toArray)
    (hk : wpList Try.prog ops Q rest (a.put o.dst (.agg (pcl n p).toArray)) w) : wpList Try.prog ops Q (o :: rest) a w :=
  wp_b67l (built67 n h) [(0, x), (1, y)] hg ho (by simp [hx, hy]) hk

set_option maxHeartbeats 8000000 in
set_option maxRecDepth 20000 in
theorem aside_any (w : World) (base b : Nat) (D : DS) (who : Nat → Nat) (R : Rep w base b D who) {r : Int} {i : Nat} (h : JI r D i) (count old : Nat) (hold : (seenOf D nmD).length = 256 * old) (hco : count ≤ 5000) (p : Option Addr) (n cap : Nat) (N : Nat → Nat) (L : Nat → List UInt8) (hp : PgA w p n (fun k => (N k : Int)) L) (hn : n ≤ 5000) (hN : Rise count n N)
    (T : Nat → Nat) (P : Nat → List UInt8) (m : Nat) (hT : T = touT old count n N) (hP : P = fun j => pgL (seenOf D nmD) (T j)) (hm : m = (touchL old count n N).length) :
    Calls Try.prog 26 #[.agg #[.pointer (some ⟨b, 0, none⟩)], .int .i64 (count : Int), .slice p n cap] w fun e w' => (∃ q c', e = .returned (.slice q (2 + m + 3) c') ∧ StA w' b q (2 + m + 3) (asdS (seenOf D nmJ) old m T P)) ∧ w.grownBy w' none := by
  have hg0 := World.grownBy_alloc w (.cells #[.pointer (some ⟨b, 0, none⟩)] 53) none
  have hb0 : Blk (w.alloc (.cells #[.pointer (some ⟨b, 0, none⟩)] 53)) w.heap.size #[.pointer (some ⟨b, 0, none⟩)] 53 := alloc_new _ _
  have ho6 : old ≤ 30 := by have := h.len nmD; omega
  have hrise := touT_rise (old := old) hN
  rw [← hT, ← hm] at hrise
  have hm30 : m ≤ 30 := by rw [hm]; exact Nat.le_trans (touch_few hN) ho6
  have HCt : Hid (∀ V, w.grownBy V none → Calls Try.prog 9 #[.pointer (some ⟨b, 0, none⟩)] V fun e w' => e = .returned (.int .i64 (old : Int)) ∧ V.grownBy w' none) := fun V hV => by
    have := count_j V base b D who (R.keep hV) h
    rw [show (seenOf D nmD).length / 256 = old by omega] at this
    exact this
  have HTn : Hid (∀ V, w.grownBy V none → Calls Try.prog 37 #[.int .i64 (old : Int), .int .i64 (count : Int), .slice p n cap] V fun e w' => (∃ q c', e = .returned (.slice q m c') ∧ IntA w' q m T) ∧ V.grownBy w' none) := fun V hV => by
    refine (touched_any V old count (by omega) p n cap N L (hp.grown hV) hn).mono ?_
    rintro e w' ⟨⟨v, rfl, hv⟩, hg⟩
    obtain ⟨q, c, rfl, hA⟩ := hv.form
    rw [← hm] at hA ⊢
    exact ⟨⟨q, c, rfl, by rw [hT]; exact hA⟩, hg⟩
  have HRn : Hid (∀ V, w.grownBy V none → Calls Try.prog 36 #[.agg #[.pointer (some ⟨b, 0, none⟩)]] V fun e w' => (∃ v, e = .returned v ∧ StO w' V.heap.size b v 2 (renS (seenOf D nmJ))) ∧ V.grownBy w' none) := fun V hV => renew_j V base b D who (R.keep hV) h
  have HSy := hideJ (fun V => sync_c V b nmJ)
  have HPh : Hid (∀ V, Calls Try.prog 42 #[.agg #[.pointer (some ⟨b, 0, none⟩)], .agg #[.int .u32 ((m : Int) + 1), .int .u32 (old : Int), .int .u32 0, .int .u32 0]] V fun e w' => (∃ v, e = .returned v ∧ SV w' b (.put nmJ 0 (bstr (sealB (m + 1) old 0 0))) v) ∧ V.grownBy w' none) := fun V => putHead_j V b (m + 1) old 0 0 (by omega) (by omega) (by omega) (by omega)
  have HPg : Hid (∀ k V, k < m → w.grownBy V none → (P k).length = 256 ∧ Calls Try.prog 22 #[.agg #[.pointer (some ⟨b, 0, none⟩)], .int .i64 (T k : Int)] V fun e w' => e = .returned (.agg (bcs (P k)).toArray) ∧ V.grownBy w' none) := fun k V hk hV => by
    have hk2 := hrise.low k hk
    rw [hP]
    exact ⟨pgL_length hk2.1 (by omega), page_j V base b D who (R.keep hV) h (T k) hk2.1 (by omega)⟩
  have hw2 : IntKind.u32.wrap (old : Int) = (old : Int) := by rw [IntKind.wrap_u32]; omega
  have hw3 : IntKind.i64.wrap ((m : Int) + 1) = (m : Int) + 1 := by rw [IntKind.wrap_i64]; omega
  have hw4 : IntKind.u32.wrap ((m : Int) + 1) = (m : Int) + 1 := by rw [IntKind.wrap_u32]; omega
  have HG := hideJ hg0
  have HB := hideJ hb0
  have HM := hideJ hm30
  have HTb : Hid (∀ k, k < m → T k < 4294967296) := fun k hk => by have := (hrise.low k hk).2; omega
  have HAs : Hid (asdS (seenOf D nmJ) old m T P = catS (catS (renS (seenOf D nmJ)) 2 (recS T P)) (2 + m) (tailS (m + 1) old)) := rfl
  generalize asdS (seenOf D nmJ) old m T P = AS at HAs ⊢
  generalize renS (seenOf D nmJ) = RS at HRn HAs
  clear R h hg0 hb0 hp hN hold hn hco ho6 hm hT hP hrise hm30
  go_enter Try.func26, Try.ntmps26
  go_wp2_with (first
    | (go_at_call 9; (with_reducible refine Calls.mono (HCt.out _ HG.out) ?_); rintro e w1 ⟨rfl, hg⟩; have HG1 := hideJ (grown_trans' HG.out hg); have HB1 := hideJ (Blk.grown HB.out hg); have cb1 := box_cell HB1.out; clear hg)
    | (go_at_call 37; (with_reducible refine Calls.mono (HTn.out _ HG1.out) ?_); rintro e w2 ⟨⟨q2, k2, rfl, hi2⟩, hg⟩; have HI2 := hideJ hi2; have HG2 := hideJ (grown_trans' HG1.out hg); have HB2 := hideJ (Blk.grown HB1.out hg); have cb2 := box_cell HB2.out; clear hg hi2)
    | (go_at_call 36; (with_reducible refine Calls.mono (HRn.out _ HG2.out) ?_); rintro e w3 ⟨⟨v3, rfl, hst⟩, hg⟩; obtain ⟨p3, k3, rfl, -⟩ := hst.form; have HSt := hideJ hst; have HW2 := hideJ hg; clear hst hg cb1 cb2))
  go_loopw [9, 24] (fun sv iv wq => ∃ (k : Nat) (q : Option Addr) (c' : Nat), k ≤ m ∧ iv = .int .i64 (k : Int) ∧ sv = .slice q (2 + k) c' ∧ StO wq w2.heap.size b (.slice q (2 + k) c') (2 + k) (catS RS 2 (recS T P)) ∧ w2.grownBy wq none) (fun _ iv _ => m - (intOf iv).toNat)
  case atStart => exact ⟨0, p3, k3, Nat.zero_le _, rfl, rfl, HSt.out.congr (fun k hk => (catS_lt hk).symm), HW2.out⟩
  case round =>
    obtain ⟨k, q, c', hk, rfl, rfl, hst, hg⟩ := hrel
    have HStk := hideJ hst
    have HWk := hideJ hg
    have HGk := hideJ (grown_trans' HG2.out hg)
    have HBx := hideJ (Blk.grown HB2.out hg)
    have cb := box_cell HBx.out
    clear hst hg
    by_cases hlt : k < m
    · obtain ⟨g, cur, rfl, hbI, hcI⟩ := (HI2.out.grown HWk.out) (by omega)
      have cT := (Blk.cell hbI k).trans (hcI k hlt)
      have l1 : (k : Int) < (m : Int) := by omega
      have l0 : (0 : Int) ≤ (k : Int) := by omega
      have hw1 : IntKind.i64.wrap ((k : Int) + 1) = (k : Int) + 1 := by have := HM.out; rw [IntKind.wrap_i64]; omega
      have HK := hideJ hlt
      have HPk := hideJ (fun V hV => (HPg.out k V hlt hV).2)
      have HPl := hideJ (HPg.out k wr hlt HGk.out).1
      have HLr := hideJ (fun V => layRecord_j V (T k) (HTb.out k hlt) (P k) HPl.out)
      have HRs := hideJ (fun V => recordStart_j V k (by have := HM.out; omega))
      have HPc := hideJ (fun V => put_c V b nmJ (bstr (recB (T k) (P k))) (64 + 320 * k))
      obtain ⟨A, hAA⟩ : ∃ A, A = 64 + 320 * k := ⟨_, rfl⟩
      obtain ⟨X, hX⟩ : ∃ X, X = bstr (recB (T k) (P k)) := ⟨_, rfl⟩
      rw [← hAA] at HRs HPc
      rw [← hX] at HLr HPc
      have HAA := hideJ hAA
      have HX := hideJ hX
      clear hAA hX hbI hcI
      go_upto_region 8 with (first
        | (go_at_call 22; (with_reducible refine Calls.mono (HPk.out _ HGk.out) ?_); rintro e y1 ⟨rfl, hg⟩; have HY1 := hideJ hg; clear hg)
        | ((with_reducible refine atB67 ?_); refine wp_b67g HPl.out _ _ (by rfl) (by rfl) (by rfl) (by rfl) ?_)
        | (go_at_call 38; (with_reducible refine Calls.mono (HLr.out _) ?_); rintro e y2 ⟨rfl, hg⟩; have HY2 := hideJ (grown_trans' HY1.out hg); clear hg))
      have HBy := hideJ (Blk.grown HBx.out HY2.out)
      have HSG : Hid (∀ V, y2.drew.grownBy V none → V.cell? ⟨w.heap.size, 0, none⟩ = some (.pointer (some ⟨b, 0, none⟩))) := fun V hV => box_cell (Blk.grown (box_drew HBy.out) hV)
      have HSA : Hid (∀ V W, y2.drew.grownBy V none → App w2.heap.size V W → W.cell? ⟨w.heap.size, 0, none⟩ = some (.pointer (some ⟨b, 0, none⟩))) := fun V W hV ha => box_cell (ha.box (Blk.grown (box_drew HBy.out) hV))
      have HS0 := hideJ (HSG.out _ (grown_refl _))
      clear cb
      go_region_held3 (fun V => V.cell? ⟨w.heap.size, 0, none⟩ = some (.pointer (some ⟨b, 0, none⟩))) (first | with_reducible exact HS0.out | with_reducible exact HS2.out | with_reducible exact HS3.out | with_reducible exact HS4.out) (first
        | (go_at_call 40; (with_reducible refine Calls.mono (HRs.out _) ?_); rintro e y3 ⟨rfl, rfl⟩)
        | (go_at_call 39; (with_reducible refine Calls.mono (HPc.out _) ?_); rintro e y4 ⟨⟨u4, rfl, a1, a2, a3, a4, rfl, hv4⟩, hg⟩; have HV4 := hideJ (mkPut hv4); have HY4 := hideJ hg; have HS2 := hideJ (HSG.out _ hg); have HS3 := hideJ (HSG.out _ (grown_trans' hg (World.grownBy_alloc y4 (.cells #[fun4 53 a1 a2 a3 a4] 82) none))); clear hv4 hg)
        | (refine step_appF (n := 2 + k) (m := 1) (b := b) (base := w2.heap.size) (S := catS RS 2 (recS T P)) (S' := fun _ => .put nmJ A X) [fun4 53 a1 a2 a3 a4] (((HStk.out.grown HY2.out).grown (World.grownBy_drew _)).grown HY4.out) rfl (by omega) (one_sv HV4.out) (by intro u hu; simp at hu; rw [hu]; rfl) (by have := HM.out; have := HK.out; omega) (Nat.le_trans HWk.out.size (Nat.le_trans HY2.out.size HY4.out.size)) _ _ (by rfl) (by rfl) (by rfl) (by rfl) ?_; intro p5 k5 w5 hst5 hap5; have HSt5 := hideJ hst5; have HAp5 := hideJ hap5; have HS4 := hideJ (HSA.out _ _ HY4.out hap5); clear hst5 hap5))
      all_goals (try go_wp2)
      refine ⟨⟨k + 1, p5, k5, HK.out, rfl, rfl, ?_, ?_⟩, ?_⟩
      · refine StO.congr HSt5.out (fun j hj => ?_)
        by_cases e : j < 2 + k
        · exact catS_lt e
        · obtain rfl : j = 2 + k := by omega
          have e1 : catS (catS RS 2 (recS T P)) (2 + k) (fun _ => Stp.put nmJ A X) (2 + k) = .put nmJ A X := if_neg (by omega)
          rw [e1, catS_ge, HX.out, HAA.out]
          rfl
      · exact HAp5.out.grown w2 (Nat.le_refl _) (grown_trans' (grown_trans' (grown_trans' HWk.out HY2.out) (World.grownBy_drew _)) HY4.out)
      · simp only [intOf]; have := HK.out; omega
    · obtain rfl : k = m := by omega
      clear cb
      go_wp2_with fail
      have HSG : Hid (∀ V, wr.drew.grownBy V none → V.cell? ⟨w.heap.size, 0, none⟩ = some (.pointer (some ⟨b, 0, none⟩))) := fun V hV => box_cell (Blk.grown (box_drew HBx.out) hV)
      have HS0 := hideJ (HSG.out _ (grown_refl _))
      go_region_held3 (fun V => V.cell? ⟨w.heap.size, 0, none⟩ = some (.pointer (some ⟨b, 0, none⟩))) (first | with_reducible exact HS0.out | with_reducible exact HS1.out | with_reducible exact HS2.out | with_reducible exact HS3.out | with_reducible exact HS4.out | with_reducible exact HS5.out) (first
        | (go_at_call 42; (with_reducible refine Calls.mono (HPh.out _) ?_); rintro e y2 ⟨⟨u2, rfl, a1, a2, a3, a4, rfl, hv2⟩, hg⟩; have HV2 := hideJ (mkPut hv2); have HV1 := hideJ (HV1.out.grown hg); have HY2 := hideJ (grown_trans' HY1.out hg); have HS2 := hideJ (HSG.out _ (grown_trans' HY1.out hg)); clear hv2 hg)
        | (go_at_call 41; (with_reducible refine Calls.mono (HSy.out _) ?_); rintro e y3 ⟨⟨u3, rfl, d1, d2, rfl, hv3⟩, hg⟩; have HV3 := hideJ (mkSync hv3); have HV1 := hideJ (HV1.out.grown hg); have HV2 := hideJ (HV2.out.grown hg); have HY3 := hideJ (grown_trans' HY2.out hg); have HS3 := hideJ (HSG.out _ (grown_trans' HY2.out hg)); have HS4 := hideJ (HSG.out _ (grown_trans' (grown_trans' HY2.out hg) (World.grownBy_alloc y3 (.cells #[fun2 55 c1 c2, fun4 53 a1 a2 a3 a4, fun2 55 d1 d2] 82) none))); clear hv3 hg)
        | (go_at_call 41; (with_reducible refine Calls.mono (HSy.out _) ?_); rintro e y1 ⟨⟨u1, rfl, c1, c2, rfl, hv1⟩, hg⟩; have HV1 := hideJ (mkSync hv1); have HY1 := hideJ hg; have HS1 := hideJ (HSG.out _ hg); clear hv1 hg)
        | (refine step_appF (n := 2 + k) (m := 3) (b := b) (base := w2.heap.size) (S := catS RS 2 (recS T P)) [fun2 55 c1 c2, fun4 53 a1 a2 a3 a4, fun2 55 d1 d2] (S' := tailS (k + 1) old) ((HStk.out.grown (World.grownBy_drew _)).grown HY3.out) rfl (by omega) (three_sv HV1.out HV2.out HV3.out) three_one (by have := HM.out; omega) (Nat.le_trans HWk.out.size HY3.out.size) _ _ (by rfl) (by rfl) (by rfl) (by rfl) ?_; intro p5 k5 w5 hst5 hap5; have HSt5 := hideJ hst5; have HAp5 := hideJ hap5; have HS5 := hideJ (box_cell (hap5.box (Blk.grown (box_drew HBx.out) HY3.out))); clear hst5 hap5))
      all_goals (try go_wp2)
      go_ret
      obtain ⟨q5, c5, e5, hA⟩ := HSt5.out.form
      refine ⟨⟨q5, c5, by rw [← e5]; rfl, by rw [HAs.out]; exact hA⟩, ?_⟩
      exact HAp5.out.grown w HG2.out.size (grown_trans' (grown_trans' HGk.out (World.grownBy_drew _)) HY3.out)
end Go.Proofs.Ytfcgjedanhmpiaa
