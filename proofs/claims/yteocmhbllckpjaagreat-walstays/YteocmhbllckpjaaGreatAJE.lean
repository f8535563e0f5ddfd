/- The journal's head, read. -/
import Derived.Test.YteocmhbllckpjaaGreatAJD
import Derived.Lib.BufferWrite
namespace Go.Proofs.YteocmhbllckpjaaGreat
open Go.ChangeShapes Go.WideShapes Go.ChangeAt Go.RowKit
open Go.ChangeMaps (setBlock)
set_option linter.unusedVariables false

/-- A number of the head. -/
def hdw (l : List UInt8) (j : Nat) : Nat := if l.length < 64 then 0 else wordAt (l.take 64) (if sameCopy (l.take 64) 0 1 then 4 * j else 32 + 4 * j)
theorem word4_lt {a b c d : Nat} (ha : a < 256) (hb : b < 256) (hc : c < 256) (hd : d < 256) : word4 a b c d < 4294967296 := by unfold word4; omega
theorem wordAt_lt (l : List UInt8) (o : Nat) : wordAt l o < 4294967296 := word4_lt (byteAt_lt _ _) (byteAt_lt _ _) (byteAt_lt _ _) (byteAt_lt _ _)
theorem hdw_lt (l : List UInt8) (j : Nat) : hdw l j < 4294967296 := by
  unfold hdw
  split
  · omega
  · exact wordAt_lt _ _
theorem hd_eq (l : List UInt8) : hd l = #[.int .u32 (hdw l 0), .int .u32 (hdw l 1), .int .u32 (hdw l 2), .int .u32 (hdw l 3)] := by
  unfold hd hdw
  by_cases h : l.length < 64
  · simp [h]
  · rw [if_neg h, if_neg h, if_neg h, if_neg h, if_neg h]
    unfold sayV
    cases sameCopy (l.take 64) 0 1 <;> rfl
theorem wp_storeB {ops : Array Oper} {rest : List Oper} {o : Oper} {a : Act} {Q : Exit → Act → World → Prop} {w : World} {g : Nat} {t : TypeId} {c z : Array Value} (hi : (Tryz.prog.info? t).map (·.size) = some c.size) (hs : c.size = z.size) (h1 : c.all (·.oneCell') = true) (hg : Blk w g z t) (x y : Operand)
    (hgd : o.guard = none) (ho : o.op = .store t x y) (hx : a.eval x = .pointer (some ⟨g, 0, none⟩)) (hy : a.eval y = .agg c)
    (hk : ∀ W', Blk W' g c t → Only [g] w W' → wpList Tryz.prog ops Q rest (a.put o.dst undef) W') : wpList Tryz.prog ops Q (o :: rest) a w :=
  wpList_store_row hgd t x y ho g c hx hy t z hg hi hs.symm h1
    (hk _ (setRow_heap w g _ _ _ _ hg) ⟨rfl, rfl, rfl, by simp [World.setRow], fun k _ hk => setRow_other w g k _ (fun e => hk (by simp [e]))⟩)
theorem wp_loadB {ops : Array Oper} {rest : List Oper} {o : Oper} {a : Act} {Q : Exit → Act → World → Prop} {w : World} {g : Nat} {t : TypeId} {c : Array Value} (hi : (Tryz.prog.info? t).map (·.size) = some c.size) (hu : ∃ d, Tryz.prog.underlying t = some d ∧ d.isRow = true) (hg : Blk w g c t) (x : Operand)
    (hgd : o.guard = none) (ho : o.op = .load t x) (hx : a.eval x = .pointer (some ⟨g, 0, none⟩)) (hk : wpList Tryz.prog ops Q rest (a.put o.dst (.agg c)) w) : wpList Tryz.prog ops Q (o :: rest) a w := by
  obtain ⟨d, hd, hr⟩ := hu
  have := wpList_load_mid (P := Tryz.prog) (ops := ops) (rest := rest) (Q := Q) hgd t x ho g 0 hx c.toList d (range_of_blk hg) hd hr (by simpa using hi) (by simpa using hk)
  exact this
theorem wp_copyB {ops : Array Oper} {rest : List Oper} {o : Oper} {a : Act} {Q : Exit → Act → World → Prop} {w : World} {g : Nat} {t : TypeId} {z : List UInt8} {s : ByteArray} (hg : Blk w g (bcs z).toArray t) (hs : s.size ≤ z.length) (d y : Operand)
    (hgd : o.guard = none) (ho : o.op = .call { callee := .builtin .copy, args := #[d, y], argTypes := #[62, 9] }) (hd : a.eval d = .slice (some ⟨g, 0, none⟩) z.length z.length) (hy : a.eval y = .string s)
    (hk : ∀ W', Blk W' g (bcs (s.data.toList ++ z.drop s.size)).toArray t → Only [g] w W' → wpList Tryz.prog ops Q rest (a.put o.dst (goInt s.size)) W') : wpList Tryz.prog ops Q (o :: rest) a w := by
  have hr := Lib.run_copy_row_string (P := Tryz.prog) w 62 9 o.type 5 g 0 z.length z.length s (bcs z).toArray t Tryz.underlying62 (by kernel_rfl) hg hs (by simp [length_bcs]; exact hs)
  refine wpList_plain hgd fun K hK => ?_
  unfold Oper.wp execOp
  simp only [ho, resolve, invoke, builtin, Sem.run_bind, Sem.run_pure, Result.andThen_ok, List.map_toArray, List.map_cons, List.map_nil, hd, hy, hr]
  refine hK _ _ (hk _ ?_ ⟨rfl, rfl, rfl, by simp [World.setRow], fun k _ hk => setRow_other w g k _ (fun e => hk (by simp [e]))⟩)
  have := setRow_heap w g (bcs z).toArray (((bcs z).toArray.toList.take 0 ++ Lib.byteCells s.data.toList ++ (bcs z).toArray.toList.drop (0 + s.size)).toArray) t (0, 0) hg
  rw [show ((bcs z).toArray.toList.take 0 ++ Lib.byteCells s.data.toList ++ (bcs z).toArray.toList.drop (0 + s.size)) = bcs (s.data.toList ++ z.drop s.size) by simp [bcs, Lib.byteCells, List.map_drop]] at this
  simpa [bcs, Lib.byteCells, List.map_drop] using this
theorem at63S {P : Program} {ops : Array Oper} {Q : Exit → Act → World → Prop} {d : Option Tmp} {x y : Operand} {ty : TypeId} {pos : String} {af : Array Edge} {gd : Option (Nat × Bool)} {rest : List Oper} {a : Act} {w : World} (h : wpList P ops Q ({ dst := d, op := .store 159 x y, type := ty, pos := pos, after := af, guard := gd } :: rest) a w) : wpList P ops Q ({ dst := d, op := .store 159 x y, type := ty, pos := pos, after := af, guard := gd } :: rest) a w := h
theorem at97L {P : Program} {ops : Array Oper} {Q : Exit → Act → World → Prop} {d : Option Tmp} {x : Operand} {ty : TypeId} {pos : String} {af : Array Edge} {gd : Option (Nat × Bool)} {rest : List Oper} {a : Act} {w : World} (h : wpList P ops Q ({ dst := d, op := .load 110 x, type := ty, pos := pos, after := af, guard := gd } :: rest) a w) : wpList P ops Q ({ dst := d, op := .load 110 x, type := ty, pos := pos, after := af, guard := gd } :: rest) a w := h
theorem at97S {P : Program} {ops : Array Oper} {Q : Exit → Act → World → Prop} {d : Option Tmp} {x y : Operand} {ty : TypeId} {pos : String} {af : Array Edge} {gd : Option (Nat × Bool)} {rest : List Oper} {a : Act} {w : World} (h : wpList P ops Q ({ dst := d, op := .store 110 x y, type := ty, pos := pos, after := af, guard := gd } :: rest) a w) : wpList P ops Q ({ dst := d, op := .store 110 x y, type := ty, pos := pos, after := af, guard := gd } :: rest) a w := h
theorem at24L {P : Program} {ops : Array Oper} {Q : Exit → Act → World → Prop} {d : Option Tmp} {x : Operand} {ty : TypeId} {pos : String} {af : Array Edge} {gd : Option (Nat × Bool)} {rest : List Oper} {a : Act} {w : World} (h : wpList P ops Q ({ dst := d, op := .load 49 x, type := ty, pos := pos, after := af, guard := gd } :: rest) a w) : wpList P ops Q ({ dst := d, op := .load 49 x, type := ty, pos := pos, after := af, guard := gd } :: rest) a w := h
theorem at24S {P : Program} {ops : Array Oper} {Q : Exit → Act → World → Prop} {d : Option Tmp} {x y : Operand} {ty : TypeId} {pos : String} {af : Array Edge} {gd : Option (Nat × Bool)} {rest : List Oper} {a : Act} {w : World} (h : wpList P ops Q ({ dst := d, op := .store 49 x y, type := ty, pos := pos, after := af, guard := gd } :: rest) a w) : wpList P ops Q ({ dst := d, op := .store 49 x y, type := ty, pos := pos, after := af, guard := gd } :: rest) a w := h
theorem at67L {P : Program} {ops : Array Oper} {Q : Exit → Act → World → Prop} {d : Option Tmp} {x : Operand} {ty : TypeId} {pos : String} {af : Array Edge} {gd : Option (Nat × Bool)} {rest : List Oper} {a : Act} {w : World} (h : wpList P ops Q ({ dst := d, op := .load 72 x, type := ty, pos := pos, after := af, guard := gd } :: rest) a w) : wpList P ops Q ({ dst := d, op := .load 72 x, type := ty, pos := pos, after := af, guard := gd } :: rest) a w := h
theorem at67S {P : Program} {ops : Array Oper} {Q : Exit → Act → World → Prop} {d : Option Tmp} {x y : Operand} {ty : TypeId} {pos : String} {af : Array Edge} {gd : Option (Nat × Bool)} {rest : List Oper} {a : Act} {w : World} (h : wpList P ops Q ({ dst := d, op := .store 72 x y, type := ty, pos := pos, after := af, guard := gd } :: rest) a w) : wpList P ops Q ({ dst := d, op := .store 72 x y, type := ty, pos := pos, after := af, guard := gd } :: rest) a w := h
theorem at63L {P : Program} {ops : Array Oper} {Q : Exit → Act → World → Prop} {d : Option Tmp} {x : Operand} {ty : TypeId} {pos : String} {af : Array Edge} {gd : Option (Nat × Bool)} {rest : List Oper} {a : Act} {w : World} (h : wpList P ops Q ({ dst := d, op := .load 159 x, type := ty, pos := pos, after := af, guard := gd } :: rest) a w) : wpList P ops Q ({ dst := d, op := .load 159 x, type := ty, pos := pos, after := af, guard := gd } :: rest) a w := h
theorem atCopy {P : Program} {ops : Array Oper} {Q : Exit → Act → World → Prop} {d : Option Tmp} {x y : Operand} {ty : TypeId} {pos : String} {af : Array Edge} {gd : Option (Nat × Bool)} {rest : List Oper} {a : Act} {w : World} (h : wpList P ops Q ({ dst := d, op := .call { callee := .builtin .copy, args := #[x, y], argTypes := #[62, 9] }, type := ty, pos := pos, after := af, guard := gd } :: rest) a w) : wpList P ops Q ({ dst := d, op := .call { callee := .builtin .copy, args := #[x, y], argTypes := #[62, 9] }, type := ty, pos := pos, after := af, guard := gd } :: rest) a w := h
theorem Blk.grown {w w' : World} {b : Nat} {c : Array Value} {t : TypeId} (h : Blk w b c t) (hg : w.grownBy w' none) : Blk w' b c t := (Only.of_grown hg).blk h (by simp)
theorem Blk.allocO {w w' : World} {b : Nat} {c : Array Value} {t : TypeId} {o : Obj} (h : Blk w b c t) (ho : Only [w.heap.size] (w.alloc o) w') : Blk w' b c t :=
  ho.blk ((Below.heap_alloc _ _ _ h.lt).trans h) (by have := h.lt; simp; omega)
theorem u63 : ∃ d, Tryz.prog.underlying 159 = some d ∧ d.isRow = true := ⟨_, Tryz.underlying159, rfl⟩
theorem size97 {l : List UInt8} (h : l.length = 64) : (Tryz.prog.info? 110).map (·.size) = some (bcs l).toArray.size := by rw [List.size_toArray, length_bcs, h]; exact info42s
theorem u97 : ∃ d, Tryz.prog.underlying 110 = some d ∧ d.isRow = true := ⟨_, Tryz.underlying110, rfl⟩
def z64 : List UInt8 := List.replicate 64 0
theorem new64 (V : World) : Blk (V.alloc (.cells #[.int .u8 0, .int .u8 0, .int .u8 0, .int .u8 0, .int .u8 0, .int .u8 0, .int .u8 0, .int .u8 0, .int .u8 0, .int .u8 0, .int .u8 0, .int .u8 0, .int .u8 0, .int .u8 0, .int .u8 0, .int .u8 0, .int .u8 0, .int .u8 0, .int .u8 0, .int .u8 0, .int .u8 0, .int .u8 0, .int .u8 0, .int .u8 0, .int .u8 0, .int .u8 0, .int .u8 0, .int .u8 0, .int .u8 0, .int .u8 0, .int .u8 0, .int .u8 0, .int .u8 0, .int .u8 0, .int .u8 0, .int .u8 0, .int .u8 0, .int .u8 0, .int .u8 0, .int .u8 0, .int .u8 0, .int .u8 0, .int .u8 0, .int .u8 0, .int .u8 0, .int .u8 0, .int .u8 0, .int .u8 0, .int .u8 0, .int .u8 0, .int .u8 0, .int .u8 0, .int .u8 0, .int .u8 0, .int .u8 0, .int .u8 0, .int .u8 0, .int .u8 0, .int .u8 0, .int .u8 0, .int .u8 0, .int .u8 0, .int .u8 0, .int .u8 0] 110)) V.heap.size (bcs z64).toArray 110 := alloc_new _ _
theorem bytes_all (l : List UInt8) : (bcs l).toArray.all (·.oneCell') = true := all_oneCell_toArray (one_bcs l)
theorem four_one {a b c d : Int} : (#[Value.int .u32 a, .int .u32 b, .int .u32 c, .int .u32 d]).all (·.oneCell') = true := all_oneCell_toArray (cs := [Value.int .u32 a, .int .u32 b, .int .u32 c, .int .u32 d]) (by intro v hv; simp at hv; rcases hv with rfl | rfl | rfl | rfl <;> rfl)
theorem ret_blk {W : World} {g j : Nat} {t : TypeId} {c : Array Value} (hi : (Tryz.prog.info? t).map (·.size) = some c.size) (hu : ∃ d, Tryz.prog.underlying t = some d ∧ d.isRow = true) {fn : Func} (hres : fn.results = #[.cell j t]) {tmps : Array Value} (ht : tmps.getD j undef = .pointer (some ⟨g, 0, none⟩))
    (hg : Blk W g c t) {R : Ending → World → Prop} (h : R (.returned (.agg c)) W) : bodyPost Tryz.prog fn R Exit.ret { tmps := tmps, defers := [] } W := by
  obtain ⟨d, hd, hr⟩ := hu
  have hld := run_loadVar_mid (P := Tryz.prog) W g 0 t c.toList d (range_of_blk hg) hd hr (by simpa using hi)
  refine bodyPost_ret (v := .agg c) ?_ rfl h
  have ht' : tmps[j]?.getD undef = .pointer (some ⟨g, 0, none⟩) := by simpa using ht
  simp [results, hres, ht', asAddr, hld]
theorem grown_only {w w1 w2 : World} {g : Nat} (h : w.grownBy w1 none) (ho : Only [g] w1 w2) (hg : w.heap.size ≤ g) : w.grownBy w2 none :=
  ⟨ho.os.trans h.os, ho.tape.trans h.tape, ho.output.trans h.output, Nat.le_trans h.size ho.size, fun k hk hn => (ho.block k (Nat.lt_of_lt_of_le hk h.size) (by simp; omega)).trans (h.block k hk hn)⟩

theorem ret_blk2 {W : World} {g j k : Nat} {t : TypeId} {c : Array Value} {v : Value} (hi : (Tryz.prog.info? t).map (·.size) = some c.size) (hu : ∃ d, Tryz.prog.underlying t = some d ∧ d.isRow = true) {fn : Func} (hres : fn.results = #[.cell j t, .tmp k]) {tmps : Array Value} (ht : tmps.getD j undef = .pointer (some ⟨g, 0, none⟩)) (hv : tmps.getD k undef = v)
    (hg : Blk W g c t) {R : Ending → World → Prop} (h : R (.returned (.tuple #[.agg c, v])) W) : bodyPost Tryz.prog fn R Exit.ret { tmps := tmps, defers := [] } W := by
  obtain ⟨d, hd, hr⟩ := hu
  have hld := run_loadVar_mid (P := Tryz.prog) W g 0 t c.toList d (range_of_blk hg) hd hr (by simpa using hi)
  refine bodyPost_ret (v := .tuple #[.agg c, v]) ?_ rfl h
  have ht' : tmps[j]?.getD undef = .pointer (some ⟨g, 0, none⟩) := by simpa using ht
  have hv' : tmps[k]?.getD undef = v := by simpa using hv
  simp [results, hres, ht', hv', asAddr, hld]

set_option maxHeartbeats 2000000 in
set_option maxRecDepth 10000 in
theorem readHead_w (w : World) (base b : Nat) (D : DS) (who : Nat → Nat) (R : Rep w base b D who) {r : Int} {i : Nat} (h : JI r D i) :
    Calls Tryz.prog 80 #[.pointer (some ⟨b, 0, none⟩)] w fun e w' => e = .returned (.tuple #[.agg (hd (seenOf D nmJ)), .int .i64 0]) ∧ w.grownBy w' none := by
  have hl := h.len nmJ
  have hz : Blk (w.alloc (.cells #[.int .u32 0, .int .u32 0, .int .u32 0, .int .u32 0] 159)) w.heap.size #[.int .u32 0, .int .u32 0, .int .u32 0, .int .u32 0] 159 := alloc_new _ _
  have hg0 : w.grownBy (w.alloc (.cells #[.int .u32 0, .int .u32 0, .int .u32 0, .int .u32 0] 159)) none := World.grownBy_alloc _ _ _
  have HR := hideJ (Read_at _ base b D who (R.keep hg0) h.down nmJ 64 (by omega))
  have HG := hideJ hg0
  have HZ := hideJ hz
  generalize seenOf D nmJ = l at HR hl ⊢
  obtain ⟨s, hs⟩ : ∃ s, s = bstr (l.take 64) := ⟨_, rfl⟩
  have hss : s.size = min 64 l.length := by rw [hs]; simp [bstr, ByteArray.size]
  rw [← hs] at HR
  clear R h hz hg0
  by_cases hlt : l.length < 64
  · have h1 : (s.size : Int) < 64 := by omega
    have HD : Hid (hd l = #[.int .u32 0, .int .u32 0, .int .u32 0, .int .u32 0]) := if_pos hlt
    clear hs hss hl hlt
    go_enter Tryz.func80, Tryz.ntmps80
    have HI := hideJ info40s
    go_wp2_with (first
      | (go_at_call 12; with_reducible refine Calls.mono HR.out ?_; rintro e w4 ⟨rfl, hg⟩; have HG4 := hideJ (grown_trans' HG.out hg); have HZ4 := hideJ (Blk.grown HZ.out hg); clear hg)
      | ((with_reducible refine at63S ?_); refine wp_storeB (c := #[.int .u32 0, .int .u32 0, .int .u32 0, .int .u32 0]) HI.out (by rfl) four_one HZ4.out _ _ (by rfl) (by rfl) (by rfl) (by rfl) ?_; intro W5 hb5 ho5; have HB5 := hideJ hb5; have HG5 := hideJ (grown_only HG4.out ho5 (by omega)); clear hb5 ho5))
    refine ret_blk2 (v := .int .i64 0) HI.out u63 (by rfl) (by rfl) (by rfl) HB5.out ?_
    exact ⟨by rw [HD.out], HG5.out⟩
  · have h1 : ¬ (s.size : Int) < 64 := by omega
    have h64 : (l.take 64).length = 64 := by rw [List.length_take]; omega
    have HD : Hid (hd l = sayV (l.take 64)) := if_neg hlt
    have HI := hideJ info40s
    have HI2 := hideJ (size97 h64)
    have HOp := hideJ (fun V => open_any V (l.take 64) h64)
    have HSd : Hid (s.data.toList = l.take 64 ∧ s.size = 64) := ⟨by rw [hs]; simp [bstr], by omega⟩
    have HSy : Hid ((sayV (l.take 64)).size = 4 ∧ (sayV (l.take 64)).all (·.oneCell') = true) := by
      show _ ∧ _
      unfold sayV
      split <;> exact ⟨rfl, four_one⟩
    have HN := hideJ new64
    clear hs hss hl hlt h64
    go_enter Tryz.func80, Tryz.ntmps80
    go_wp2_with (first
      | (go_at_call 12; with_reducible refine Calls.mono HR.out ?_; rintro e w4 ⟨rfl, hg⟩; have HG4 := hideJ (grown_trans' HG.out hg); have HZ4 := hideJ (Blk.grown HZ.out hg); clear hg)
      | ((with_reducible refine atCopy ?_); refine wp_copyB (z := z64) (HN.out _) (by rw [HSd.out.2]; exact Nat.le_refl _) _ _ (by rfl) (by rfl) (by rfl) (by rfl) ?_; intro W5 hb5 ho5; rw [HSd.out.1, HSd.out.2, show z64.drop 64 = [] from rfl, List.append_nil] at hb5; have HB5 := hideJ hb5; have HG5 := hideJ (grown_only (grown_trans' HG4.out (World.grownBy_alloc _ _ _)) ho5 HG4.out.size); have HZ5 := hideJ (Blk.allocO HZ4.out ho5); clear hb5 ho5)
      | ((with_reducible refine at97L ?_); refine wp_loadB (c := (bcs (l.take 64)).toArray) HI2.out u97 HB5.out _ (by rfl) (by rfl) (by rfl) ?_)
      | (go_at_call 117; with_reducible refine Calls.mono (HOp.out _) ?_; rintro e w6 ⟨rfl, hg⟩; have HG6 := hideJ (grown_trans' HG5.out hg); have HZ6 := hideJ (Blk.grown HZ5.out hg); clear hg)
      | ((with_reducible refine at63S ?_); refine wp_storeB (c := sayV (l.take 64)) (by rw [HSy.out.1]; exact HI.out) (by rw [HSy.out.1]; rfl) HSy.out.2 HZ6.out _ _ (by rfl) (by rfl) (by rfl) (by rfl) ?_; intro W7 hb7 ho7; have HB7 := hideJ hb7; have HG7 := hideJ (grown_only HG6.out ho7 (by omega)); clear hb7 ho7))
    refine ret_blk2 (v := .int .i64 0) (by rw [HSy.out.1]; exact HI.out) u63 (by rfl) (by rfl) (by rfl) HB7.out ?_
    exact ⟨by rw [HD.out], HG7.out⟩
end Go.Proofs.YteocmhbllckpjaaGreat
