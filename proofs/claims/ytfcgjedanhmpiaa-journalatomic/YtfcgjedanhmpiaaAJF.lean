/- What is read from a file's beginning; the journal's head. -/
/- The journal's head, read. -/
/- The steps that write the journal's head. -/
import Derived.Test.YtfcgjedanhmpiaaAJC
import Derived.Test.YtfcgjedanhmpiaaS5
import Derived.Lib.BufferWrite
namespace Go.Proofs.Ytfcgjedanhmpiaa
open Go.ChangeShapes Go.WideShapes Go.ChangeAt Go.RowKit
open Go.ChangeMaps (setBlock)
set_option linter.unusedVariables false

set_option maxRecDepth 100000 in
theorem read_at (w : World) (base eb : Nat) (v : Value) (l : List UInt8) (n : Nat) (hc : w.cell? ⟨eb, 0, none⟩ = some v) (hown : Own w base v l) (hl : l.length ≤ 1048576) :
    Calls Try.prog 51 #[.pointer (some ⟨eb, 0, none⟩), .int .i64 0, .int .i64 n] w fun e w' => e = .returned (.string (bstr (l.take n))) ∧ w = w' := by
  rcases hown.2 with ⟨rfl, hz⟩ | ⟨g, cap, cur, rfl, hbg, hg, hnc, hcm, hcs, htake⟩
  · obtain rfl : l = [] := List.eq_nil_of_length_eq_zero hz
    have hcv := run_convert_bytes_nil (P := Try.prog) w 43 5 Try.underlying43 Try.underlying5 0 0 9 Try.underlying9
    have h1 : (0 : Int) ≤ (n : Int) := by omega
    rw [List.take_nil]
    clear hown
    rcases Nat.eq_zero_or_pos n with rfl | hp
    · go_enter Try.func51, Try.ntmps51
      go_wp2_with (go_at_call 46; refine (size_of w eb 0 none 0 0 hc).mono ?_; rintro e w2 ⟨rfl, rfl⟩)
      go_ret
      exact ⟨rfl, rfl⟩
    · have h2 : (0 : Int) < (n : Int) := by omega
      go_enter Try.func51, Try.ntmps51
      go_wp2_with (go_at_call 46; refine (size_of w eb 0 none 0 0 hc).mono ?_; rintro e w2 ⟨rfl, rfl⟩)
      go_ret
      exact ⟨rfl, rfl⟩
  · obtain ⟨m, hm⟩ : ∃ m, m = min n l.length := ⟨_, rfl⟩
    have hcv := fun c => conv_at w base g cap l 0 m hown (by omega) c
    rw [List.drop_zero, show l.take m = l.take n by rw [hm, List.take_eq_take_iff]; omega] at hcv
    generalize bstr (l.take n) = RES at hcv ⊢
    have h4 : (m : Int) ≤ (cap : Int) := by omega
    have h5 : (0 : Int) ≤ (m : Int) := by omega
    have h7 : (0 : Int) ≤ (l.length : Int) := by omega
    by_cases hmn : n ≤ l.length
    · obtain rfl : m = n := by omega
      have h6 : ¬ (l.length : Int) < (m : Int) := by omega
      clear hown htake hcs hg hm
      go_enter Try.func51, Try.ntmps51
      go_wp2_with (go_at_call 46; refine (size_of w eb 0 _ _ _ hc).mono ?_; rintro e w2 ⟨rfl, rfl⟩)
      go_ret
      exact ⟨rfl, rfl⟩
    · obtain rfl : m = l.length := by omega
      have h6 : (l.length : Int) < (n : Int) := by omega
      clear hown htake hcs hg hm
      go_enter Try.func51, Try.ntmps51
      go_wp2_with (go_at_call 46; refine (size_of w eb 0 _ _ _ hc).mono ?_; rintro e w2 ⟨rfl, rfl⟩)
      go_ret
      exact ⟨rfl, rfl⟩
theorem Read_at (w : World) (base b : Nat) (D : DS) (who : Nat → Nat) (R : Rep w base b D who) (hdn : D.down = false) (nm : ByteArray) (n : Nat) (hl : (seenOf D nm).length ≤ 1048576) :
    Calls Try.prog 33 #[.pointer (some ⟨b, 0, none⟩), .string nm, .int .i64 0, .int .i64 n] w fun e w' => e = .returned (.tuple #[.string (bstr ((seenOf D nm).take n)), .int .i64 0]) ∧ w.grownBy w' none := by
  have RF := refusal_some w b D.mb D.cv D.room D.fuse D.steps D.starts false (by have := R.blk; unfold DS.cells at this; rw [hdn] at this; exact this)
  have S := seen_own w base b D who R nm
  have h2 : ¬ (n : Int) < 0 := by omega
  clear R
  generalize seenOf D nm = l at *
  go_enter Try.func33, Try.ntmps33
  go_wp2_with (first
    | (go_at_call 44; refine RF.mono ?_; rintro e w0 ⟨rfl, rfl⟩)
    | (go_at_call 45; refine S.mono ?_; rintro e w1 ⟨eb, v, rfl, hc, ho, hg⟩)
    | (go_at_call 51; refine (read_at w1 base eb v l n hc ho hl).mono ?_; rintro e w2 ⟨rfl, rfl⟩))
  go_ret2
  exact ⟨rfl, hg⟩
theorem JI.len {r : Int} {D : DS} {i : Nat} (h : JI r D i) (nm : ByteArray) : (seenOf D nm).length ≤ 6100 := by rw [h.fl]; exact h.flen nm
theorem refusal_j (w : World) (base b : Nat) (D : DS) (who : Nat → Nat) (R : Rep w base b D who) {r : Int} {i : Nat} (h : JI r D i) :
    Calls Try.prog 21 #[.agg #[.pointer (some ⟨b, 0, none⟩)]] w fun e w' => e = .returned (.int .i64 0) ∧ w.grownBy w' none := by
  have hg0 := World.grownBy_alloc w (.cells #[.pointer (some ⟨b, 0, none⟩)] 53) none
  have HR : Hid (Calls Try.prog 33 #[.pointer (some ⟨b, 0, none⟩), .string nmJ, .int .i64 0, .int .i64 0] (w.alloc (.cells #[.pointer (some ⟨b, 0, none⟩)] 53)) _) := Read_at _ base b D who (R.keep hg0) h.down nmJ 0 (by have := h.len nmJ; omega)
  have HG := hideJ hg0
  clear R h hg0
  go_enter Try.func21, Try.ntmps21
  go_wp2_with (go_at_call 33; with_reducible refine Calls.mono HR.out ?_; rintro e w4 ⟨rfl, hg⟩; have HG4 := hideJ (grown_trans' HG.out hg); clear hg)
  go_ret
  exact ⟨rfl, HG4.out⟩
/-- What the head of a journal says. -/
def hd (l : List UInt8) : Array Value := if l.length < 64 then #[.int .u32 0, .int .u32 0, .int .u32 0, .int .u32 0] else sayV (l.take 64)
end Go.Proofs.Ytfcgjedanhmpiaa

namespace Go.Proofs.Ytfcgjedanhmpiaa
open Go.ChangeShapes Go.WideShapes Go.ChangeAt Go.RowKit
open Go.ChangeMaps (setBlock)
set_option linter.unusedVariables false

/-- A number of the head. -/
def hdw (l : List UInt8) (j : Nat) : Nat := if l.length < 64 then 0 else wordAt (l.take 64) (if sameCopy (l.take 64) 0 1 then 4 * j else 32 + 4 * j)
theorem word4_lt {a b c d : Nat} (ha : a < 256) (hb : b < 256) (hc : c < 256) (hd : d < 256) : word4 a b c d < 4294967296 := by unfold word4; omega
theorem wordAt_lt (l : List UInt8) (o : Nat) : wordAt l o < 4294967296 := word4_lt (byteAt_lt _ _) (byteAt_lt _ _) (byteAt_lt _ _) (byteAt_lt _ _)
theorem hdw_lt (l : List UInt8) (j : Nat) : hdw l j < 4294967296 := by
  unfold hdw
  split
  · omega
  · exact wordAt_lt _ _
theorem hd_eq (l : List UInt8) : hd l = #[.int .u32 (hdw l 0), .int .u32 (hdw l 1), .int .u32 (hdw l 2), .int .u32 (hdw l 3)] := by
  unfold hd hdw
  by_cases h : l.length < 64
  · simp [h]
  · rw [if_neg h, if_neg h, if_neg h, if_neg h, if_neg h]
    unfold sayV
    cases sameCopy (l.take 64) 0 1 <;> rfl
theorem wp_storeB {ops : Array Oper} {rest : List Oper} {o : Oper} {a : Act} {Q : Exit → Act → World → Prop} {w : World} {g : Nat} {t : TypeId} {c z : Array Value} (hi : (Try.prog.info? t).map (·.size) = some c.size) (hs : c.size = z.size) (h1 : c.all (·.oneCell') = true) (hg : Blk w g z t) (x y : Operand)
    (hgd : o.guard = none) (ho : o.op = .store t x y) (hx : a.eval x = .pointer (some ⟨g, 0, none⟩)) (hy : a.eval y = .agg c)
    (hk : ∀ W', Blk W' g c t → Only [g] w W' → wpList Try.prog ops Q rest (a.put o.dst undef) W') : wpList Try.prog ops Q (o :: rest) a w :=
  wpList_store_row hgd t x y ho g c hx hy t z hg hi hs.symm h1
    (hk _ (setRow_heap w g _ _ _ _ hg) ⟨rfl, rfl, rfl, by simp [World.setRow], fun k _ hk => setRow_other w g k _ (fun e => hk (by simp [e]))⟩)
theorem wp_loadB {ops : Array Oper} {rest : List Oper} {o : Oper} {a : Act} {Q : Exit → Act → World → Prop} {w : World} {g : Nat} {t : TypeId} {c : Array Value} (hi : (Try.prog.info? t).map (·.size) = some c.size) (hu : ∃ d, Try.prog.underlying t = some d ∧ d.isRow = true) (hg : Blk w g c t) (x : Operand)
    (hgd : o.guard = none) (ho : o.op = .load t x) (hx : a.eval x = .pointer (some ⟨g, 0, none⟩)) (hk : wpList Try.prog ops Q rest (a.put o.dst (.agg c)) w) : wpList Try.prog ops Q (o :: rest) a w := by
  obtain ⟨d, hd, hr⟩ := hu
  have := wpList_load_mid (P := Try.prog) (ops := ops) (rest := rest) (Q := Q) hgd t x ho g 0 hx c.toList d (range_of_blk hg) hd hr (by simpa using hi) (by simpa using hk)
  exact this
theorem wp_copyB {ops : Array Oper} {rest : List Oper} {o : Oper} {a : Act} {Q : Exit → Act → World → Prop} {w : World} {g : Nat} {t : TypeId} {z : List UInt8} {s : ByteArray} (hg : Blk w g (bcs z).toArray t) (hs : s.size ≤ z.length) (d y : Operand)
    (hgd : o.guard = none) (ho : o.op = .call { callee := .builtin .copy, args := #[d, y], argTypes := #[43, 9] }) (hd : a.eval d = .slice (some ⟨g, 0, none⟩) z.length z.length) (hy : a.eval y = .string s)
    (hk : ∀ W', Blk W' g (bcs (s.data.toList ++ z.drop s.size)).toArray t → Only [g] w W' → wpList Try.prog ops Q rest (a.put o.dst (goInt s.size)) W') : wpList Try.prog ops Q (o :: rest) a w := by
  have hr := Lib.run_copy_row_string (P := Try.prog) w 43 9 o.type 5 g 0 z.length z.length s (bcs z).toArray t Try.underlying43 (by kernel_rfl) hg hs (by simp [length_bcs]; exact hs)
  refine wpList_plain hgd fun K hK => ?_
  unfold Oper.wp execOp
  simp only [ho, resolve, invoke, builtin, Sem.run_bind, Sem.run_pure, Result.andThen_ok, List.map_toArray, List.map_cons, List.map_nil, hd, hy, hr]
  refine hK _ _ (hk _ ?_ ⟨rfl, rfl, rfl, by simp [World.setRow], fun k _ hk => setRow_other w g k _ (fun e => hk (by simp [e]))⟩)
  have := setRow_heap w g (bcs z).toArray (((bcs z).toArray.toList.take 0 ++ Lib.byteCells s.data.toList ++ (bcs z).toArray.toList.drop (0 + s.size)).toArray) t (0, 0) hg
  rw [show ((bcs z).toArray.toList.take 0 ++ Lib.byteCells s.data.toList ++ (bcs z).toArray.toList.drop (0 + s.size)) = bcs (s.data.toList ++ z.drop s.size) by simp [bcs, Lib.byteCells, List.map_drop]] at this
  simpa [bcs, Lib.byteCells, List.map_drop] using this
theorem at63S {P : Program} {ops : Array Oper} {Q : Exit → Act → World → Prop} {d : Option Tmp} {x y : Operand} {ty : TypeId} {pos : String} {af : Array Edge} {gd : Option (Nat × Bool)} {rest : List Oper} {a : Act} {w : World} (h : wpList P ops Q ({ dst := d, op := .store 63 x y, type := ty, pos := pos, after := af, guard := gd } :: rest) a w) : wpList P ops Q ({ dst := d, op := .store 63 x y, type := ty, pos := pos, after := af, guard := gd } :: rest) a w := h
theorem at97L {P : Program} {ops : Array Oper} {Q : Exit → Act → World → Prop} {d : Option Tmp} {x : Operand} {ty : TypeId} {pos : String} {af : Array Edge} {gd : Option (Nat × Bool)} {rest : List Oper} {a : Act} {w : World} (h : wpList P ops Q ({ dst := d, op := .load 97 x, type := ty, pos := pos, after := af, guard := gd } :: rest) a w) : wpList P ops Q ({ dst := d, op := .load 97 x, type := ty, pos := pos, after := af, guard := gd } :: rest) a w := h
theorem at97S {P : Program} {ops : Array Oper} {Q : Exit → Act → World → Prop} {d : Option Tmp} {x y : Operand} {ty : TypeId} {pos : String} {af : Array Edge} {gd : Option (Nat × Bool)} {rest : List Oper} {a : Act} {w : World} (h : wpList P ops Q ({ dst := d, op := .store 97 x y, type := ty, pos := pos, after := af, guard := gd } :: rest) a w) : wpList P ops Q ({ dst := d, op := .store 97 x y, type := ty, pos := pos, after := af, guard := gd } :: rest) a w := h
theorem at24L {P : Program} {ops : Array Oper} {Q : Exit → Act → World → Prop} {d : Option Tmp} {x : Operand} {ty : TypeId} {pos : String} {af : Array Edge} {gd : Option (Nat × Bool)} {rest : List Oper} {a : Act} {w : World} (h : wpList P ops Q ({ dst := d, op := .load 24 x, type := ty, pos := pos, after := af, guard := gd } :: rest) a w) : wpList P ops Q ({ dst := d, op := .load 24 x, type := ty, pos := pos, after := af, guard := gd } :: rest) a w := h
theorem at24S {P : Program} {ops : Array Oper} {Q : Exit → Act → World → Prop} {d : Option Tmp} {x y : Operand} {ty : TypeId} {pos : String} {af : Array Edge} {gd : Option (Nat × Bool)} {rest : List Oper} {a : Act} {w : World} (h : wpList P ops Q ({ dst := d, op := .store 24 x y, type := ty, pos := pos, after := af, guard := gd } :: rest) a w) : wpList P ops Q ({ dst := d, op := .store 24 x y, type := ty, pos := pos, after := af, guard := gd } :: rest) a w := h
theorem at67L {P : Program} {ops : Array Oper} {Q : Exit → Act → World → Prop} {d : Option Tmp} {x : Operand} {ty : TypeId} {pos : String} {af : Array Edge} {gd : Option (Nat × Bool)} {rest : List Oper} {a : Act} {w : World} (h : wpList P ops Q ({ dst := d, op := .load 67 x, type := ty, pos := pos, after := af, guard := gd } :: rest) a w) : wpList P ops Q ({ dst := d, op := .load 67 x, type := ty, pos := pos, after := af, guard := gd } :: rest) a w := h
theorem at67S {P : Program} {ops : Array Oper} {Q : Exit → Act → World → Prop} {d : Option Tmp} {x y : Operand} {ty : TypeId} {pos : String} {af : Array Edge} {gd : Option (Nat × Bool)} {rest : List Oper} {a : Act} {w : World} (h : wpList P ops Q ({ dst := d, op := .store 67 x y, type := ty, pos := pos, after := af, guard := gd } :: rest) a w) : wpList P ops Q ({ dst := d, op := .store 67 x y, type := ty, pos := pos, after := af, guard := gd } :: rest) a w := h
theorem at63L {P : Program} {ops : Array Oper} {Q : Exit → Act → World → Prop} {d : Option Tmp} {x : Operand} {ty : TypeId} {pos : String} {af : Array Edge} {gd : Option (Nat × Bool)} {rest : List Oper} {a : Act} {w : World} (h : wpList P ops Q ({ dst := d, op := .load 63 x, type := ty, pos := pos, after := af, guard := gd } :: rest) a w) : wpList P ops Q ({ dst := d, op := .load 63 x, type := ty, pos := pos, after := af, guard := gd } :: rest) a w := h
theorem atCopy {P : Program} {ops : Array Oper} {Q : Exit → Act → World → Prop} {d : Option Tmp} {x y : Operand} {ty : TypeId} {pos : String} {af : Array Edge} {gd : Option (Nat × Bool)} {rest : List Oper} {a : Act} {w : World} (h : wpList P ops Q ({ dst := d, op := .call { callee := .builtin .copy, args := #[x, y], argTypes := #[43, 9] }, type := ty, pos := pos, after := af, guard := gd } :: rest) a w) : wpList P ops Q ({ dst := d, op := .call { callee := .builtin .copy, args := #[x, y], argTypes := #[43, 9] }, type := ty, pos := pos, after := af, guard := gd } :: rest) a w := h
theorem Blk.grown {w w' : World} {b : Nat} {c : Array Value} {t : TypeId} (h : Blk w b c t) (hg : w.grownBy w' none) : Blk w' b c t := (Only.of_grown hg).blk h (by simp)
theorem Blk.allocO {w w' : World} {b : Nat} {c : Array Value} {t : TypeId} {o : Obj} (h : Blk w b c t) (ho : Only [w.heap.size] (w.alloc o) w') : Blk w' b c t :=
  ho.blk ((Below.heap_alloc _ _ _ h.lt).trans h) (by have := h.lt; simp; omega)
theorem u63 : ∃ d, Try.prog.underlying 63 = some d ∧ d.isRow = true := ⟨_, Try.underlying63, rfl⟩
theorem size97 {l : List UInt8} (h : l.length = 64) : (Try.prog.info? 97).map (·.size) = some (bcs l).toArray.size := by rw [List.size_toArray, length_bcs, h]; exact info42s
theorem u97 : ∃ d, Try.prog.underlying 97 = some d ∧ d.isRow = true := ⟨_, Try.underlying97, rfl⟩
def z64 : List UInt8 := List.replicate 64 0
theorem new64 (V : World) : Blk (V.alloc (.cells #[.int .u8 0, .int .u8 0, .int .u8 0, .int .u8 0, .int .u8 0, .int .u8 0, .int .u8 0, .int .u8 0, .int .u8 0, .int .u8 0, .int .u8 0, .int .u8 0, .int .u8 0, .int .u8 0, .int .u8 0, .int .u8 0, .int .u8 0, .int .u8 0, .int .u8 0, .int .u8 0, .int .u8 0, .int .u8 0, .int .u8 0, .int .u8 0, .int .u8 0, .int .u8 0, .int .u8 0, .int .u8 0, .int .u8 0, .int .u8 0, .int .u8 0, .int .u8 0, .int .u8 0, .int .u8 0, .int .u8 0, .int .u8 0, .int .u8 0, .int .u8 0, .int .u8 0, .int .u8 0, .int .u8 0, .int .u8 0, .int .u8 0, .int .u8 0, .int .u8 0, .int .u8 0, .int .u8 0, .int .u8 0, .int .u8 0, .int .u8 0, .int .u8 0, .int .u8 0, .int .u8 0, .int .u8 0, .int .u8 0, .int .u8 0, .int .u8 0, .int .u8 0, .int .u8 0, .int .u8 0, .int .u8 0, .int .u8 0, .int .u8 0, .int .u8 0] 97)) V.heap.size (bcs z64).toArray 97 := alloc_new _ _
theorem bytes_all (l : List UInt8) : (bcs l).toArray.all (·.oneCell') = true := all_oneCell_toArray (one_bcs l)
theorem four_one {a b c d : Int} : (#[Value.int .u32 a, .int .u32 b, .int .u32 c, .int .u32 d]).all (·.oneCell') = true := all_oneCell_toArray (cs := [Value.int .u32 a, .int .u32 b, .int .u32 c, .int .u32 d]) (by intro v hv; simp at hv; rcases hv with rfl | rfl | rfl | rfl <;> rfl)
theorem ret_blk {W : World} {g j : Nat} {t : TypeId} {c : Array Value} (hi : (Try.prog.info? t).map (·.size) = some c.size) (hu : ∃ d, Try.prog.underlying t = some d ∧ d.isRow = true) {fn : Func} (hres : fn.results = #[.cell j t]) {tmps : Array Value} (ht : tmps.getD j undef = .pointer (some ⟨g, 0, none⟩))
    (hg : Blk W g c t) {R : Ending → World → Prop} (h : R (.returned (.agg c)) W) : bodyPost Try.prog fn R Exit.ret { tmps := tmps, defers := [] } W := by
  obtain ⟨d, hd, hr⟩ := hu
  have hld := run_loadVar_mid (P := Try.prog) W g 0 t c.toList d (range_of_blk hg) hd hr (by simpa using hi)
  refine bodyPost_ret (v := .agg c) ?_ rfl h
  have ht' : tmps[j]?.getD undef = .pointer (some ⟨g, 0, none⟩) := by simpa using ht
  simp [results, hres, ht', asAddr, hld]
theorem grown_only {w w1 w2 : World} {g : Nat} (h : w.grownBy w1 none) (ho : Only [g] w1 w2) (hg : w.heap.size ≤ g) : w.grownBy w2 none :=
  ⟨ho.os.trans h.os, ho.tape.trans h.tape, ho.output.trans h.output, Nat.le_trans h.size ho.size, fun k hk hn => (ho.block k (Nat.lt_of_lt_of_le hk h.size) (by simp; omega)).trans (h.block k hk hn)⟩

set_option maxHeartbeats 2000000 in
set_option maxRecDepth 10000 in
theorem head_j (w : World) (base b : Nat) (D : DS) (who : Nat → Nat) (R : Rep w base b D who) {r : Int} {i : Nat} (h : JI r D i) :
    Calls Try.prog 29 #[.agg #[.pointer (some ⟨b, 0, none⟩)]] w fun e w' => e = .returned (.agg (hd (seenOf D nmJ))) ∧ w.grownBy w' none := by
  have hl := h.len nmJ
  have hbn := blk_next w #[.pointer (some ⟨b, 0, none⟩)] #[.int .u32 0, .int .u32 0, .int .u32 0, .int .u32 0] 53 63
  have hg0 : w.grownBy ((w.alloc (.cells #[.pointer (some ⟨b, 0, none⟩)] 53)).alloc (.cells #[.int .u32 0, .int .u32 0, .int .u32 0, .int .u32 0] 63)) none := grown_trans' (World.grownBy_alloc _ _ _) (World.grownBy_alloc _ _ _)
  have HR := hideJ (Read_at _ base b D who (R.keep hg0) h.down nmJ 64 (by omega))
  have c1 := (hbn.1.cell 0).trans (show _ = some (Value.pointer (some ⟨b, 0, none⟩)) from rfl)
  have HG := hideJ hg0
  have HZ := hideJ hbn.2
  generalize seenOf D nmJ = l at HR hl ⊢
  obtain ⟨s, hs⟩ : ∃ s, s = bstr (l.take 64) := ⟨_, rfl⟩
  have hss : s.size = min 64 l.length := by rw [hs]; simp [bstr, ByteArray.size]
  rw [← hs] at HR
  clear R h hbn hg0
  by_cases hlt : l.length < 64
  · have h1 : (s.size : Int) < 64 := by omega
    have HD : Hid (hd l = #[.int .u32 0, .int .u32 0, .int .u32 0, .int .u32 0]) := if_pos hlt
    clear hs hss hl hlt
    go_enter Try.func29, Try.ntmps29
    have HI := hideJ info40s
    go_wp2_with (first
      | (go_at_call 33; with_reducible refine Calls.mono HR.out ?_; rintro e w4 ⟨rfl, hg⟩; have HG4 := hideJ (grown_trans' HG.out hg); have HZ4 := hideJ (Blk.grown HZ.out hg); clear hg)
      | ((with_reducible refine at63S ?_); refine wp_storeB (c := #[.int .u32 0, .int .u32 0, .int .u32 0, .int .u32 0]) HI.out (by rfl) four_one HZ4.out _ _ (by rfl) (by rfl) (by rfl) (by rfl) ?_; intro W5 hb5 ho5; have HB5 := hideJ hb5; have HG5 := hideJ (grown_only HG4.out ho5 (by omega)); clear hb5 ho5))
    refine ret_blk HI.out u63 (by rfl) (by rfl) HB5.out ?_
    exact ⟨by rw [HD.out], HG5.out⟩
  · have h1 : ¬ (s.size : Int) < 64 := by omega
    have h64 : (l.take 64).length = 64 := by rw [List.length_take]; omega
    have HD : Hid (hd l = sayV (l.take 64)) := if_neg hlt
    have HI := hideJ info40s
    have HI2 := hideJ (size97 h64)
    have HOp := hideJ (fun V => open_any V (l.take 64) h64)
    have HSd : Hid (s.data.toList = l.take 64 ∧ s.size = 64) := ⟨by rw [hs]; simp [bstr], by omega⟩
    have HSy : Hid ((sayV (l.take 64)).size = 4 ∧ (sayV (l.take 64)).all (·.oneCell') = true) := by
      show _ ∧ _
      unfold sayV
      split <;> exact ⟨rfl, four_one⟩
    have HN := hideJ new64
    clear hs hss hl hlt h64
    go_enter Try.func29, Try.ntmps29
    go_wp2_with (first
      | (go_at_call 33; with_reducible refine Calls.mono HR.out ?_; rintro e w4 ⟨rfl, hg⟩; have HG4 := hideJ (grown_trans' HG.out hg); have HZ4 := hideJ (Blk.grown HZ.out hg); clear hg)
      | ((with_reducible refine atCopy ?_); refine wp_copyB (z := z64) (HN.out _) (by rw [HSd.out.2]; exact Nat.le_refl _) _ _ (by rfl) (by rfl) (by rfl) (by rfl) ?_; intro W5 hb5 ho5; rw [HSd.out.1, HSd.out.2, show z64.drop 64 = [] from rfl, List.append_nil] at hb5; have HB5 := hideJ hb5; have HG5 := hideJ (grown_only (grown_trans' HG4.out (World.grownBy_alloc _ _ _)) ho5 HG4.out.size); have HZ5 := hideJ (Blk.allocO HZ4.out ho5); clear hb5 ho5)
      | ((with_reducible refine at97L ?_); refine wp_loadB (c := (bcs (l.take 64)).toArray) HI2.out u97 HB5.out _ (by rfl) (by rfl) (by rfl) ?_)
      | (go_at_call 47; with_reducible refine Calls.mono (HOp.out _) ?_; rintro e w6 ⟨rfl, hg⟩; have HG6 := hideJ (grown_trans' HG5.out hg); have HZ6 := hideJ (Blk.grown HZ5.out hg); clear hg)
      | ((with_reducible refine at63S ?_); refine wp_storeB (c := sayV (l.take 64)) (by rw [HSy.out.1]; exact HI.out) (by rw [HSy.out.1]; rfl) HSy.out.2 HZ6.out _ _ (by rfl) (by rfl) (by rfl) (by rfl) ?_; intro W7 hb7 ho7; have HB7 := hideJ hb7; have HG7 := hideJ (grown_only HG6.out ho7 (by omega)); clear hb7 ho7))
    refine ret_blk (by rw [HSy.out.1]; exact HI.out) u63 (by rfl) (by rfl) HB7.out ?_
    exact ⟨by rw [HD.out], HG7.out⟩
end Go.Proofs.Ytfcgjedanhmpiaa

namespace Go.Proofs.Ytfcgjedanhmpiaa
open Go.ChangeShapes Go.WideShapes Go.ChangeAt Go.RowKit
open Go.ChangeMaps (setBlock)
set_option linter.unusedVariables false

theorem conv_blk {w : World} {g : Nat} {l : List UInt8} {t : TypeId} {n : Nat} (hn : l.length = n) (hb : Blk w g (bcs l).toArray t) (c : Nat) : (convert 43 9 (.slice (some ⟨g, 0, none⟩) n c)).run Try.prog w = .ok (.string (bstr l)) w := by
  subst hn
  have hcell : ∀ i, i < l.length → w.cell? ⟨g, 0 + i, none⟩ = some (.int .u8 ((l.map fun b => (b.toNat : Int)).getD i 0)) := fun i hi => by
    rw [Nat.zero_add, hb.cell]
    simp [bcs, hi, List.getD]
  have hcv := run_convert_bytes_arg (P := Try.prog) w 43 5 Try.underlying43 Try.underlying5 g 0 l.length c (l.map fun b => (b.toNat : Int)) (by simp) hcell 9 Try.underlying9
  rw [strOfNums_bstr] at hcv
  exact hcv
theorem sealB_length (a b c d : Nat) : (sealB a b c d).length = 64 := length_laid a b c d 12 (by omega)

set_option maxHeartbeats 2000000 in
set_option maxRecDepth 10000 in
theorem putHead_j (w : World) (b : Nat) (x y z u : Nat) (hx : x < 4294967296) (hy : y < 4294967296) (hz : z < 4294967296) (hu : u < 4294967296) :
    Calls Try.prog 42 #[.agg #[.pointer (some ⟨b, 0, none⟩)], .agg #[.int .u32 x, .int .u32 y, .int .u32 z, .int .u32 u]] w fun e w' => (∃ v, e = .returned v ∧ SV w' b (.put nmJ 0 (bstr (sealB x y z u))) v) ∧ w.grownBy w' none := by
  have hbn := blk_next w #[.pointer (some ⟨b, 0, none⟩)] #[.int .u32 x, .int .u32 y, .int .u32 z, .int .u32 u] 53 63
  have HG : Hid (w.grownBy ((w.alloc (.cells #[.pointer (some ⟨b, 0, none⟩)] 53)).alloc (.cells #[.int .u32 x, .int .u32 y, .int .u32 z, .int .u32 u] 63)) none) := grown_trans' (World.grownBy_alloc _ _ _) (World.grownBy_alloc _ _ _)
  have HB := hideJ hbn.1
  have HW := hideJ hbn.2
  have HSe := hideJ (fun V => seal_any V x y z u hx hy hz hu)
  have hl := sealB_length x y z u
  have HI := hideJ info40s
  have HI2 := hideJ (size97 hl)
  have HN := hideJ new64
  have HA := hideJ (bytes_all (sealB x y z u))
  obtain ⟨s, hs⟩ : ∃ s, s = bstr (sealB x y z u) := ⟨_, rfl⟩
  have HCv : Hid (∀ V g, Blk V g (bcs (sealB x y z u)).toArray 97 → (convert 43 9 (.slice (some ⟨g, 0, none⟩) 64 64)).run Try.prog V = .ok (.string s) V) := fun V g h => by rw [hs]; exact conv_blk hl h 64
  have HSz : Hid ((bcs (sealB x y z u)).toArray.size = (bcs z64).toArray.size) := by show _ = _; rw [List.size_toArray, length_bcs, hl]; rfl
  rw [← hs]
  generalize sealB x y z u = L at HSe HI2 HA HCv HSz
  clear hbn hx hy hz hu hl hs
  go_enter Try.func42, Try.ntmps42
  go_upto_region 2 with (first
    | ((with_reducible refine at63L ?_); refine wp_loadB (c := #[.int .u32 x, .int .u32 y, .int .u32 z, .int .u32 u]) HI.out u63 HW.out _ (by rfl) (by rfl) (by rfl) ?_)
    | (go_at_call 57; (with_reducible refine Calls.mono (HSe.out _) ?_); rintro e w4 ⟨rfl, hg⟩; have HG4 := hideJ (grown_trans' HG.out hg); have HB4 := hideJ (Blk.grown HB.out hg); clear hg)
    | ((with_reducible refine at97S ?_); refine wp_storeB (c := (bcs L).toArray) HI2.out HSz.out HA.out (HN.out _) _ _ (by rfl) (by rfl) (by rfl) (by rfl) ?_; intro W5 hb5 ho5; have HB5 := hideJ hb5; have HG5 := hideJ (grown_only (grown_trans' HG4.out (World.grownBy_alloc _ _ _)) ho5 HG4.out.size); have HW5 := hideJ (Blk.allocO HB4.out ho5); clear hb5 ho5))
  have HSG : Hid (∀ V, W5.drew.grownBy V none → V.cell? ⟨w.heap.size, 0, none⟩ = some (.pointer (some ⟨b, 0, none⟩)) ∧ (convert 43 9 (.slice (some ⟨w4.heap.size, 0, none⟩) 64 64)).run Try.prog V = .ok (.string s) V) := fun V hV => by
    have h1 : Blk W5.drew w.heap.size #[.pointer (some ⟨b, 0, none⟩)] 53 := HW5.out
    have h2 : Blk W5.drew w4.heap.size (bcs L).toArray 97 := HB5.out
    exact ⟨((h1.grown hV).cell 0).trans rfl, HCv.out V w4.heap.size (h2.grown hV)⟩
  have HS0 := hideJ (HSG.out W5.drew ⟨rfl, rfl, rfl, Nat.le_refl _, fun _ _ _ => rfl⟩)
  have HPc := hideJ (fun V => put_c V b nmJ s 0)
  go_region_held3 (fun V => V.cell? ⟨w.heap.size, 0, none⟩ = some (.pointer (some ⟨b, 0, none⟩)) ∧ (convert 43 9 (.slice (some ⟨w4.heap.size, 0, none⟩) 64 64)).run Try.prog V = .ok (.string s) V) (first | with_reducible exact HS0.out | with_reducible exact HS6.out) (first
    | (go_at_call 39; (with_reducible refine Calls.mono (HPc.out _) ?_); rintro e w6 ⟨⟨v6, rfl, hv6⟩, hg⟩; have HV6 := hideJ hv6; have HG6 := hideJ hg; have HS6 := hideJ (HSG.out _ hg); clear hv6 hg))
  all_goals (try go_wp2)
  go_ret
  exact ⟨⟨v6, rfl, HV6.out⟩, grown_trans' (grown_trans' HG5.out (World.grownBy_drew _)) HG6.out⟩

abbrev fun4 (f a b c d : Nat) : Value := .func (.func f) #[] #[.pointer (some ⟨a, 0, none⟩), .pointer (some ⟨b, 0, none⟩), .pointer (some ⟨c, 0, none⟩), .pointer (some ⟨d, 0, none⟩)]
abbrev fun3 (f a b c : Nat) : Value := .func (.func f) #[] #[.pointer (some ⟨a, 0, none⟩), .pointer (some ⟨b, 0, none⟩), .pointer (some ⟨c, 0, none⟩)]
abbrev fun2 (f a b : Nat) : Value := .func (.func f) #[] #[.pointer (some ⟨a, 0, none⟩), .pointer (some ⟨b, 0, none⟩)]
/-- A head as it is, written anew. -/
def hdS (l : List UInt8) : ByteArray := bstr (sealB (hdw l 0) (hdw l 1) (hdw l 2) (hdw l 3))
def renS (l : List UInt8) : Nat → Stp
  | 0 => .put nmJ 0 (hdS l)
  | _ => .sync nmJ
/-- Steps in a row of their own. -/
def StO (w : World) (base b : Nat) (v : Value) (n : Nat) (S : Nat → Stp) : Prop := ∃ vs : List Value, w.ownsRow base 82 1 v n vs ∧ vs.length = n ∧ ∀ k u, vs[k]? = some u → SV w b (S k) u
theorem StO.form {w : World} {base b : Nat} {v : Value} {n : Nat} {S : Nat → Stp} (h : StO w base b v n S) : ∃ p cap, v = .slice p n cap ∧ StA w b p n S := by
  obtain ⟨vs, h1, h2, h3⟩ := h
  rcases h1.2 with ⟨rfl, h0⟩ | ⟨g, cap, cur, rfl, hb, hg, hnc, hcm, hcs, htake⟩
  · exact ⟨none, 0, by rw [h0], fun h => by omega⟩
  · refine ⟨_, cap, rfl, fun _ => ⟨g, cur, rfl, hg, fun k hk => ?_⟩⟩
    have hx : vs[k]? = some vs[k] := List.getElem?_eq_getElem (by omega)
    refine ⟨vs[k], ?_, h3 k _ hx⟩
    have := h1.cells (g := g) rfl k _ hx
    rw [show (⟨g, 0, none⟩ : Addr).add k = ⟨g, k, none⟩ by unfold Addr.add; split <;> simp_all, Blk.cell hg] at this
    exact this
theorem StO.grown {w w' : World} {base b : Nat} {v : Value} {n : Nat} {S : Nat → Stp} (h : StO w base b v n S) (hg : w.grownBy w' none) : StO w' base b v n S := by
  obtain ⟨vs, h1, h2, h3⟩ := h
  exact ⟨vs, ownsRow_only h1 (Only.of_grown hg) (by simp), h2, fun k u hk => (h3 k u hk).grown hg⟩

theorem own_lit (w : World) {base : Nat} (hb : base ≤ w.heap.size) (vs : List Value) (n : Nat) (hn : vs.length = n) (hm : n ≤ 1000) : (w.alloc (.cells vs.toArray 82)).ownsRow base 82 1 (.slice (some ⟨w.heap.size, 0, none⟩) n n) n vs :=
  ⟨by omega, .inr ⟨w.heap.size, n, vs.toArray, rfl, hb, heap_alloc_new w _, Nat.le_refl _, by simp only [maxLen]; omega, by simp; omega, by rw [List.toList_toArray, List.take_of_length_le (by omega)]⟩⟩
set_option maxHeartbeats 2000000 in
set_option maxRecDepth 10000 in
theorem renew_j (w : World) (base b : Nat) (D : DS) (who : Nat → Nat) (R : Rep w base b D who) {r : Int} {i : Nat} (h : JI r D i) :
    Calls Try.prog 36 #[.agg #[.pointer (some ⟨b, 0, none⟩)]] w fun e w' => (∃ v, e = .returned v ∧ StO w' w.heap.size b v 2 (renS (seenOf D nmJ))) ∧ w.grownBy w' none := by
  have hg0 := World.grownBy_alloc w (.cells #[.pointer (some ⟨b, 0, none⟩)] 53) none
  have hb0 : Blk (w.alloc (.cells #[.pointer (some ⟨b, 0, none⟩)] 53)) w.heap.size #[.pointer (some ⟨b, 0, none⟩)] 53 := alloc_new _ _
  have HHd : Hid (∀ V, w.grownBy V none → Calls Try.prog 29 #[.agg #[.pointer (some ⟨b, 0, none⟩)]] V fun e w' => e = .returned (.agg #[.int .u32 (hdw (seenOf D nmJ) 0), .int .u32 (hdw (seenOf D nmJ) 1), .int .u32 (hdw (seenOf D nmJ) 2), .int .u32 (hdw (seenOf D nmJ) 3)]) ∧ V.grownBy w' none) := fun V hV => by
    rw [← hd_eq]; exact head_j V base b D who (R.keep hV) h
  have HPh := hideJ (fun V => putHead_j V b (hdw (seenOf D nmJ) 0) (hdw (seenOf D nmJ) 1) (hdw (seenOf D nmJ) 2) (hdw (seenOf D nmJ) 3) (hdw_lt _ _) (hdw_lt _ _) (hdw_lt _ _) (hdw_lt _ _))
  have HSy := hideJ (fun V => sync_c V b nmJ)
  have HG := hideJ hg0
  have HB := hideJ hb0
  clear R h hg0 hb0
  go_enter Try.func36, Try.ntmps36
  go_wp2_with fail
  have HSG : Hid (∀ V, (w.alloc (.cells #[.pointer (some ⟨b, 0, none⟩)] 53)).drew.grownBy V none → V.cell? ⟨w.heap.size, 0, none⟩ = some (.pointer (some ⟨b, 0, none⟩))) := fun V hV => by
    have h1 : Blk (w.alloc (.cells #[.pointer (some ⟨b, 0, none⟩)] 53)).drew w.heap.size #[.pointer (some ⟨b, 0, none⟩)] 53 := HB.out
    exact ((h1.grown hV).cell 0).trans rfl
  have HD0 : Hid (w.grownBy (w.alloc (.cells #[.pointer (some ⟨b, 0, none⟩)] 53)).drew none) := grown_trans' HG.out (World.grownBy_drew _)
  have HS0 := hideJ (HSG.out _ ⟨rfl, rfl, rfl, Nat.le_refl _, fun _ _ _ => rfl⟩)
  go_region_held3 (fun V => V.cell? ⟨w.heap.size, 0, none⟩ = some (.pointer (some ⟨b, 0, none⟩))) (first | with_reducible exact HS0.out | with_reducible exact HS1.out | with_reducible exact HS2.out | with_reducible exact HS3.out | with_reducible exact HS4.out) (first
    | (go_at_call 29; (with_reducible refine Calls.mono (HHd.out _ HD0.out) ?_); rintro e w1 ⟨rfl, hg⟩; have HG1 := hideJ hg; have HS1 := hideJ (HSG.out _ hg); clear hg)
    | (go_at_call 42; (with_reducible refine Calls.mono (HPh.out _) ?_); rintro e w2 ⟨⟨v2, rfl, a1, a2, a3, a4, rfl, hv2⟩, hg⟩; have HV2 := hideJ hv2; have HG2 := hideJ (grown_trans' HG1.out hg); have HS2 := hideJ (HSG.out _ (grown_trans' HG1.out hg)); clear hv2 hg)
    | (go_at_call 41; (with_reducible refine Calls.mono (HSy.out _) ?_); rintro e w3 ⟨⟨v3, rfl, c1, c2, rfl, hv3⟩, hg⟩; have HV3 := hideJ hv3; have HG23 := hideJ hg; have HG3 := hideJ (grown_trans' HG2.out hg); have HS3 := hideJ (HSG.out _ (grown_trans' HG2.out hg)); have HS4 := hideJ (HSG.out _ (grown_trans' (grown_trans' HG2.out hg) (World.grownBy_alloc w3 (.cells #[fun4 53 a1 a2 a3 a4, fun2 55 c1 c2] 82) none))); clear hv3 hg))
  all_goals (try go_wp2)
  go_ret
  have hgA := World.grownBy_alloc w3 (.cells [fun4 53 a1 a2 a3 a4, fun2 55 c1 c2].toArray 82) none
  have hgW := grown_trans' (grown_trans' HD0.out HG3.out) hgA
  refine ⟨⟨_, rfl, [fun4 53 a1 a2 a3 a4, fun2 55 c1 c2], own_lit w3 (grown_trans' HD0.out HG3.out).size _ 2 rfl (by omega), rfl, fun k u hk => ?_⟩, hgW⟩
  match k, hk with
  | 0, hk =>
    cases hk
    have h2 : SV w2 b (.put nmJ 0 (hdS (seenOf D nmJ))) (fun4 53 a1 a2 a3 a4) := ⟨a1, a2, a3, a4, rfl, HV2.out⟩
    exact (h2.grown HG23.out).grown hgA
  | 1, hk =>
    cases hk
    have h3 : SV w3 b (.sync nmJ) (fun2 55 c1 c2) := ⟨c1, c2, rfl, HV3.out⟩
    exact h3.grown hgA
end Go.Proofs.Ytfcgjedanhmpiaa
