/- Blocks in memory; what a call leaves alone; guards; whole blocks loaded, stored and handed back. -/
import Derived.Test.YtkooijhdjjdigaaDoorKN
import Derived.Deep.MidRow
import Derived.Maps.OwnSet
namespace Go.Proofs.YtkooijhdjjdigaaDoor
open Go.ChangeShapes Go.WideShapes Go.ChangeAt Go.RowKit
set_option linter.unusedVariables false

theorem new_below (w : World) (o : Obj) {W : World} (hW : w.alloc o = W) : Below w.heap.size w W := by
  subst hW; exact (Below.refl _ _).alloc (Nat.le_refl _) _
theorem heap_setRow (w : World) (g : Nat) (cs : Array Value) (k : Nat) (h : k ≠ g) : (w.setRow g cs).heap[k]? = w.heap[k]? := by
  simp only [World.setRow]
  rw [Array.getElem?_modify, if_neg (Ne.symm h)]
/-- Of what was there nothing has turned but the blocks of S. -/
structure Only (S : List Nat) (w w' : World) : Prop where
  os : w'.os = w.os
  tape : w'.tape = w.tape
  output : w'.output = w.output
  size : w.heap.size ≤ w'.heap.size
  block : ∀ k, k < w.heap.size → k ∉ S → w'.heap[k]? = w.heap[k]?
theorem Only.refl (S : List Nat) (w : World) : Only S w w := ⟨rfl, rfl, rfl, Nat.le_refl _, fun _ _ _ => rfl⟩
theorem Only.trans {S : List Nat} {a b c : World} (h : Only S a b) (k : Only S b c) : Only S a c :=
  ⟨k.os.trans h.os, k.tape.trans h.tape, k.output.trans h.output, Nat.le_trans h.size k.size, fun i hi hn => (k.block i (Nat.lt_of_lt_of_le hi h.size) hn).trans (h.block i hi hn)⟩
theorem Only.andThen {S T : List Nat} {a b c : World} (h : Only S a b) (k : Only T b c) (hT : ∀ j ∈ T, j ∈ S ∨ a.heap.size ≤ j) : Only S a c :=
  ⟨k.os.trans h.os, k.tape.trans h.tape, k.output.trans h.output, Nat.le_trans h.size k.size, fun i hi hn =>
    (k.block i (Nat.lt_of_lt_of_le hi h.size) (fun hm => by rcases hT i hm with h1 | h1; exact hn h1; omega)).trans (h.block i hi hn)⟩
theorem Only.mono {S T : List Nat} {a b : World} (h : Only S a b) (hs : ∀ j ∈ S, j ∈ T) : Only T a b :=
  ⟨h.os, h.tape, h.output, h.size, fun i hi hn => h.block i hi (fun hm => hn (hs i hm))⟩
theorem Only.below {S : List Nat} {a b : World} {B : Nat} (h : Only S a b) (hB : B ≤ a.heap.size) (hs : ∀ j ∈ S, B ≤ j) : Below B a b :=
  ⟨h.os, h.tape, h.output, h.size, fun i hi => h.block i (by omega) (fun hm => by have := hs i hm; omega)⟩
theorem Only.of_below {w w' : World} {S : List Nat} (h : Below w.heap.size w w') : Only S w w' := ⟨h.os, h.tape, h.output, h.size, fun k hk _ => h.block k hk⟩
theorem Only.then_below {S : List Nat} {a b c : World} (h : Only S a b) (k : Below b.heap.size b c) : Only S a c := h.trans (Only.of_below k)
theorem Only.after_below {S : List Nat} {a b c : World} (h : Below a.heap.size a b) (k : Only S b c) : Only S a c := (Only.of_below h).trans k
theorem Only.of_grown {w w' : World} {row : Option Nat} (h : w.grownBy w' row) : Only row.toList w w' :=
  ⟨h.os, h.tape, h.output, h.size, fun k hk hn => h.block k hk (fun e => hn (by rw [← e]; simp))⟩
theorem Only.drew (w : World) (S : List Nat) : Only S w w.drew := ⟨rfl, rfl, rfl, Nat.le_refl _, fun _ _ _ => rfl⟩
theorem Only.alloc (w : World) (o : Obj) (S : List Nat) : Only S w (w.alloc o) :=
  ⟨rfl, rfl, rfl, by simp, fun k hk _ => Below.heap_alloc _ _ _ hk⟩
theorem Only.setCell (w : World) (a : Addr) (v : Value) : Only [a.block] w (w.setCell a v) :=
  ⟨rfl, rfl, rfl, by simp [World.setCell], fun k hk hn => Below.heap_setCell _ _ _ _ (by simpa using hn)⟩
theorem Only.blk {S : List Nat} {w w' : World} (h : Only S w w') {b : Nat} {o : Obj} (hb : w.heap[b]? = some o) (hn : b ∉ S) : w'.heap[b]? = some o := by
  rw [h.block b (Array.getElem?_eq_some_iff.1 hb).1 hn]; exact hb
theorem below_refl (w : World) : Below w.heap.size w w := Below.refl _ _
theorem below_alloc (w : World) (o : Obj) : Below w.heap.size w (w.alloc o) := new_below w o rfl
theorem below_of_grown {w w' : World} (h : w.grownBy w' none) : Below w.heap.size w w' := ⟨h.os, h.tape, h.output, h.size, fun k hk => h.block k hk (by simp)⟩
/-- A block that came behind w is written. -/
theorem below_only {w w1 w2 : World} {S : List Nat} (h : Below w.heap.size w w1) (ho : Only S w1 w2) (hg : ∀ g ∈ S, w.heap.size ≤ g) : Below w.heap.size w w2 :=
  ⟨ho.os.trans h.os, ho.tape.trans h.tape, ho.output.trans h.output, Nat.le_trans h.size ho.size, fun k hk => (ho.block k (Nat.lt_of_lt_of_le hk h.size) (fun hm => by have := hg k hm; omega)).trans (h.block k hk)⟩
theorem below_only1 {w w1 w2 : World} {g : Nat} (h : Below w.heap.size w w1) (ho : Only [g] w1 w2) (hg : w.heap.size ≤ g) : Below w.heap.size w w2 :=
  below_only h ho (fun k hk => by rw [List.mem_singleton.1 hk]; exact hg)

/-- A block of plain cells. -/
abbrev Blk (w : World) (b : Nat) (c : Array Value) (t : TypeId) : Prop := w.heap[b]? = some (.cells c t (0, 0))
theorem Blk.cell {w : World} {b : Nat} {c : Array Value} {t : TypeId} (h : Blk w b c t) (k : Nat) : w.cell? ⟨b, k, none⟩ = c[k]? := cell_of_row w b k _ _ _ h
theorem Blk.set {w : World} {b : Nat} {c : Array Value} {t : TypeId} (h : Blk w b c t) (o : Nat) (v : Value) : Blk (w.setCell ⟨b, o, none⟩ v) b (c.setIfInBounds o v) t := by
  simp [Blk, World.setCell, Array.getElem?_modify, h]
theorem Blk.lt {w : World} {b : Nat} {c : Array Value} {t : TypeId} (h : Blk w b c t) : b < w.heap.size := (Array.getElem?_eq_some_iff.1 h).1
theorem Blk.new (w : World) (c : Array Value) (t : TypeId) : Blk (w.alloc (.cells c t)) w.heap.size c t := heap_alloc_new w _
theorem Blk.frozen {w : World} {b : Nat} {c : Array Value} {t : TypeId} (h : Blk w b c t) (k : Nat) : w.frozen? ⟨b, k, none⟩ = false := by simp [World.frozen?, h]
theorem Blk.only {w w' : World} {b : Nat} {c : Array Value} {t : TypeId} {S : List Nat} (h : Blk w b c t) (ho : Only S w w') (hn : b ∉ S) : Blk w' b c t := ho.blk h hn
theorem Blk.later {w w' : World} {b : Nat} {c : Array Value} {t : TypeId} (h : Blk w b c t) (hb : Below w.heap.size w w') : Blk w' b c t := (hb.block b h.lt).trans h
theorem Blk.drew {w : World} {b : Nat} {c : Array Value} {t : TypeId} (h : Blk w b c t) : Blk w.drew b c t := h
theorem Blk.range {w : World} {b : Nat} {C : Array Value} {t : TypeId} (hb : Blk w b C t) : w.rangeAt b 0 C.toList := fun j v hv => by
  rw [Nat.zero_add, hb.cell]; simpa using hv
theorem blk_ne {w : World} {b k : Nat} {c c2 : Array Value} {t t2 : TypeId} (h : Blk w b c t) (h2 : Blk w k c2 t2) (hn : t ≠ t2) : b ≠ k := by
  rintro rfl
  have := h.symm.trans h2
  injection this with this
  injection this with _ e _
  exact hn e
theorem blk_map {w : World} {b k : Nat} {c : Array Value} {t : TypeId} {es : Array MapEntry} {cl : Nat} (h : Blk w b c t) (h2 : w.heap[k]? = some (.map es cl)) : b ≠ k := by
  rintro rfl
  have := h.symm.trans h2
  injection this with this
  cases this

theorem wp_storeB {ops : Array Oper} {rest : List Oper} {o : Oper} {a : Act} {Q : Exit → Act → World → Prop} {w : World} {g : Nat} {t : TypeId} {c z : Array Value} (hi : (Tryd.prog.info? t).map (·.size) = some c.size) (hs : c.size = z.size) (h1 : c.all (·.oneCell') = true) (hg : Blk w g z t) (x y : Operand)
    (hgd : o.guard = none) (ho : o.op = .store t x y) (hx : a.eval x = .pointer (some ⟨g, 0, none⟩)) (hy : a.eval y = .agg c)
    (hk : ∀ W', Blk W' g c t → Only [g] w W' → wpList Tryd.prog ops Q rest (a.put o.dst undef) W') : wpList Tryd.prog ops Q (o :: rest) a w :=
  wpList_store_row hgd t x y ho g c hx hy t z hg hi hs.symm h1
    (hk _ (setRow_heap w g _ _ _ _ hg) ⟨rfl, rfl, rfl, by simp [World.setRow], fun k _ hk => heap_setRow w g _ k (fun e => hk (by simp [e]))⟩)
theorem wp_loadB {ops : Array Oper} {rest : List Oper} {o : Oper} {a : Act} {Q : Exit → Act → World → Prop} {w : World} {g : Nat} {t : TypeId} {c : Array Value} (hi : (Tryd.prog.info? t).map (·.size) = some c.size) (hu : ∃ d, Tryd.prog.underlying t = some d ∧ d.isRow = true) (hg : Blk w g c t) (x : Operand)
    (hgd : o.guard = none) (ho : o.op = .load t x) (hx : a.eval x = .pointer (some ⟨g, 0, none⟩)) (hk : wpList Tryd.prog ops Q rest (a.put o.dst (.agg c)) w) : wpList Tryd.prog ops Q (o :: rest) a w := by
  obtain ⟨d, hd, hr⟩ := hu
  have := wpList_load_mid (P := Tryd.prog) (ops := ops) (rest := rest) (Q := Q) hgd t x ho g 0 hx c.toList d hg.range hd hr (by simpa using hi) (by simpa using hk)
  exact this
/-- Guards: the operation at hand is a store, a load of that type. -/
theorem atSt (t : TypeId) {P : Program} {ops : Array Oper} {Q : Exit → Act → World → Prop} {d : Option Tmp} {x y : Operand} {ty : TypeId} {pos : String} {af : Array Edge} {gd : Option (Nat × Bool)} {rest : List Oper} {a : Act} {w : World} (h : wpList P ops Q ({ dst := d, op := .store t x y, type := ty, pos := pos, after := af, guard := gd } :: rest) a w) : wpList P ops Q ({ dst := d, op := .store t x y, type := ty, pos := pos, after := af, guard := gd } :: rest) a w := h
theorem atLd (t : TypeId) {P : Program} {ops : Array Oper} {Q : Exit → Act → World → Prop} {d : Option Tmp} {x : Operand} {ty : TypeId} {pos : String} {af : Array Edge} {gd : Option (Nat × Bool)} {rest : List Oper} {a : Act} {w : World} (h : wpList P ops Q ({ dst := d, op := .load t x, type := ty, pos := pos, after := af, guard := gd } :: rest) a w) : wpList P ops Q ({ dst := d, op := .load t x, type := ty, pos := pos, after := af, guard := gd } :: rest) a w := h
theorem ret_blk {W : World} {g j : Nat} {t : TypeId} {c : Array Value} (hi : (Tryd.prog.info? t).map (·.size) = some c.size) (hu : ∃ d, Tryd.prog.underlying t = some d ∧ d.isRow = true) {fn : Func} (hres : fn.results = #[.cell j t]) {tmps : Array Value} (ht : tmps.getD j undef = .pointer (some ⟨g, 0, none⟩))
    (hg : Blk W g c t) {R : Ending → World → Prop} (h : R (.returned (.agg c)) W) : bodyPost Tryd.prog fn R Exit.ret { tmps := tmps, defers := [] } W := by
  obtain ⟨d, hd, hr⟩ := hu
  have hld := run_loadVar_mid (P := Tryd.prog) W g 0 t c.toList d hg.range hd hr (by simpa using hi)
  refine bodyPost_ret (v := .agg c) ?_ rfl h
  have ht' : tmps[j]?.getD undef = .pointer (some ⟨g, 0, none⟩) := by simpa using ht
  simp [results, hres, ht', asAddr, hld]
theorem ret_blk2 {W : World} {g j k : Nat} {t : TypeId} {c : Array Value} {v : Value} (hi : (Tryd.prog.info? t).map (·.size) = some c.size) (hu : ∃ d, Tryd.prog.underlying t = some d ∧ d.isRow = true) {fn : Func} (hres : fn.results = #[.cell j t, .tmp k]) {tmps : Array Value} (ht : tmps.getD j undef = .pointer (some ⟨g, 0, none⟩)) (hv : tmps.getD k undef = v)
    (hg : Blk W g c t) {R : Ending → World → Prop} (h : R (.returned (.tuple #[.agg c, v])) W) : bodyPost Tryd.prog fn R Exit.ret { tmps := tmps, defers := [] } W := by
  obtain ⟨d, hd, hr⟩ := hu
  have hld := run_loadVar_mid (P := Tryd.prog) W g 0 t c.toList d hg.range hd hr (by simpa using hi)
  refine bodyPost_ret (v := .tuple #[.agg c, v]) ?_ rfl h
  have ht' : tmps[j]?.getD undef = .pointer (some ⟨g, 0, none⟩) := by simpa using ht
  have hv' : tmps[k]?.getD undef = v := by simpa using hv
  simp [results, hres, ht', hv', asAddr, hld]
theorem set_block {W : World} {g : Nat} {cs : Array Value} {t : TypeId} (h : W.heap[g]? = some (.cells cs t (0, 0))) (k : Nat) (v : Value) : (W.setCell ⟨g, k, none⟩ v).heap[g]? = some (.cells (cs.setIfInBounds k v) t (0, 0)) := Blk.set h k v
theorem block_cell {w : World} {b : Nat} {cs : Array Value} {t : TypeId} (h : w.heap[b]? = some (.cells cs t (0, 0))) (i : Nat) : w.cell? ⟨b, i, none⟩ = cs[i]? := Blk.cell h i
theorem block_frozen {w : World} {b : Nat} {cs : Array Value} {t : TypeId} (h : w.heap[b]? = some (.cells cs t (0, 0))) (i : Nat) : w.frozen? ⟨b, i, none⟩ = false := Blk.frozen h i
theorem keep_block {W V : World} {g : Nat} {ob : Obj} (hb : W.heap[g]? = some ob) (h : Below W.heap.size W V) : V.heap[g]? = some ob := by
  rw [h.block g (Array.getElem?_eq_some_iff.1 hb).1]; exact hb
end Go.Proofs.YtkooijhdjjdigaaDoor
