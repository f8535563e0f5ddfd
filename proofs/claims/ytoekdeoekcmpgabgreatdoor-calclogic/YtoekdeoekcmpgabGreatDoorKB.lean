/- Package calc: what its walks share. -/
import Derived.Test.YtoekdeoekcmpgabGreatDoorVM
import Derived.Test.YtoekdeoekcmpgabGreatDoorQA
import Derived.Laws.MakeOwn
namespace Go.Proofs.YtoekdeoekcmpgabGreatDoor
open Go.ChangeShapes Go.WideShapes Go.ChangeAt Go.RowKit
set_option linter.unusedVariables false

theorem hide {p : Prop} (h : p) : Hid p := h
theorem set_block {w : World} {b : Nat} {cs : Array Value} {t : TypeId} (h : w.heap[b]? = some (.cells cs t (0, 0))) (o : Nat) (v : Value) : (w.setCell ⟨b, o, none⟩ v).heap[b]? = some (.cells (cs.setIfInBounds o v) t (0, 0)) := by
  simp [World.setCell, Array.getElem?_modify, h]
theorem block_cell {w : World} {b : Nat} {cs : Array Value} {t : TypeId} (h : w.heap[b]? = some (.cells cs t (0, 0))) (i : Nat) : w.cell? ⟨b, i, none⟩ = cs[i]? := by
  unfold World.cell?
  simp only [h]
  rfl
theorem grow_below (w : World) (k : Nat) (os : Array Obj) : Below w.heap.size w (Sort.grow (w.drewN k) os) :=
  ⟨rfl, rfl, rfl, by first | (simp [Sort.grow]; done) | (simp [Sort.grow]; omega), fun i hi => by
    show ((w.drewN k).heap ++ os)[i]? = _
    rw [Array.getElem?_append_left (by show i < w.heap.size; omega)]
    rfl⟩
theorem fmt_walk (n : Int) (h0 : -9223372036854775808 ≤ n) (h1 : n ≤ 9223372036854775807) (w : World) (hE : Env w) :
    Calls Tryz.prog 41 #[.int .i64 n, .int .i64 10] w fun e w' => e = .returned (.string ⟨(Lib.itoa n).toArray⟩) ∧ Below w.heap.size w w' := by
  refine (Tryz.strconv_FormatInt_10 n h0 h1 w hE.tab).mono ?_
  rintro e w1 ⟨rfl, k, os, rfl⟩
  exact ⟨rfl, grow_below _ _ _⟩
theorem pi_walk (s : ByteArray) (hs : s.size ≤ 1000) (w : World) (hE : Env w) : Calls Tryz.prog 43 #[.string s, .int .i64 10, .int .i64 64] w fun e w' => ∃ v, e = .returned (.tuple #[.int .i64 (numL s.data.toList), v]) ∧ Below w.heap.size w w' := by
  cases h : Lib.parseIntB 64 s.data.toList with
  | ok v =>
    refine (Tryz.strconv_ParseInt_10_at64_ok s (by omega) v h w).mono ?_
    rintro e w1 ⟨rfl, hw⟩
    refine ⟨_, by simp only [numL, h]; rfl, ?_⟩
    rcases hw with rfl | ⟨t, rfl⟩
    · exact Below.refl _ _
    · exact ⟨rfl, rfl, rfl, by rw [Lib.bytesWorld_size]; omega, fun j hj => Lib.bytesWorld_at_old w 5 t j hj⟩
  | «syntax» =>
    obtain ⟨ev, h1, h2⟩ := hE.syn
    refine (Tryz.strconv_ParseInt_10_at64_syntax s (by omega) h ev w h1 h2).mono ?_
    rintro e w1 ⟨N, rfl, _, _, hb⟩
    exact ⟨_, by simp only [numL, h]; rfl, hb⟩
  | range =>
    obtain ⟨ev, h1, h2⟩ := hE.ran
    refine (Tryz.strconv_ParseInt_10_at64_range s (by omega) h ev w h1 h2).mono ?_
    rintro e w1 ⟨N, rfl, _, _, hb⟩
    exact ⟨_, by simp only [numL, h]; rfl, hb⟩
theorem ts_walk (s p : ByteArray) (hs : s.size ≤ 1000) (w : World) : Calls Tryz.prog 69 #[.string s, .string p] w fun e w' => e = .returned (.string ⟨(Lib.trimSuffix s.data.toList p.data.toList).toArray⟩) ∧ w = w' := by
  refine (Tryz.strings_TrimSuffix s p w (by omega)).mono ?_
  rintro e w1 ⟨rfl, rfl⟩
  exact ⟨rfl, rfl⟩
theorem ext_list (s : ByteArray) (n : Nat) : (s.extract n s.size).data.toList = s.data.toList.drop n := by
  rw [Lib.extract_eq]
  have : s.data.toList.length = s.size := by simp
  show List.take _ _ = _
  rw [List.take_of_length_le (by rw [List.length_drop]; omega)]
theorem infoV : (Tryz.prog.info? 24).map (·.size) = some 3 := by kernel_rfl
theorem ret_val {w1 : World} {g : Nat} {x y z : Value} {fn : Func} (hres : fn.results = #[.cell 2 24]) {tmps : Array Value} (ht : tmps.getD 2 undef = .pointer (some ⟨g, 0, none⟩))
    (hb : w1.heap[g]? = some (.cells #[x, y, z] 24 (0, 0))) {a b c : Value} {R : Ending → World → Prop}
    (h : R (.returned (.agg #[a, b, c])) (((w1.setCell ⟨g, 0, none⟩ a).setCell ⟨g, 1, none⟩ b).setCell ⟨g, 2, none⟩ c)) :
    bodyPost Tryz.prog fn R Exit.ret { tmps := tmps, defers := [] } (((w1.setCell ⟨g, 0, none⟩ a).setCell ⟨g, 1, none⟩ b).setCell ⟨g, 2, none⟩ c) := by
  have hs := set_block (set_block (set_block hb 0 a) 1 b) 2 c
  exact bodyPost_ret (v := .agg #[a, b, c]) (results_cell_row hres _ _ g 24 _ (0, 0) _ ht (by simpa using hs) Tryz.underlying24 rfl infoV) rfl h
theorem below_set3 {w w1 : World} (h : Below w.heap.size w w1) (a b c : Value) : Below w.heap.size w (((w1.setCell ⟨w.heap.size, 0, none⟩ a).setCell ⟨w.heap.size, 1, none⟩ b).setCell ⟨w.heap.size, 2, none⟩ c) :=
  ((h.setCell (Nat.le_refl _) _).setCell (Nat.le_refl _) _).setCell (Nat.le_refl _) _
theorem res_block (w : World) (a b c : Value) (T : TypeId) {w1 : World} (hb : Below (w.alloc (.cells #[a, b, c] T)).heap.size (w.alloc (.cells #[a, b, c] T)) w1) :
    w1.heap[w.heap.size]? = some (.cells #[a, b, c] T (0, 0)) := by
  rw [hb.block _ (by simp)]
  show (w.heap.push _)[w.heap.size]? = _
  simp
theorem block_frozen {w : World} {b : Nat} {cs : Array Value} {t : TypeId} (h : w.heap[b]? = some (.cells cs t (0, 0))) (i : Nat) : w.frozen? ⟨b, i, none⟩ = false := by
  simp [World.frozen?, h]
theorem res_facts {w : World} {b : Nat} {x y z : Value} {T : TypeId} (h : w.heap[b]? = some (.cells #[x, y, z] T (0, 0))) :
    w.cell? ⟨b, 0, none⟩ = some x ∧ w.cell? ⟨b, 1, none⟩ = some y ∧ w.cell? ⟨b, 2, none⟩ = some z ∧ w.frozen? ⟨b, 0, none⟩ = false ∧ w.frozen? ⟨b, 1, none⟩ = false ∧ w.frozen? ⟨b, 2, none⟩ = false :=
  ⟨by rw [block_cell h]; rfl, by rw [block_cell h]; rfl, by rw [block_cell h]; rfl, block_frozen h 0, block_frozen h 1, block_frozen h 2⟩
theorem ret_val2 {w1 : World} {g : Nat} {x y z : Value} {fn : Func} (hres : fn.results = #[.cell 2 24, .tmp 3]) {tmps : Array Value} (ht : tmps.getD 2 undef = .pointer (some ⟨g, 0, none⟩)) {u : Value} (hu : tmps.getD 3 undef = u)
    (hb : w1.heap[g]? = some (.cells #[x, y, z] 24 (0, 0))) {a b c : Value} {R : Ending → World → Prop}
    (h : R (.returned (.tuple #[.agg #[a, b, c], u])) (((w1.setCell ⟨g, 0, none⟩ a).setCell ⟨g, 1, none⟩ b).setCell ⟨g, 2, none⟩ c)) :
    bodyPost Tryz.prog fn R Exit.ret { tmps := tmps, defers := [] } (((w1.setCell ⟨g, 0, none⟩ a).setCell ⟨g, 1, none⟩ b).setCell ⟨g, 2, none⟩ c) := by
  have hs := set_block (set_block (set_block hb 0 a) 1 b) 2 c
  have hl := run_loadVar_row (P := Tryz.prog) (((w1.setCell ⟨g, 0, none⟩ a).setCell ⟨g, 1, none⟩ b).setCell ⟨g, 2, none⟩ c) g 24 24 #[a, b, c] (0, 0) _ (by simpa using hs) Tryz.underlying24 rfl infoV
  refine bodyPost_ret (v := .tuple #[.agg #[a, b, c], u]) ?_ rfl h
  have ht' : tmps[2]?.getD undef = .pointer (some ⟨g, 0, none⟩) := by simpa using ht
  have hu' : tmps[3]?.getD undef = u := by simpa using hu
  simp [results, hres, ht', hu', asAddr, hl]
theorem two_blocks (w : World) (a b c x y z : Value) (T : TypeId) {w1 w2 : World} (h1 : Below (w.alloc (.cells #[a, b, c] T)).heap.size (w.alloc (.cells #[a, b, c] T)) w1)
    (h2 : Below (w1.alloc (.cells #[x, y, z] T)).heap.size (w1.alloc (.cells #[x, y, z] T)) w2) :
    w2.heap[w.heap.size]? = some (.cells #[a, b, c] T (0, 0)) ∧ w2.heap[w1.heap.size]? = some (.cells #[x, y, z] T (0, 0)) ∧ Below w.heap.size w w2 := by
  have hB := below_trans (new_below w1 _ rfl) h2
  refine ⟨?_, res_block w1 _ _ _ _ h2, below_trans (new_below w _ rfl) (below_trans h1 hB)⟩
  have hlt : w.heap.size < w1.heap.size := by have := h1.size; simp at this; omega
  rw [hB.block _ hlt]
  exact res_block w _ _ _ _ h1
theorem later_block (w : World) (a b c : Value) (T : TypeId) (V : World) (h : Below (w.alloc (.cells #[a, b, c] T)).heap.size (w.alloc (.cells #[a, b, c] T)) V) :
    V.cell? ⟨w.heap.size, 0, none⟩ = some a ∧ V.cell? ⟨w.heap.size, 1, none⟩ = some b ∧ V.cell? ⟨w.heap.size, 2, none⟩ = some c ∧
    (∀ o, (V.alloc o).cell? ⟨w.heap.size, 0, none⟩ = some a) ∧ (∀ o, (V.alloc o).cell? ⟨w.heap.size, 1, none⟩ = some b) ∧ (∀ o, (V.alloc o).cell? ⟨w.heap.size, 2, none⟩ = some c) := by
  obtain ⟨d0, d1, d2, _⟩ := res_facts (res_block w _ _ _ _ h)
  exact ⟨d0, d1, d2, fun o => cell_later (new_below V o rfl) d0, fun o => cell_later (new_below V o rfl) d1, fun o => cell_later (new_below V o rfl) d2⟩
theorem ret_any {V : World} {g : Nat} {fn : Func} (hres : fn.results = #[.cell 2 24, .tmp 3]) {tmps : Array Value} (ht : tmps.getD 2 undef = .pointer (some ⟨g, 0, none⟩)) {u : Value} (hu : tmps.getD 3 undef = u)
    {a b c : Value} (hb : V.heap[g]? = some (.cells #[a, b, c] 24 (0, 0))) {R : Ending → World → Prop} (h : R (.returned (.tuple #[.agg #[a, b, c], u])) V) :
    bodyPost Tryz.prog fn R Exit.ret { tmps := tmps, defers := [] } V := by
  have hl := run_loadVar_row (P := Tryz.prog) V g 24 24 #[a, b, c] (0, 0) _ hb Tryz.underlying24 rfl infoV
  refine bodyPost_ret (v := .tuple #[.agg #[a, b, c], u]) ?_ rfl h
  have ht' : tmps[2]?.getD undef = .pointer (some ⟨g, 0, none⟩) := by simpa using ht
  have hu' : tmps[3]?.getD undef = u := by simpa using hu
  simp [results, hres, ht', hu', asAddr, hl]
theorem res_later (w : World) (V : World) (h : Below (w.alloc (.cells #[.int .i64 0, .int .i64 0, .string ⟨#[]⟩] 24)).heap.size (w.alloc (.cells #[.int .i64 0, .int .i64 0, .string ⟨#[]⟩] 24)) V) :
    V.cell? ⟨w.heap.size, 0, none⟩ = some (.int .i64 0) ∧ V.cell? ⟨w.heap.size, 1, none⟩ = some (.int .i64 0) ∧ V.cell? ⟨w.heap.size, 2, none⟩ = some (.string ⟨#[]⟩) ∧ V.frozen? ⟨w.heap.size, 0, none⟩ = false ∧ V.frozen? ⟨w.heap.size, 1, none⟩ = false ∧ V.frozen? ⟨w.heap.size, 2, none⟩ = false ∧
    (∀ o, (V.alloc o).cell? ⟨w.heap.size, 0, none⟩ = some (.int .i64 0)) ∧ (∀ o, (V.alloc o).cell? ⟨w.heap.size, 1, none⟩ = some (.int .i64 0)) ∧ (∀ o, (V.alloc o).cell? ⟨w.heap.size, 2, none⟩ = some (.string ⟨#[]⟩)) ∧ (∀ o, (V.alloc o).frozen? ⟨w.heap.size, 0, none⟩ = false) ∧ (∀ o, (V.alloc o).frozen? ⟨w.heap.size, 1, none⟩ = false) ∧ (∀ o, (V.alloc o).frozen? ⟨w.heap.size, 2, none⟩ = false) ∧
    Hid (V.heap[w.heap.size]? = some (.cells #[.int .i64 0, .int .i64 0, .string ⟨#[]⟩] 24 (0, 0))) ∧ Hid (Below w.heap.size w V) ∧ Hid (w.heap.size < V.heap.size) := by
  have hR := res_block w _ _ _ _ h
  obtain ⟨d0, d1, d2, f0, f1, f2⟩ := res_facts hR
  have hA : ∀ o, (V.alloc o).heap[w.heap.size]? = some (.cells #[.int .i64 0, .int .i64 0, .string ⟨#[]⟩] 24 (0, 0)) := fun o => (Below.heap_alloc _ _ _ (Array.getElem?_eq_some_iff.1 hR).1).trans hR
  exact ⟨d0, d1, d2, f0, f1, f2, fun o => (res_facts (hA o)).1, fun o => (res_facts (hA o)).2.1, fun o => (res_facts (hA o)).2.2.1, fun o => block_frozen (hA o) 0, fun o => block_frozen (hA o) 1, fun o => block_frozen (hA o) 2, hR, below_trans (new_below w _ rfl) h, (Array.getElem?_eq_some_iff.1 hR).1⟩
theorem set3_alloc {w2 : World} {g : Nat} {x y z : Value} {T : TypeId} (hb : w2.heap[g]? = some (.cells #[x, y, z] T (0, 0))) (a b c : Value) (o : Obj) :
    ((((w2.setCell ⟨g, 0, none⟩ a).setCell ⟨g, 1, none⟩ b).setCell ⟨g, 2, none⟩ c).alloc o).heap[g]? = some (.cells #[a, b, c] T (0, 0)) := by
  have hs := set_block (set_block (set_block hb 0 a) 1 b) 2 c
  rw [Below.heap_alloc _ _ _ (Array.getElem?_eq_some_iff.1 hs).1]
  simpa using hs
theorem below_set3_alloc {w w2 : World} (h : Below w.heap.size w w2) (a b c : Value) (o : Obj) : Below w.heap.size w ((((w2.setCell ⟨w.heap.size, 0, none⟩ a).setCell ⟨w.heap.size, 1, none⟩ b).setCell ⟨w.heap.size, 2, none⟩ c).alloc o) :=
  (below_set3 h a b c).alloc (below_set3 h a b c).size _
end Go.Proofs.YtoekdeoekcmpgabGreatDoor
