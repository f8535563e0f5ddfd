/- Package calc: what its walks share. -/
/- Package calc: texts as numbers: ParseInt, number, firstNumber. -/
import Derived.Test.YtoekdeoekcmpgaaGreatDoorVM
import Derived.Test.YtoekdeoekcmpgaaGreatDoorQA
import Derived.Laws.MakeOwn
namespace Go.Proofs.YtoekdeoekcmpgaaGreatDoor
open Go.ChangeShapes Go.WideShapes Go.ChangeAt Go.RowKit
set_option linter.unusedVariables false

theorem hide {p : Prop} (h : p) : Hid p := h
theorem set_block {w : World} {b : Nat} {cs : Array Value} {t : TypeId} (h : w.heap[b]? = some (.cells cs t (0, 0))) (o : Nat) (v : Value) : (w.setCell ⟨b, o, none⟩ v).heap[b]? = some (.cells (cs.setIfInBounds o v) t (0, 0)) := by
  simp [World.setCell, Array.getElem?_modify, h]
theorem block_cell {w : World} {b : Nat} {cs : Array Value} {t : TypeId} (h : w.heap[b]? = some (.cells cs t (0, 0))) (i : Nat) : w.cell? ⟨b, i, none⟩ = cs[i]? := by
  unfold World.cell?
  simp only [h]
  rfl
theorem grow_below (w : World) (k : Nat) (os : Array Obj) : Below w.heap.size w (Sort.grow (w.drewN k) os) :=
  ⟨rfl, rfl, rfl, by first | (simp [Sort.grow]; done) | (simp [Sort.grow]; omega), fun i hi => by
    show ((w.drewN k).heap ++ os)[i]? = _
    rw [Array.getElem?_append_left (by show i < w.heap.size; omega)]
    rfl⟩
theorem fmt_walk (n : Int) (h0 : -9223372036854775808 ≤ n) (h1 : n ≤ 9223372036854775807) (w : World) (hE : Env w) :
    Calls Tryz.prog 42 #[.int .i64 n, .int .i64 10] w fun e w' => e = .returned (.string ⟨(Lib.itoa n).toArray⟩) ∧ Below w.heap.size w w' := by
  refine (Tryz.strconv_FormatInt_10 n h0 h1 w hE.tab).mono ?_
  rintro e w1 ⟨rfl, k, os, rfl⟩
  exact ⟨rfl, grow_below _ _ _⟩
theorem pi_walk (s : ByteArray) (hs : s.size ≤ 1000) (w : World) (hE : Env w) : Calls Tryz.prog 61 #[.string s, .int .i64 10, .int .i64 64] w fun e w' => ∃ v, e = .returned (.tuple #[.int .i64 (numL s.data.toList), v]) ∧ Below w.heap.size w w' := by
  cases h : Lib.parseIntB 64 s.data.toList with
  | ok v =>
    refine (Tryz.strconv_ParseInt_10_at64_ok s (by omega) v h w).mono ?_
    rintro e w1 ⟨rfl, hw⟩
    refine ⟨_, by simp only [numL, h]; rfl, ?_⟩
    rcases hw with rfl | ⟨t, rfl⟩
    · exact Below.refl _ _
    · exact ⟨rfl, rfl, rfl, by rw [Lib.bytesWorld_size]; omega, fun j hj => Lib.bytesWorld_at_old w 5 t j hj⟩
  | «syntax» =>
    obtain ⟨ev, h1, h2⟩ := hE.syn
    refine (Tryz.strconv_ParseInt_10_at64_syntax s (by omega) h ev w h1 h2).mono ?_
    rintro e w1 ⟨N, rfl, _, _, hb⟩
    exact ⟨_, by simp only [numL, h]; rfl, hb⟩
  | range =>
    obtain ⟨ev, h1, h2⟩ := hE.ran
    refine (Tryz.strconv_ParseInt_10_at64_range s (by omega) h ev w h1 h2).mono ?_
    rintro e w1 ⟨N, rfl, _, _, hb⟩
    exact ⟨_, by simp only [numL, h]; rfl, hb⟩
theorem ts_walk (s p : ByteArray) (hs : s.size ≤ 1000) (w : World) : Calls Tryz.prog 63 #[.string s, .string p] w fun e w' => e = .returned (.string ⟨(Lib.trimSuffix s.data.toList p.data.toList).toArray⟩) ∧ w = w' := by
  refine (Tryz.strings_TrimSuffix s p w (by omega)).mono ?_
  rintro e w1 ⟨rfl, rfl⟩
  exact ⟨rfl, rfl⟩
theorem ext_list (s : ByteArray) (n : Nat) : (s.extract n s.size).data.toList = s.data.toList.drop n := by
  rw [Lib.extract_eq]
  have : s.data.toList.length = s.size := by simp
  show List.take _ _ = _
  rw [List.take_of_length_le (by rw [List.length_drop]; omega)]
theorem infoV : (Tryz.prog.info? 24).map (·.size) = some 3 := by kernel_rfl
theorem ret_val {w1 : World} {g : Nat} {x y z : Value} {fn : Func} (hres : fn.results = #[.cell 2 24]) {tmps : Array Value} (ht : tmps.getD 2 undef = .pointer (some ⟨g, 0, none⟩))
    (hb : w1.heap[g]? = some (.cells #[x, y, z] 24 (0, 0))) {a b c : Value} {R : Ending → World → Prop}
    (h : R (.returned (.agg #[a, b, c])) (((w1.setCell ⟨g, 0, none⟩ a).setCell ⟨g, 1, none⟩ b).setCell ⟨g, 2, none⟩ c)) :
    bodyPost Tryz.prog fn R Exit.ret { tmps := tmps, defers := [] } (((w1.setCell ⟨g, 0, none⟩ a).setCell ⟨g, 1, none⟩ b).setCell ⟨g, 2, none⟩ c) := by
  have hs := set_block (set_block (set_block hb 0 a) 1 b) 2 c
  exact bodyPost_ret (v := .agg #[a, b, c]) (results_cell_row hres _ _ g 24 _ (0, 0) _ ht (by simpa using hs) Tryz.underlying24 rfl infoV) rfl h
theorem below_set3 {w w1 : World} (h : Below w.heap.size w w1) (a b c : Value) : Below w.heap.size w (((w1.setCell ⟨w.heap.size, 0, none⟩ a).setCell ⟨w.heap.size, 1, none⟩ b).setCell ⟨w.heap.size, 2, none⟩ c) :=
  ((h.setCell (Nat.le_refl _) _).setCell (Nat.le_refl _) _).setCell (Nat.le_refl _) _
theorem res_block (w : World) (a b c : Value) (T : TypeId) {w1 : World} (hb : Below (w.alloc (.cells #[a, b, c] T)).heap.size (w.alloc (.cells #[a, b, c] T)) w1) :
    w1.heap[w.heap.size]? = some (.cells #[a, b, c] T (0, 0)) := by
  rw [hb.block _ (by simp)]
  show (w.heap.push _)[w.heap.size]? = _
  simp
theorem block_frozen {w : World} {b : Nat} {cs : Array Value} {t : TypeId} (h : w.heap[b]? = some (.cells cs t (0, 0))) (i : Nat) : w.frozen? ⟨b, i, none⟩ = false := by
  simp [World.frozen?, h]
theorem res_facts {w : World} {b : Nat} {x y z : Value} {T : TypeId} (h : w.heap[b]? = some (.cells #[x, y, z] T (0, 0))) :
    w.cell? ⟨b, 0, none⟩ = some x ∧ w.cell? ⟨b, 1, none⟩ = some y ∧ w.cell? ⟨b, 2, none⟩ = some z ∧ w.frozen? ⟨b, 0, none⟩ = false ∧ w.frozen? ⟨b, 1, none⟩ = false ∧ w.frozen? ⟨b, 2, none⟩ = false :=
  ⟨by rw [block_cell h]; rfl, by rw [block_cell h]; rfl, by rw [block_cell h]; rfl, block_frozen h 0, block_frozen h 1, block_frozen h 2⟩
theorem ret_val2 {w1 : World} {g : Nat} {x y z : Value} {fn : Func} (hres : fn.results = #[.cell 2 24, .tmp 3]) {tmps : Array Value} (ht : tmps.getD 2 undef = .pointer (some ⟨g, 0, none⟩)) {u : Value} (hu : tmps.getD 3 undef = u)
    (hb : w1.heap[g]? = some (.cells #[x, y, z] 24 (0, 0))) {a b c : Value} {R : Ending → World → Prop}
    (h : R (.returned (.tuple #[.agg #[a, b, c], u])) (((w1.setCell ⟨g, 0, none⟩ a).setCell ⟨g, 1, none⟩ b).setCell ⟨g, 2, none⟩ c)) :
    bodyPost Tryz.prog fn R Exit.ret { tmps := tmps, defers := [] } (((w1.setCell ⟨g, 0, none⟩ a).setCell ⟨g, 1, none⟩ b).setCell ⟨g, 2, none⟩ c) := by
  have hs := set_block (set_block (set_block hb 0 a) 1 b) 2 c
  have hl := run_loadVar_row (P := Tryz.prog) (((w1.setCell ⟨g, 0, none⟩ a).setCell ⟨g, 1, none⟩ b).setCell ⟨g, 2, none⟩ c) g 24 24 #[a, b, c] (0, 0) _ (by simpa using hs) Tryz.underlying24 rfl infoV
  refine bodyPost_ret (v := .tuple #[.agg #[a, b, c], u]) ?_ rfl h
  have ht' : tmps[2]?.getD undef = .pointer (some ⟨g, 0, none⟩) := by simpa using ht
  have hu' : tmps[3]?.getD undef = u := by simpa using hu
  simp [results, hres, ht', hu', asAddr, hl]
theorem two_blocks (w : World) (a b c x y z : Value) (T : TypeId) {w1 w2 : World} (h1 : Below (w.alloc (.cells #[a, b, c] T)).heap.size (w.alloc (.cells #[a, b, c] T)) w1)
    (h2 : Below (w1.alloc (.cells #[x, y, z] T)).heap.size (w1.alloc (.cells #[x, y, z] T)) w2) :
    w2.heap[w.heap.size]? = some (.cells #[a, b, c] T (0, 0)) ∧ w2.heap[w1.heap.size]? = some (.cells #[x, y, z] T (0, 0)) ∧ Below w.heap.size w w2 := by
  have hB := below_trans (new_below w1 _ rfl) h2
  refine ⟨?_, res_block w1 _ _ _ _ h2, below_trans (new_below w _ rfl) (below_trans h1 hB)⟩
  have hlt : w.heap.size < w1.heap.size := by have := h1.size; simp at this; omega
  rw [hB.block _ hlt]
  exact res_block w _ _ _ _ h1
theorem later_block (w : World) (a b c : Value) (T : TypeId) (V : World) (h : Below (w.alloc (.cells #[a, b, c] T)).heap.size (w.alloc (.cells #[a, b, c] T)) V) :
    V.cell? ⟨w.heap.size, 0, none⟩ = some a ∧ V.cell? ⟨w.heap.size, 1, none⟩ = some b ∧ V.cell? ⟨w.heap.size, 2, none⟩ = some c ∧
    (∀ o, (V.alloc o).cell? ⟨w.heap.size, 0, none⟩ = some a) ∧ (∀ o, (V.alloc o).cell? ⟨w.heap.size, 1, none⟩ = some b) ∧ (∀ o, (V.alloc o).cell? ⟨w.heap.size, 2, none⟩ = some c) := by
  obtain ⟨d0, d1, d2, _⟩ := res_facts (res_block w _ _ _ _ h)
  exact ⟨d0, d1, d2, fun o => cell_later (new_below V o rfl) d0, fun o => cell_later (new_below V o rfl) d1, fun o => cell_later (new_below V o rfl) d2⟩
theorem ret_any {V : World} {g : Nat} {fn : Func} (hres : fn.results = #[.cell 2 24, .tmp 3]) {tmps : Array Value} (ht : tmps.getD 2 undef = .pointer (some ⟨g, 0, none⟩)) {u : Value} (hu : tmps.getD 3 undef = u)
    {a b c : Value} (hb : V.heap[g]? = some (.cells #[a, b, c] 24 (0, 0))) {R : Ending → World → Prop} (h : R (.returned (.tuple #[.agg #[a, b, c], u])) V) :
    bodyPost Tryz.prog fn R Exit.ret { tmps := tmps, defers := [] } V := by
  have hl := run_loadVar_row (P := Tryz.prog) V g 24 24 #[a, b, c] (0, 0) _ hb Tryz.underlying24 rfl infoV
  refine bodyPost_ret (v := .tuple #[.agg #[a, b, c], u]) ?_ rfl h
  have ht' : tmps[2]?.getD undef = .pointer (some ⟨g, 0, none⟩) := by simpa using ht
  have hu' : tmps[3]?.getD undef = u := by simpa using hu
  simp [results, hres, ht', hu', asAddr, hl]
theorem res_later (w : World) (V : World) (h : Below (w.alloc (.cells #[.int .i64 0, .int .i64 0, .string ⟨#[]⟩] 24)).heap.size (w.alloc (.cells #[.int .i64 0, .int .i64 0, .string ⟨#[]⟩] 24)) V) :
    V.cell? ⟨w.heap.size, 0, none⟩ = some (.int .i64 0) ∧ V.cell? ⟨w.heap.size, 1, none⟩ = some (.int .i64 0) ∧ V.cell? ⟨w.heap.size, 2, none⟩ = some (.string ⟨#[]⟩) ∧ V.frozen? ⟨w.heap.size, 0, none⟩ = false ∧ V.frozen? ⟨w.heap.size, 1, none⟩ = false ∧ V.frozen? ⟨w.heap.size, 2, none⟩ = false ∧
    (∀ o, (V.alloc o).cell? ⟨w.heap.size, 0, none⟩ = some (.int .i64 0)) ∧ (∀ o, (V.alloc o).cell? ⟨w.heap.size, 1, none⟩ = some (.int .i64 0)) ∧ (∀ o, (V.alloc o).cell? ⟨w.heap.size, 2, none⟩ = some (.string ⟨#[]⟩)) ∧ (∀ o, (V.alloc o).frozen? ⟨w.heap.size, 0, none⟩ = false) ∧ (∀ o, (V.alloc o).frozen? ⟨w.heap.size, 1, none⟩ = false) ∧ (∀ o, (V.alloc o).frozen? ⟨w.heap.size, 2, none⟩ = false) ∧
    Hid (V.heap[w.heap.size]? = some (.cells #[.int .i64 0, .int .i64 0, .string ⟨#[]⟩] 24 (0, 0))) ∧ Hid (Below w.heap.size w V) ∧ Hid (w.heap.size < V.heap.size) := by
  have hR := res_block w _ _ _ _ h
  obtain ⟨d0, d1, d2, f0, f1, f2⟩ := res_facts hR
  have hA : ∀ o, (V.alloc o).heap[w.heap.size]? = some (.cells #[.int .i64 0, .int .i64 0, .string ⟨#[]⟩] 24 (0, 0)) := fun o => (Below.heap_alloc _ _ _ (Array.getElem?_eq_some_iff.1 hR).1).trans hR
  exact ⟨d0, d1, d2, f0, f1, f2, fun o => (res_facts (hA o)).1, fun o => (res_facts (hA o)).2.1, fun o => (res_facts (hA o)).2.2.1, fun o => block_frozen (hA o) 0, fun o => block_frozen (hA o) 1, fun o => block_frozen (hA o) 2, hR, below_trans (new_below w _ rfl) h, (Array.getElem?_eq_some_iff.1 hR).1⟩
theorem set3_alloc {w2 : World} {g : Nat} {x y z : Value} {T : TypeId} (hb : w2.heap[g]? = some (.cells #[x, y, z] T (0, 0))) (a b c : Value) (o : Obj) :
    ((((w2.setCell ⟨g, 0, none⟩ a).setCell ⟨g, 1, none⟩ b).setCell ⟨g, 2, none⟩ c).alloc o).heap[g]? = some (.cells #[a, b, c] T (0, 0)) := by
  have hs := set_block (set_block (set_block hb 0 a) 1 b) 2 c
  rw [Below.heap_alloc _ _ _ (Array.getElem?_eq_some_iff.1 hs).1]
  simpa using hs
theorem below_set3_alloc {w w2 : World} (h : Below w.heap.size w w2) (a b c : Value) (o : Obj) : Below w.heap.size w ((((w2.setCell ⟨w.heap.size, 0, none⟩ a).setCell ⟨w.heap.size, 1, none⟩ b).setCell ⟨w.heap.size, 2, none⟩ c).alloc o) :=
  (below_set3 h a b c).alloc (below_set3 h a b c).size _
end Go.Proofs.YtoekdeoekcmpgaaGreatDoor

namespace Go.Proofs.YtoekdeoekcmpgaaGreatDoor
open Go.ChangeShapes Go.WideShapes Go.ChangeAt Go.RowKit
set_option linter.unusedVariables false

theorem bytes_below (w : World) (t : ByteArray) : Below w.heap.size w (Lib.bytesWorld w 5 t) :=
  ⟨rfl, rfl, rfl, by rw [Lib.bytesWorld_size]; omega, fun j hj => Lib.bytesWorld_at_old w 5 t j hj⟩

theorem pi_ok (s : ByteArray) (hs : s.size ≤ 1000) (v : Int) (h : intL s.data.toList = some v) (w : World) : Calls Tryz.prog 61 #[.string s, .int .i64 10, .int .i64 64] w fun e w' => e = .returned (.tuple #[.int .i64 v, .nilIface]) ∧ Below w.heap.size w w' := by
  unfold intL at h
  cases hp : Lib.parseIntB 64 s.data.toList with
  | ok u =>
    rw [hp] at h
    obtain rfl : u = v := Option.some.inj h
    refine (Tryz.strconv_ParseInt_10_at64_ok s (by omega) u hp w).mono ?_
    rintro e w1 ⟨rfl, hw⟩
    refine ⟨rfl, ?_⟩
    rcases hw with rfl | ⟨t, rfl⟩
    · exact Below.refl _ _
    · exact ⟨rfl, rfl, rfl, by rw [Lib.bytesWorld_size]; omega, fun j hj => Lib.bytesWorld_at_old w 5 t j hj⟩
  | «syntax» => rw [hp] at h; cases h
  | range => rw [hp] at h; cases h
theorem pi_no (s : ByteArray) (hs : s.size ≤ 1000) (h : intL s.data.toList = none) (w : World) (hE : Env w) : Calls Tryz.prog 61 #[.string s, .int .i64 10, .int .i64 64] w fun e w' => ∃ m te pe, e = .returned (.tuple #[.int .i64 m, .iface te pe]) ∧ Below w.heap.size w w' := by
  unfold intL at h
  cases hp : Lib.parseIntB 64 s.data.toList with
  | ok u => rw [hp] at h; cases h
  | «syntax» =>
    obtain ⟨ev, h1, h2⟩ := hE.syn
    refine (Tryz.strconv_ParseInt_10_at64_syntax s (by omega) hp ev w h1 h2).mono ?_
    rintro e w1 ⟨N, rfl, _, _, hb⟩
    exact ⟨_, _, _, rfl, hb⟩
  | range =>
    obtain ⟨ev, h1, h2⟩ := hE.ran
    refine (Tryz.strconv_ParseInt_10_at64_range s (by omega) hp ev w h1 h2).mono ?_
    rintro e w1 ⟨N, rfl, _, _, hb⟩
    exact ⟨_, _, _, rfl, hb⟩

/-- A number, or NULL. -/
def optV : Option Int → Value
  | some n => val 1 n ⟨#[]⟩
  | none => val 0 0 ⟨#[]⟩

set_option maxHeartbeats 1000000 in
set_option maxRecDepth 10000 in
theorem knumber_walk (s : ByteArray) (hs : s.size ≤ 1000) (w : World) (hE : Env w) : Calls Tryz.prog 33 #[.string s] w fun e w' => e = .returned (optV (intL s.data.toList)) ∧ Below w.heap.size w w' := by
  have HW : Hid (∀ V, _ → _) := res_later w
  have HE : Hid (∀ V, Below w.heap.size w V → Env V) := fun V h => hE.below h
  have HE1 : Hid (Env (w.alloc (.cells #[.int .i64 0, .int .i64 0, .string ⟨#[]⟩] 24))) := hE.below (new_below w _ rfl)
  clear hE
  cases h : intL s.data.toList with
  | some v =>
    have HP : Hid (∀ V, Calls Tryz.prog 61 #[.string s, .int .i64 10, .int .i64 64] V fun e w' => e = .returned (.tuple #[.int .i64 v, .nilIface]) ∧ Below V.heap.size V w') := fun V => pi_ok s hs v h V
    clear h
    go_enter Tryz.func33, Tryz.ntmps33
    go_wp2_with (first
      | (go_at_call 61; with_reducible refine Calls.mono (HP.out _) ?_; rintro e w1 ⟨rfl, hb1⟩; obtain ⟨d0, d1, d2, f0, f1, f2, a0, a1, a2, b0, b1, b2, HK1, HB1, HL1⟩ := HW.out _ hb1; have HBx := hide hb1; clear hb1)
      | (go_at_call 60; with_reducible refine Calls.mono (int_walk _ _) ?_; rintro e w2 ⟨rfl, hb2⟩; obtain ⟨d0, d1, d2, f0, f1, f2, a0, a1, a2, b0, b1, b2, HK2, HB2, HL2⟩ := HW.out _ (below_trans HBx.out hb2); clear hb2))
    exact ret_val Tryz.results33 rfl HK2.out ⟨rfl, below_set3 HB2.out _ _ _⟩
  | none =>
    have HP : Hid (∀ V, Env V → Calls Tryz.prog 61 #[.string s, .int .i64 10, .int .i64 64] V fun e w' => ∃ m te pe, e = .returned (.tuple #[.int .i64 m, .iface te pe]) ∧ Below V.heap.size V w') := fun V hV => pi_no s hs h V hV
    clear h
    go_enter Tryz.func33, Tryz.ntmps33
    go_wp2_with (first
      | (go_at_call 61; with_reducible refine Calls.mono (HP.out _ HE1.out) ?_; rintro e w1 ⟨m, te, pe, rfl, hb1⟩; obtain ⟨d0, d1, d2, f0, f1, f2, a0, a1, a2, b0, b1, b2, HK1, HB1, HL1⟩ := HW.out _ hb1; clear hb1))
    exact ret_val Tryz.results33 rfl HK1.out ⟨rfl, below_set3 HB1.out _ _ _⟩

theorem ib_sign (c : UInt8) (w : World) : Calls Tryz.prog 62 #[.string ⟨#[43, 45]⟩, .int .u8 (c.toNat : Int)] w fun e w' => e = .returned (.int .i64 (Lib.indexByte [43, 45] c)) ∧ w = w' := by
  refine (Tryz.strings_IndexByte _ _ _).mono ?_
  rintro e w1 ⟨rfl, rfl⟩
  refine ⟨?_, rfl⟩
  simp
theorem sign_fin : ∀ c : Fin 256, decide (0 ≤ Lib.indexByte [43, 45] (UInt8.ofNat c.val)) = decide (UInt8.ofNat c.val = 43 ∨ UInt8.ofNat c.val = 45) := by decide +kernel
theorem sign_iff (c : UInt8) : 0 ≤ Lib.indexByte [43, 45] c ↔ (c = 43 ∨ c = 45) := by
  have := sign_fin ⟨c.toNat, UInt8.toNat_lt c⟩
  simp only [UInt8.ofNat_toNat] at this
  exact decide_eq_decide.1 this

theorem tl_digits (s : ByteArray) (w : World) : Calls Tryz.prog 35 #[.string s, .string ⟨#[48, 49, 50, 51, 52, 53, 54, 55, 56, 57]⟩] w fun e w' => e = .returned (.string ⟨(Lib.trimLeftS s.data.toList digitL).toArray⟩) ∧ Below w.heap.size w w' :=
  Tryz.strings_TrimLeft_laid s ⟨#[48, 49, 50, 51, 52, 53, 54, 55, 56, 57]⟩ w (by decide) (ascii_of_all (by decide))
theorem tl_blanks (s : ByteArray) (w : World) : Calls Tryz.prog 35 #[.string s, .string ⟨#[32, 9, 10, 13]⟩] w fun e w' => e = .returned (.string ⟨(Lib.trimLeftS s.data.toList blankL).toArray⟩) ∧ Below w.heap.size w w' :=
  Tryz.strings_TrimLeft_laid s ⟨#[32, 9, 10, 13]⟩ w (by decide) (ascii_of_all (by decide))

theorem trimSuffix_app (a b : List UInt8) : Lib.trimSuffix (a ++ b) b = a := by
  unfold Lib.trimSuffix
  have h : Lib.hasSuffix (a ++ b) b = true := by unfold Lib.hasSuffix; simp
  rw [if_pos h]
  simp
end Go.Proofs.YtoekdeoekcmpgaaGreatDoor
