/- Package calc: the closures of arithmetic. -/
import Derived.Test.YtoekdeoekcmpgabGreatDoorKL
import Derived.Shelf.Abstract
namespace Go.Proofs.YtoekdeoekcmpgabGreatDoor
open Go.ChangeShapes Go.WideShapes Go.ChangeAt Go.RowKit
set_option linter.unusedVariables false

/-- Two parameters' blocks and the result's own, in every later world. -/
theorem pr2_later (w : World) (k n : Int) (t : ByteArray) (k2 n2 : Int) (t2 : ByteArray) (V : World) (h : Below (((w.alloc (vcells k n t)).alloc (vcells k2 n2 t2)).alloc nilcells).heap.size (((w.alloc (vcells k n t)).alloc (vcells k2 n2 t2)).alloc nilcells) V) :
    (V.cell? ⟨w.heap.size, 0, none⟩ = some (.int .i64 k) ∧ V.cell? ⟨w.heap.size, 1, none⟩ = some (.int .i64 n) ∧ V.cell? ⟨w.heap.size, 2, none⟩ = some (.string t)) ∧
    (V.cell? ⟨w.heap.size + 1, 0, none⟩ = some (.int .i64 k2) ∧ V.cell? ⟨w.heap.size + 1, 1, none⟩ = some (.int .i64 n2) ∧ V.cell? ⟨w.heap.size + 1, 2, none⟩ = some (.string t2)) ∧
    (V.cell? ⟨w.heap.size + 1 + 1, 0, none⟩ = some (.int .i64 0) ∧ V.cell? ⟨w.heap.size + 1 + 1, 1, none⟩ = some (.int .i64 0) ∧ V.cell? ⟨w.heap.size + 1 + 1, 2, none⟩ = some (.string ⟨#[]⟩) ∧ V.frozen? ⟨w.heap.size + 1 + 1, 0, none⟩ = false ∧ V.frozen? ⟨w.heap.size + 1 + 1, 1, none⟩ = false ∧ V.frozen? ⟨w.heap.size + 1 + 1, 2, none⟩ = false) ∧
    Hid (V.heap[w.heap.size + 1 + 1]? = some (nilcells)) ∧ Hid (Below w.heap.size w V) := by
  have hP : (((w.alloc (vcells k n t)).alloc (vcells k2 n2 t2)).alloc nilcells).heap[w.heap.size]? = some (vcells k n t) := by
    refine blk_alloc (blk_alloc ?_ _) _
    exact Array.getElem?_push_size
  have hQ : (((w.alloc (vcells k n t)).alloc (vcells k2 n2 t2)).alloc nilcells).heap[w.heap.size + 1]? = some (vcells k2 n2 t2) := by
    refine blk_alloc ?_ _
    show ((w.heap.push _).push _)[w.heap.size + 1]? = _
    rw [show w.heap.size + 1 = (w.heap.push (vcells k n t)).size by simp]
    exact Array.getElem?_push_size
  have hR : (((w.alloc (vcells k n t)).alloc (vcells k2 n2 t2)).alloc nilcells).heap[w.heap.size + 1 + 1]? = some nilcells := by
    show (((w.heap.push _).push _).push _)[w.heap.size + 1 + 1]? = _
    rw [show w.heap.size + 1 + 1 = ((w.heap.push (vcells k n t)).push (vcells k2 n2 t2)).size by simp]
    exact Array.getElem?_push_size
  have hP' := blk_later hP h
  have hQ' := blk_later hQ h
  have hR' := blk_later hR h
  obtain ⟨d0, d1, d2, -, -, -⟩ := res_facts hP'
  obtain ⟨e0, e1, e2, -, -, -⟩ := res_facts hQ'
  exact ⟨⟨d0, d1, d2⟩, ⟨e0, e1, e2⟩, res_facts hR', hR', below_trans (below_trans (below_trans (new_below w _ rfl) (new_below _ _ rfl)) (new_below _ _ rfl)) h⟩

theorem old_cell3 {w : World} {a : Addr} {v : Value} (h : w.cell? a = some v) (x y z : Obj) : ((((w.alloc x).alloc y).alloc z)).cell? a = some v :=
  cell_later (new_below _ _ rfl) (cell_later (new_below _ _ rfl) (cell_later (new_below w _ rfl) h))

/-- The same, where nothing was stored anew. -/
theorem ret_same {V : World} {g j : Nat} {fn : Func} (hres : fn.results = #[.cell j 24]) {tmps : Array Value} (ht : tmps.getD j undef = .pointer (some ⟨g, 0, none⟩))
    {a b c : Value} (hb : V.heap[g]? = some (.cells #[a, b, c] 24 (0, 0))) {R : Ending → World → Prop} (h : R (.returned (.agg #[a, b, c])) V) :
    bodyPost Tryz.prog fn R Exit.ret { tmps := tmps, defers := [] } V :=
  bodyPost_ret (v := .agg #[a, b, c]) (results_cell_row hres _ _ g 24 _ (0, 0) _ ht hb Tryz.underlying24 rfl infoV) rfl h
/-- A value comes back out of a result's own block, whatever its place. -/
theorem ret_valg {w1 : World} {g j : Nat} {x y z : Value} {fn : Func} (hres : fn.results = #[.cell j 24]) {tmps : Array Value} (ht : tmps.getD j undef = .pointer (some ⟨g, 0, none⟩))
    (hb : w1.heap[g]? = some (.cells #[x, y, z] 24 (0, 0))) {a b c : Value} {R : Ending → World → Prop}
    (h : R (.returned (.agg #[a, b, c])) (((w1.setCell ⟨g, 0, none⟩ a).setCell ⟨g, 1, none⟩ b).setCell ⟨g, 2, none⟩ c)) :
    bodyPost Tryz.prog fn R Exit.ret { tmps := tmps, defers := [] } (((w1.setCell ⟨g, 0, none⟩ a).setCell ⟨g, 1, none⟩ b).setCell ⟨g, 2, none⟩ c) := by
  have hs := set_block (set_block (set_block hb 0 a) 1 b) 2 c
  exact bodyPost_ret (v := .agg #[a, b, c]) (results_cell_row hres _ _ g 24 _ (0, 0) _ ht (by simpa using hs) Tryz.underlying24 rfl infoV) rfl h

set_option maxHeartbeats 1000000 in
set_option maxRecDepth 10000 in
theorem clo1_sum (o : Option Int) (x y : Int) (HF : Hid (∀ V, Calls Tryz.prog 27 #[.int .i64 x, .int .i64 y] V fun e w' => arE o e ∧ V = w')) (p : Nat) (w : World) (hc : w.cell? ⟨p, 0, none⟩ = some (.func (.func 27) #[] #[])) :
    Calls Tryz.prog 54 #[val 1 x ⟨#[]⟩, val 1 y ⟨#[]⟩, .pointer (some ⟨p, 0, none⟩)] w fun e w' => e = .returned (optV o) ∧ Below w.heap.size w w' := by
  have HW : Hid (∀ V, _ → _) := pr2_later w 1 x ⟨#[]⟩ 1 y ⟨#[]⟩
  have hc3 := old_cell3 hc (vcells 1 x ⟨#[]⟩) (vcells 1 y ⟨#[]⟩) nilcells
  clear hc
  cases o with
  | some m =>
    dsimp only [arE] at HF
    go_enter Tryz.func54, Tryz.ntmps54
    go_wp2_with (first
      | (go_at_call 27; with_reducible refine Calls.mono (HF.out _) ?_; rintro e w1 ⟨rfl, rfl⟩)
      | (go_at_call 25; with_reducible refine Calls.mono (int_walk _ _) ?_; rintro e w2 ⟨rfl, hb2⟩; obtain ⟨⟨p0, p1, p2⟩, ⟨q0, q1, q2⟩, ⟨d0, d1, d2, f0, f1, f2⟩, HK2, HB2⟩ := HW.out _ hb2; clear hb2))
    exact ret_valg Tryz.results54 rfl HK2.out ⟨rfl, below_set3g HB2.out (Nat.le_succ_of_le (Nat.le_succ _)) _ _ _⟩
  | none =>
    dsimp only [arE] at HF
    obtain ⟨⟨p0, p1, p2⟩, ⟨q0, q1, q2⟩, ⟨d0, d1, d2, f0, f1, f2⟩, HK2, HB2⟩ := HW.out _ (Below.refl _ _)
    go_enter Tryz.func54, Tryz.ntmps54
    go_wp2_with (first
      | (go_at_call 27; with_reducible refine Calls.mono (HF.out _) ?_; rintro e w1 ⟨⟨n, rfl⟩, rfl⟩))
    exact ret_same Tryz.results54 rfl HK2.out ⟨rfl, HB2.out⟩
set_option maxHeartbeats 1000000 in
set_option maxRecDepth 10000 in
theorem clo1_dif (o : Option Int) (x y : Int) (HF : Hid (∀ V, Calls Tryz.prog 28 #[.int .i64 x, .int .i64 y] V fun e w' => arE o e ∧ V = w')) (p : Nat) (w : World) (hc : w.cell? ⟨p, 0, none⟩ = some (.func (.func 28) #[] #[])) :
    Calls Tryz.prog 54 #[val 1 x ⟨#[]⟩, val 1 y ⟨#[]⟩, .pointer (some ⟨p, 0, none⟩)] w fun e w' => e = .returned (optV o) ∧ Below w.heap.size w w' := by
  have HW : Hid (∀ V, _ → _) := pr2_later w 1 x ⟨#[]⟩ 1 y ⟨#[]⟩
  have hc3 := old_cell3 hc (vcells 1 x ⟨#[]⟩) (vcells 1 y ⟨#[]⟩) nilcells
  clear hc
  cases o with
  | some m =>
    dsimp only [arE] at HF
    go_enter Tryz.func54, Tryz.ntmps54
    go_wp2_with (first
      | (go_at_call 28; with_reducible refine Calls.mono (HF.out _) ?_; rintro e w1 ⟨rfl, rfl⟩)
      | (go_at_call 25; with_reducible refine Calls.mono (int_walk _ _) ?_; rintro e w2 ⟨rfl, hb2⟩; obtain ⟨⟨p0, p1, p2⟩, ⟨q0, q1, q2⟩, ⟨d0, d1, d2, f0, f1, f2⟩, HK2, HB2⟩ := HW.out _ hb2; clear hb2))
    exact ret_valg Tryz.results54 rfl HK2.out ⟨rfl, below_set3g HB2.out (Nat.le_succ_of_le (Nat.le_succ _)) _ _ _⟩
  | none =>
    dsimp only [arE] at HF
    obtain ⟨⟨p0, p1, p2⟩, ⟨q0, q1, q2⟩, ⟨d0, d1, d2, f0, f1, f2⟩, HK2, HB2⟩ := HW.out _ (Below.refl _ _)
    go_enter Tryz.func54, Tryz.ntmps54
    go_wp2_with (first
      | (go_at_call 28; with_reducible refine Calls.mono (HF.out _) ?_; rintro e w1 ⟨⟨n, rfl⟩, rfl⟩))
    exact ret_same Tryz.results54 rfl HK2.out ⟨rfl, HB2.out⟩
set_option maxHeartbeats 1000000 in
set_option maxRecDepth 10000 in
theorem clo1_mul (o : Option Int) (x y : Int) (HF : Hid (∀ V, Calls Tryz.prog 29 #[.int .i64 x, .int .i64 y] V fun e w' => arE o e ∧ V = w')) (p : Nat) (w : World) (hc : w.cell? ⟨p, 0, none⟩ = some (.func (.func 29) #[] #[])) :
    Calls Tryz.prog 54 #[val 1 x ⟨#[]⟩, val 1 y ⟨#[]⟩, .pointer (some ⟨p, 0, none⟩)] w fun e w' => e = .returned (optV o) ∧ Below w.heap.size w w' := by
  have HW : Hid (∀ V, _ → _) := pr2_later w 1 x ⟨#[]⟩ 1 y ⟨#[]⟩
  have hc3 := old_cell3 hc (vcells 1 x ⟨#[]⟩) (vcells 1 y ⟨#[]⟩) nilcells
  clear hc
  cases o with
  | some m =>
    dsimp only [arE] at HF
    go_enter Tryz.func54, Tryz.ntmps54
    go_wp2_with (first
      | (go_at_call 29; with_reducible refine Calls.mono (HF.out _) ?_; rintro e w1 ⟨rfl, rfl⟩)
      | (go_at_call 25; with_reducible refine Calls.mono (int_walk _ _) ?_; rintro e w2 ⟨rfl, hb2⟩; obtain ⟨⟨p0, p1, p2⟩, ⟨q0, q1, q2⟩, ⟨d0, d1, d2, f0, f1, f2⟩, HK2, HB2⟩ := HW.out _ hb2; clear hb2))
    exact ret_valg Tryz.results54 rfl HK2.out ⟨rfl, below_set3g HB2.out (Nat.le_succ_of_le (Nat.le_succ _)) _ _ _⟩
  | none =>
    dsimp only [arE] at HF
    obtain ⟨⟨p0, p1, p2⟩, ⟨q0, q1, q2⟩, ⟨d0, d1, d2, f0, f1, f2⟩, HK2, HB2⟩ := HW.out _ (Below.refl _ _)
    go_enter Tryz.func54, Tryz.ntmps54
    go_wp2_with (first
      | (go_at_call 29; with_reducible refine Calls.mono (HF.out _) ?_; rintro e w1 ⟨⟨n, rfl⟩, rfl⟩))
    exact ret_same Tryz.results54 rfl HK2.out ⟨rfl, HB2.out⟩
set_option maxHeartbeats 1000000 in
set_option maxRecDepth 10000 in
theorem clo1_quo (o : Option Int) (x y : Int) (HF : Hid (∀ V, Calls Tryz.prog 30 #[.int .i64 x, .int .i64 y] V fun e w' => arE o e ∧ V = w')) (p : Nat) (w : World) (hc : w.cell? ⟨p, 0, none⟩ = some (.func (.func 30) #[] #[])) :
    Calls Tryz.prog 54 #[val 1 x ⟨#[]⟩, val 1 y ⟨#[]⟩, .pointer (some ⟨p, 0, none⟩)] w fun e w' => e = .returned (optV o) ∧ Below w.heap.size w w' := by
  have HW : Hid (∀ V, _ → _) := pr2_later w 1 x ⟨#[]⟩ 1 y ⟨#[]⟩
  have hc3 := old_cell3 hc (vcells 1 x ⟨#[]⟩) (vcells 1 y ⟨#[]⟩) nilcells
  clear hc
  cases o with
  | some m =>
    dsimp only [arE] at HF
    go_enter Tryz.func54, Tryz.ntmps54
    go_wp2_with (first
      | (go_at_call 30; with_reducible refine Calls.mono (HF.out _) ?_; rintro e w1 ⟨rfl, rfl⟩)
      | (go_at_call 25; with_reducible refine Calls.mono (int_walk _ _) ?_; rintro e w2 ⟨rfl, hb2⟩; obtain ⟨⟨p0, p1, p2⟩, ⟨q0, q1, q2⟩, ⟨d0, d1, d2, f0, f1, f2⟩, HK2, HB2⟩ := HW.out _ hb2; clear hb2))
    exact ret_valg Tryz.results54 rfl HK2.out ⟨rfl, below_set3g HB2.out (Nat.le_succ_of_le (Nat.le_succ _)) _ _ _⟩
  | none =>
    dsimp only [arE] at HF
    obtain ⟨⟨p0, p1, p2⟩, ⟨q0, q1, q2⟩, ⟨d0, d1, d2, f0, f1, f2⟩, HK2, HB2⟩ := HW.out _ (Below.refl _ _)
    go_enter Tryz.func54, Tryz.ntmps54
    go_wp2_with (first
      | (go_at_call 30; with_reducible refine Calls.mono (HF.out _) ?_; rintro e w1 ⟨⟨n, rfl⟩, rfl⟩))
    exact ret_same Tryz.results54 rfl HK2.out ⟨rfl, HB2.out⟩
set_option maxHeartbeats 1000000 in
set_option maxRecDepth 10000 in
theorem clo1_rem (o : Option Int) (x y : Int) (HF : Hid (∀ V, Calls Tryz.prog 31 #[.int .i64 x, .int .i64 y] V fun e w' => arE o e ∧ V = w')) (p : Nat) (w : World) (hc : w.cell? ⟨p, 0, none⟩ = some (.func (.func 31) #[] #[])) :
    Calls Tryz.prog 54 #[val 1 x ⟨#[]⟩, val 1 y ⟨#[]⟩, .pointer (some ⟨p, 0, none⟩)] w fun e w' => e = .returned (optV o) ∧ Below w.heap.size w w' := by
  have HW : Hid (∀ V, _ → _) := pr2_later w 1 x ⟨#[]⟩ 1 y ⟨#[]⟩
  have hc3 := old_cell3 hc (vcells 1 x ⟨#[]⟩) (vcells 1 y ⟨#[]⟩) nilcells
  clear hc
  cases o with
  | some m =>
    dsimp only [arE] at HF
    go_enter Tryz.func54, Tryz.ntmps54
    go_wp2_with (first
      | (go_at_call 31; with_reducible refine Calls.mono (HF.out _) ?_; rintro e w1 ⟨rfl, rfl⟩)
      | (go_at_call 25; with_reducible refine Calls.mono (int_walk _ _) ?_; rintro e w2 ⟨rfl, hb2⟩; obtain ⟨⟨p0, p1, p2⟩, ⟨q0, q1, q2⟩, ⟨d0, d1, d2, f0, f1, f2⟩, HK2, HB2⟩ := HW.out _ hb2; clear hb2))
    exact ret_valg Tryz.results54 rfl HK2.out ⟨rfl, below_set3g HB2.out (Nat.le_succ_of_le (Nat.le_succ _)) _ _ _⟩
  | none =>
    dsimp only [arE] at HF
    obtain ⟨⟨p0, p1, p2⟩, ⟨q0, q1, q2⟩, ⟨d0, d1, d2, f0, f1, f2⟩, HK2, HB2⟩ := HW.out _ (Below.refl _ _)
    go_enter Tryz.func54, Tryz.ntmps54
    go_wp2_with (first
      | (go_at_call 31; with_reducible refine Calls.mono (HF.out _) ?_; rintro e w1 ⟨⟨n, rfl⟩, rfl⟩))
    exact ret_same Tryz.results54 rfl HK2.out ⟨rfl, HB2.out⟩

/-- The function values of arithmetic: what lies in the captured variables. -/
structure ArFn (w : World) (p2 f : Nat) : Prop where
  c : ∃ p3 p1 : Nat, w.cell? ⟨p2, 0, none⟩ = some (.func (.func 58) #[] #[.pointer (some ⟨p3, 0, none⟩)]) ∧ w.cell? ⟨p3, 0, none⟩ = some (.func (.func 54) #[] #[.pointer (some ⟨p1, 0, none⟩)]) ∧ w.cell? ⟨p1, 0, none⟩ = some (.func (.func f) #[] #[])
theorem ArFn.below {w w' : World} {p2 f : Nat} (h : ArFn w p2 f) (b : Below w.heap.size w w') : ArFn w' p2 f := by
  obtain ⟨p3, p1, h1, h2, h3⟩ := h.c
  exact ⟨p3, p1, cell_later b h1, cell_later b h2, cell_later b h3⟩

def arO (g : Int → Int → Option Int) (a b : Option Int) : Option Int := match a, b with | some x, some y => g x y | _, _ => none
theorem optV_val (o : Option Int) : ∃ k n t, optV o = val k n t := by
  cases o with
  | none => exact ⟨_, _, _, rfl⟩
  | some m => exact ⟨_, _, _, rfl⟩

set_option maxHeartbeats 1000000 in
set_option maxRecDepth 10000 in
theorem clo3_both (x y : Int) (o : Option Int) (p3 p1 : Nat) (w : World) (hc : w.cell? ⟨p3, 0, none⟩ = some (.func (.func 54) #[] #[.pointer (some ⟨p1, 0, none⟩)]))
    (HF : Hid (∀ V, Below w.heap.size w V → Calls Tryz.prog 54 #[val 1 x ⟨#[]⟩, val 1 y ⟨#[]⟩, .pointer (some ⟨p1, 0, none⟩)] V fun e w' => e = .returned (optV o) ∧ Below V.heap.size V w')) :
    Calls Tryz.prog 58 #[val 1 x ⟨#[]⟩, val 1 y ⟨#[]⟩, .pointer (some ⟨p3, 0, none⟩)] w fun e w' => e = .returned (optV o) ∧ Below w.heap.size w w' := by
  have HW : Hid (∀ V, _ → _) := pr2_later w 1 x ⟨#[]⟩ 1 y ⟨#[]⟩
  have hc3 := old_cell3 hc (vcells 1 x ⟨#[]⟩) (vcells 1 y ⟨#[]⟩) nilcells
  have HB0 : Hid (Below w.heap.size w (((w.alloc (vcells 1 x ⟨#[]⟩)).alloc (vcells 1 y ⟨#[]⟩)).alloc nilcells)) := (pr2_later w 1 x ⟨#[]⟩ 1 y ⟨#[]⟩ _ (Below.refl _ _)).2.2.2.2
  obtain ⟨a1, a2, a3, hv⟩ := optV_val o
  rw [hv] at HF ⊢
  clear hc hv
  go_enter Tryz.func58, Tryz.ntmps58
  go_wp2_with (first
    | (go_at_call 54; with_reducible refine Calls.mono (HF.out _ HB0.out) ?_; rintro e w2 ⟨rfl, hb2⟩; obtain ⟨⟨p0, p1, p2⟩, ⟨q0, q1, q2⟩, ⟨d0, d1, d2, f0, f1, f2⟩, HK2, HB2⟩ := HW.out _ hb2; clear hb2))
  exact ret_valg Tryz.results58 rfl HK2.out ⟨rfl, below_set3g HB2.out (Nat.le_succ_of_le (Nat.le_succ _)) _ _ _⟩

set_option maxHeartbeats 1000000 in
set_option maxRecDepth 10000 in
theorem nullA_walk (k n : Int) (t : ByteArray) (n1 : Int) (t1 : ByteArray) (p3 : Nat) (w : World) :
    Calls Tryz.prog 58 #[val 0 n1 t1, val k n t, .pointer (some ⟨p3, 0, none⟩)] w fun e w' => e = .returned (val 0 0 ⟨#[]⟩) ∧ Below w.heap.size w w' := by
  have HW := pr2_later w 0 n1 t1 k n t _ (Below.refl _ _)
  obtain ⟨⟨p0, p1, p2⟩, ⟨q0, q1, q2⟩, ⟨d0, d1, d2, f0, f1, f2⟩, HK2, HB2⟩ := HW
  go_enter Tryz.func58, Tryz.ntmps58
  go_wp2
  exact ret_same Tryz.results58 rfl HK2.out ⟨rfl, HB2.out⟩
set_option maxHeartbeats 1000000 in
set_option maxRecDepth 10000 in
theorem nullB_walk (k n : Int) (t : ByteArray) (n1 : Int) (t1 : ByteArray) (p3 : Nat) (w : World) :
    Calls Tryz.prog 58 #[val k n t, val 0 n1 t1, .pointer (some ⟨p3, 0, none⟩)] w fun e w' => e = .returned (val 0 0 ⟨#[]⟩) ∧ Below w.heap.size w w' := by
  have HW := pr2_later w k n t 0 n1 t1 _ (Below.refl _ _)
  obtain ⟨⟨p0, p1, p2⟩, ⟨q0, q1, q2⟩, ⟨d0, d1, d2, f0, f1, f2⟩, HK2, HB2⟩ := HW
  by_cases h0 : k = 0
  · subst h0
    go_enter Tryz.func58, Tryz.ntmps58
    go_wp2
    exact ret_same Tryz.results58 rfl HK2.out ⟨rfl, HB2.out⟩
  · have k0 : (k == 0) = false := by simpa using h0
    go_enter Tryz.func58, Tryz.ntmps58
    go_wp2
    exact ret_same Tryz.results58 rfl HK2.out ⟨rfl, HB2.out⟩

/-- The function value that onNumbers hands back, at numbers or NULLs. -/
theorem clo3_walk (g : Int → Int → Option Int) (f : Nat) (a b : Option Int) (HF : Hid (∀ x y, a = some x → b = some y → ∀ p V, V.cell? ⟨p, 0, none⟩ = some (.func (.func f) #[] #[]) → Calls Tryz.prog 54 #[val 1 x ⟨#[]⟩, val 1 y ⟨#[]⟩, .pointer (some ⟨p, 0, none⟩)] V fun e w' => e = .returned (optV (g x y)) ∧ Below V.heap.size V w')) (p3 p1 : Nat) (w : World)
    (h1 : w.cell? ⟨p3, 0, none⟩ = some (.func (.func 54) #[] #[.pointer (some ⟨p1, 0, none⟩)])) (h2 : w.cell? ⟨p1, 0, none⟩ = some (.func (.func f) #[] #[])) :
    Calls Tryz.prog 58 #[optV a, optV b, .pointer (some ⟨p3, 0, none⟩)] w fun e w' => e = .returned (optV (arO g a b)) ∧ Below w.heap.size w w' := by
  cases a with
  | none =>
    obtain ⟨k, n, t, hb⟩ := optV_val b
    rw [hb]
    exact nullA_walk k n t 0 ⟨#[]⟩ p3 w
  | some x =>
    cases b with
    | none => exact nullB_walk 1 x ⟨#[]⟩ 0 ⟨#[]⟩ p3 w
    | some y =>
      exact clo3_both x y (g x y) p3 p1 w h1 (fun V hV => HF.out x y rfl rfl p1 V (cell_later hV h2))

end Go.Proofs.YtoekdeoekcmpgabGreatDoor
