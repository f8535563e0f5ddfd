/- Package calc: the closures of arithmetic. -/
/- Package calc: the function values of arithmetic. -/
import Derived.Test.YtoekdeoekcmpgaaGreatDoorKL
import Derived.Shelf.Abstract
namespace Go.Proofs.YtoekdeoekcmpgaaGreatDoor
open Go.ChangeShapes Go.WideShapes Go.ChangeAt Go.RowKit
set_option linter.unusedVariables false

/-- Two parameters' blocks and the result's own, in every later world. -/
theorem pr2_later (w : World) (k n : Int) (t : ByteArray) (k2 n2 : Int) (t2 : ByteArray) (V : World) (h : Below (((w.alloc (vcells k n t)).alloc (vcells k2 n2 t2)).alloc nilcells).heap.size (((w.alloc (vcells k n t)).alloc (vcells k2 n2 t2)).alloc nilcells) V) :
    (V.cell? ⟨w.heap.size, 0, none⟩ = some (.int .i64 k) ∧ V.cell? ⟨w.heap.size, 1, none⟩ = some (.int .i64 n) ∧ V.cell? ⟨w.heap.size, 2, none⟩ = some (.string t)) ∧
    (V.cell? ⟨w.heap.size + 1, 0, none⟩ = some (.int .i64 k2) ∧ V.cell? ⟨w.heap.size + 1, 1, none⟩ = some (.int .i64 n2) ∧ V.cell? ⟨w.heap.size + 1, 2, none⟩ = some (.string t2)) ∧
    (V.cell? ⟨w.heap.size + 1 + 1, 0, none⟩ = some (.int .i64 0) ∧ V.cell? ⟨w.heap.size + 1 + 1, 1, none⟩ = some (.int .i64 0) ∧ V.cell? ⟨w.heap.size + 1 + 1, 2, none⟩ = some (.string ⟨#[]⟩) ∧ V.frozen? ⟨w.heap.size + 1 + 1, 0, none⟩ = false ∧ V.frozen? ⟨w.heap.size + 1 + 1, 1, none⟩ = false ∧ V.frozen? ⟨w.heap.size + 1 + 1, 2, none⟩ = false) ∧
    Hid (V.heap[w.heap.size + 1 + 1]? = some (nilcells)) ∧ Hid (Below w.heap.size w V) := by
  have hP : (((w.alloc (vcells k n t)).alloc (vcells k2 n2 t2)).alloc nilcells).heap[w.heap.size]? = some (vcells k n t) := by
    refine blk_alloc (blk_alloc ?_ _) _
    exact Array.getElem?_push_size
  have hQ : (((w.alloc (vcells k n t)).alloc (vcells k2 n2 t2)).alloc nilcells).heap[w.heap.size + 1]? = some (vcells k2 n2 t2) := by
    refine blk_alloc ?_ _
    show ((w.heap.push _).push _)[w.heap.size + 1]? = _
    rw [show w.heap.size + 1 = (w.heap.push (vcells k n t)).size by simp]
    exact Array.getElem?_push_size
  have hR : (((w.alloc (vcells k n t)).alloc (vcells k2 n2 t2)).alloc nilcells).heap[w.heap.size + 1 + 1]? = some nilcells := by
    show (((w.heap.push _).push _).push _)[w.heap.size + 1 + 1]? = _
    rw [show w.heap.size + 1 + 1 = ((w.heap.push (vcells k n t)).push (vcells k2 n2 t2)).size by simp]
    exact Array.getElem?_push_size
  have hP' := blk_later hP h
  have hQ' := blk_later hQ h
  have hR' := blk_later hR h
  obtain ⟨d0, d1, d2, -, -, -⟩ := res_facts hP'
  obtain ⟨e0, e1, e2, -, -, -⟩ := res_facts hQ'
  exact ⟨⟨d0, d1, d2⟩, ⟨e0, e1, e2⟩, res_facts hR', hR', below_trans (below_trans (below_trans (new_below w _ rfl) (new_below _ _ rfl)) (new_below _ _ rfl)) h⟩

theorem old_cell3 {w : World} {a : Addr} {v : Value} (h : w.cell? a = some v) (x y z : Obj) : ((((w.alloc x).alloc y).alloc z)).cell? a = some v :=
  cell_later (new_below _ _ rfl) (cell_later (new_below _ _ rfl) (cell_later (new_below w _ rfl) h))

/-- The same, where nothing was stored anew. -/
theorem ret_same {V : World} {g j : Nat} {fn : Func} (hres : fn.results = #[.cell j 24]) {tmps : Array Value} (ht : tmps.getD j undef = .pointer (some ⟨g, 0, none⟩))
    {a b c : Value} (hb : V.heap[g]? = some (.cells #[a, b, c] 24 (0, 0))) {R : Ending → World → Prop} (h : R (.returned (.agg #[a, b, c])) V) :
    bodyPost Tryz.prog fn R Exit.ret { tmps := tmps, defers := [] } V :=
  bodyPost_ret (v := .agg #[a, b, c]) (results_cell_row hres _ _ g 24 _ (0, 0) _ ht hb Tryz.underlying24 rfl infoV) rfl h
/-- A value comes back out of a result's own block, whatever its place. -/
theorem ret_valg {w1 : World} {g j : Nat} {x y z : Value} {fn : Func} (hres : fn.results = #[.cell j 24]) {tmps : Array Value} (ht : tmps.getD j undef = .pointer (some ⟨g, 0, none⟩))
    (hb : w1.heap[g]? = some (.cells #[x, y, z] 24 (0, 0))) {a b c : Value} {R : Ending → World → Prop}
    (h : R (.returned (.agg #[a, b, c])) (((w1.setCell ⟨g, 0, none⟩ a).setCell ⟨g, 1, none⟩ b).setCell ⟨g, 2, none⟩ c)) :
    bodyPost Tryz.prog fn R Exit.ret { tmps := tmps, defers := [] } (((w1.setCell ⟨g, 0, none⟩ a).setCell ⟨g, 1, none⟩ b).setCell ⟨g, 2, none⟩ c) := by
  have hs := set_block (set_block (set_block hb 0 a) 1 b) 2 c
  exact bodyPost_ret (v := .agg #[a, b, c]) (results_cell_row hres _ _ g 24 _ (0, 0) _ ht (by simpa using hs) Tryz.underlying24 rfl infoV) rfl h

set_option maxHeartbeats 1000000 in
set_option maxRecDepth 10000 in
theorem clo1_sum (o : Option Int) (x y : Int) (HF : Hid (∀ V, Calls Tryz.prog 77 #[.int .i64 x, .int .i64 y] V fun e w' => arE o e ∧ V = w')) (p : Nat) (w : World) (hc : w.cell? ⟨p, 0, none⟩ = some (.func (.func 77) #[] #[])) :
    Calls Tryz.prog 108 #[val 1 x ⟨#[]⟩, val 1 y ⟨#[]⟩, .pointer (some ⟨p, 0, none⟩)] w fun e w' => e = .returned (optV o) ∧ Below w.heap.size w w' := by
  have HW : Hid (∀ V, _ → _) := pr2_later w 1 x ⟨#[]⟩ 1 y ⟨#[]⟩
  have hc3 := old_cell3 hc (vcells 1 x ⟨#[]⟩) (vcells 1 y ⟨#[]⟩) nilcells
  clear hc
  cases o with
  | some m =>
    dsimp only [arE] at HF
    go_enter Tryz.func108, Tryz.ntmps108
    go_wp2_with (first
      | (go_at_call 77; with_reducible refine Calls.mono (HF.out _) ?_; rintro e w1 ⟨rfl, rfl⟩)
      | (go_at_call 60; with_reducible refine Calls.mono (int_walk _ _) ?_; rintro e w2 ⟨rfl, hb2⟩; obtain ⟨⟨p0, p1, p2⟩, ⟨q0, q1, q2⟩, ⟨d0, d1, d2, f0, f1, f2⟩, HK2, HB2⟩ := HW.out _ hb2; clear hb2))
    exact ret_valg Tryz.results108 rfl HK2.out ⟨rfl, below_set3g HB2.out (Nat.le_succ_of_le (Nat.le_succ _)) _ _ _⟩
  | none =>
    dsimp only [arE] at HF
    obtain ⟨⟨p0, p1, p2⟩, ⟨q0, q1, q2⟩, ⟨d0, d1, d2, f0, f1, f2⟩, HK2, HB2⟩ := HW.out _ (Below.refl _ _)
    go_enter Tryz.func108, Tryz.ntmps108
    go_wp2_with (first
      | (go_at_call 77; with_reducible refine Calls.mono (HF.out _) ?_; rintro e w1 ⟨⟨n, rfl⟩, rfl⟩))
    exact ret_same Tryz.results108 rfl HK2.out ⟨rfl, HB2.out⟩
set_option maxHeartbeats 1000000 in
set_option maxRecDepth 10000 in
theorem clo1_dif (o : Option Int) (x y : Int) (HF : Hid (∀ V, Calls Tryz.prog 73 #[.int .i64 x, .int .i64 y] V fun e w' => arE o e ∧ V = w')) (p : Nat) (w : World) (hc : w.cell? ⟨p, 0, none⟩ = some (.func (.func 73) #[] #[])) :
    Calls Tryz.prog 108 #[val 1 x ⟨#[]⟩, val 1 y ⟨#[]⟩, .pointer (some ⟨p, 0, none⟩)] w fun e w' => e = .returned (optV o) ∧ Below w.heap.size w w' := by
  have HW : Hid (∀ V, _ → _) := pr2_later w 1 x ⟨#[]⟩ 1 y ⟨#[]⟩
  have hc3 := old_cell3 hc (vcells 1 x ⟨#[]⟩) (vcells 1 y ⟨#[]⟩) nilcells
  clear hc
  cases o with
  | some m =>
    dsimp only [arE] at HF
    go_enter Tryz.func108, Tryz.ntmps108
    go_wp2_with (first
      | (go_at_call 73; with_reducible refine Calls.mono (HF.out _) ?_; rintro e w1 ⟨rfl, rfl⟩)
      | (go_at_call 60; with_reducible refine Calls.mono (int_walk _ _) ?_; rintro e w2 ⟨rfl, hb2⟩; obtain ⟨⟨p0, p1, p2⟩, ⟨q0, q1, q2⟩, ⟨d0, d1, d2, f0, f1, f2⟩, HK2, HB2⟩ := HW.out _ hb2; clear hb2))
    exact ret_valg Tryz.results108 rfl HK2.out ⟨rfl, below_set3g HB2.out (Nat.le_succ_of_le (Nat.le_succ _)) _ _ _⟩
  | none =>
    dsimp only [arE] at HF
    obtain ⟨⟨p0, p1, p2⟩, ⟨q0, q1, q2⟩, ⟨d0, d1, d2, f0, f1, f2⟩, HK2, HB2⟩ := HW.out _ (Below.refl _ _)
    go_enter Tryz.func108, Tryz.ntmps108
    go_wp2_with (first
      | (go_at_call 73; with_reducible refine Calls.mono (HF.out _) ?_; rintro e w1 ⟨⟨n, rfl⟩, rfl⟩))
    exact ret_same Tryz.results108 rfl HK2.out ⟨rfl, HB2.out⟩
set_option maxHeartbeats 1000000 in
set_option maxRecDepth 10000 in
theorem clo1_mul (o : Option Int) (x y : Int) (HF : Hid (∀ V, Calls Tryz.prog 78 #[.int .i64 x, .int .i64 y] V fun e w' => arE o e ∧ V = w')) (p : Nat) (w : World) (hc : w.cell? ⟨p, 0, none⟩ = some (.func (.func 78) #[] #[])) :
    Calls Tryz.prog 108 #[val 1 x ⟨#[]⟩, val 1 y ⟨#[]⟩, .pointer (some ⟨p, 0, none⟩)] w fun e w' => e = .returned (optV o) ∧ Below w.heap.size w w' := by
  have HW : Hid (∀ V, _ → _) := pr2_later w 1 x ⟨#[]⟩ 1 y ⟨#[]⟩
  have hc3 := old_cell3 hc (vcells 1 x ⟨#[]⟩) (vcells 1 y ⟨#[]⟩) nilcells
  clear hc
  cases o with
  | some m =>
    dsimp only [arE] at HF
    go_enter Tryz.func108, Tryz.ntmps108
    go_wp2_with (first
      | (go_at_call 78; with_reducible refine Calls.mono (HF.out _) ?_; rintro e w1 ⟨rfl, rfl⟩)
      | (go_at_call 60; with_reducible refine Calls.mono (int_walk _ _) ?_; rintro e w2 ⟨rfl, hb2⟩; obtain ⟨⟨p0, p1, p2⟩, ⟨q0, q1, q2⟩, ⟨d0, d1, d2, f0, f1, f2⟩, HK2, HB2⟩ := HW.out _ hb2; clear hb2))
    exact ret_valg Tryz.results108 rfl HK2.out ⟨rfl, below_set3g HB2.out (Nat.le_succ_of_le (Nat.le_succ _)) _ _ _⟩
  | none =>
    dsimp only [arE] at HF
    obtain ⟨⟨p0, p1, p2⟩, ⟨q0, q1, q2⟩, ⟨d0, d1, d2, f0, f1, f2⟩, HK2, HB2⟩ := HW.out _ (Below.refl _ _)
    go_enter Tryz.func108, Tryz.ntmps108
    go_wp2_with (first
      | (go_at_call 78; with_reducible refine Calls.mono (HF.out _) ?_; rintro e w1 ⟨⟨n, rfl⟩, rfl⟩))
    exact ret_same Tryz.results108 rfl HK2.out ⟨rfl, HB2.out⟩
set_option maxHeartbeats 1000000 in
set_option maxRecDepth 10000 in
theorem clo1_quo (o : Option Int) (x y : Int) (HF : Hid (∀ V, Calls Tryz.prog 79 #[.int .i64 x, .int .i64 y] V fun e w' => arE o e ∧ V = w')) (p : Nat) (w : World) (hc : w.cell? ⟨p, 0, none⟩ = some (.func (.func 79) #[] #[])) :
    Calls Tryz.prog 108 #[val 1 x ⟨#[]⟩, val 1 y ⟨#[]⟩, .pointer (some ⟨p, 0, none⟩)] w fun e w' => e = .returned (optV o) ∧ Below w.heap.size w w' := by
  have HW : Hid (∀ V, _ → _) := pr2_later w 1 x ⟨#[]⟩ 1 y ⟨#[]⟩
  have hc3 := old_cell3 hc (vcells 1 x ⟨#[]⟩) (vcells 1 y ⟨#[]⟩) nilcells
  clear hc
  cases o with
  | some m =>
    dsimp only [arE] at HF
    go_enter Tryz.func108, Tryz.ntmps108
    go_wp2_with (first
      | (go_at_call 79; with_reducible refine Calls.mono (HF.out _) ?_; rintro e w1 ⟨rfl, rfl⟩)
      | (go_at_call 60; with_reducible refine Calls.mono (int_walk _ _) ?_; rintro e w2 ⟨rfl, hb2⟩; obtain ⟨⟨p0, p1, p2⟩, ⟨q0, q1, q2⟩, ⟨d0, d1, d2, f0, f1, f2⟩, HK2, HB2⟩ := HW.out _ hb2; clear hb2))
    exact ret_valg Tryz.results108 rfl HK2.out ⟨rfl, below_set3g HB2.out (Nat.le_succ_of_le (Nat.le_succ _)) _ _ _⟩
  | none =>
    dsimp only [arE] at HF
    obtain ⟨⟨p0, p1, p2⟩, ⟨q0, q1, q2⟩, ⟨d0, d1, d2, f0, f1, f2⟩, HK2, HB2⟩ := HW.out _ (Below.refl _ _)
    go_enter Tryz.func108, Tryz.ntmps108
    go_wp2_with (first
      | (go_at_call 79; with_reducible refine Calls.mono (HF.out _) ?_; rintro e w1 ⟨⟨n, rfl⟩, rfl⟩))
    exact ret_same Tryz.results108 rfl HK2.out ⟨rfl, HB2.out⟩
set_option maxHeartbeats 1000000 in
set_option maxRecDepth 10000 in
theorem clo1_rem (o : Option Int) (x y : Int) (HF : Hid (∀ V, Calls Tryz.prog 80 #[.int .i64 x, .int .i64 y] V fun e w' => arE o e ∧ V = w')) (p : Nat) (w : World) (hc : w.cell? ⟨p, 0, none⟩ = some (.func (.func 80) #[] #[])) :
    Calls Tryz.prog 108 #[val 1 x ⟨#[]⟩, val 1 y ⟨#[]⟩, .pointer (some ⟨p, 0, none⟩)] w fun e w' => e = .returned (optV o) ∧ Below w.heap.size w w' := by
  have HW : Hid (∀ V, _ → _) := pr2_later w 1 x ⟨#[]⟩ 1 y ⟨#[]⟩
  have hc3 := old_cell3 hc (vcells 1 x ⟨#[]⟩) (vcells 1 y ⟨#[]⟩) nilcells
  clear hc
  cases o with
  | some m =>
    dsimp only [arE] at HF
    go_enter Tryz.func108, Tryz.ntmps108
    go_wp2_with (first
      | (go_at_call 80; with_reducible refine Calls.mono (HF.out _) ?_; rintro e w1 ⟨rfl, rfl⟩)
      | (go_at_call 60; with_reducible refine Calls.mono (int_walk _ _) ?_; rintro e w2 ⟨rfl, hb2⟩; obtain ⟨⟨p0, p1, p2⟩, ⟨q0, q1, q2⟩, ⟨d0, d1, d2, f0, f1, f2⟩, HK2, HB2⟩ := HW.out _ hb2; clear hb2))
    exact ret_valg Tryz.results108 rfl HK2.out ⟨rfl, below_set3g HB2.out (Nat.le_succ_of_le (Nat.le_succ _)) _ _ _⟩
  | none =>
    dsimp only [arE] at HF
    obtain ⟨⟨p0, p1, p2⟩, ⟨q0, q1, q2⟩, ⟨d0, d1, d2, f0, f1, f2⟩, HK2, HB2⟩ := HW.out _ (Below.refl _ _)
    go_enter Tryz.func108, Tryz.ntmps108
    go_wp2_with (first
      | (go_at_call 80; with_reducible refine Calls.mono (HF.out _) ?_; rintro e w1 ⟨⟨n, rfl⟩, rfl⟩))
    exact ret_same Tryz.results108 rfl HK2.out ⟨rfl, HB2.out⟩

/-- The function values of arithmetic: what lies in the captured variables. -/
structure ArFn (w : World) (p2 f : Nat) : Prop where
  c : ∃ p3 p1 : Nat, w.cell? ⟨p2, 0, none⟩ = some (.func (.func 112) #[] #[.pointer (some ⟨p3, 0, none⟩)]) ∧ w.cell? ⟨p3, 0, none⟩ = some (.func (.func 108) #[] #[.pointer (some ⟨p1, 0, none⟩)]) ∧ w.cell? ⟨p1, 0, none⟩ = some (.func (.func f) #[] #[])
theorem ArFn.below {w w' : World} {p2 f : Nat} (h : ArFn w p2 f) (b : Below w.heap.size w w') : ArFn w' p2 f := by
  obtain ⟨p3, p1, h1, h2, h3⟩ := h.c
  exact ⟨p3, p1, cell_later b h1, cell_later b h2, cell_later b h3⟩

def arO (g : Int → Int → Option Int) (a b : Option Int) : Option Int := match a, b with | some x, some y => g x y | _, _ => none
theorem optV_val (o : Option Int) : ∃ k n t, optV o = val k n t := by
  cases o with
  | none => exact ⟨_, _, _, rfl⟩
  | some m => exact ⟨_, _, _, rfl⟩

set_option maxHeartbeats 1000000 in
set_option maxRecDepth 10000 in
theorem clo3_both (x y : Int) (o : Option Int) (p3 p1 : Nat) (w : World) (hc : w.cell? ⟨p3, 0, none⟩ = some (.func (.func 108) #[] #[.pointer (some ⟨p1, 0, none⟩)]))
    (HF : Hid (∀ V, Below w.heap.size w V → Calls Tryz.prog 108 #[val 1 x ⟨#[]⟩, val 1 y ⟨#[]⟩, .pointer (some ⟨p1, 0, none⟩)] V fun e w' => e = .returned (optV o) ∧ Below V.heap.size V w')) :
    Calls Tryz.prog 112 #[val 1 x ⟨#[]⟩, val 1 y ⟨#[]⟩, .pointer (some ⟨p3, 0, none⟩)] w fun e w' => e = .returned (optV o) ∧ Below w.heap.size w w' := by
  have HW : Hid (∀ V, _ → _) := pr2_later w 1 x ⟨#[]⟩ 1 y ⟨#[]⟩
  have hc3 := old_cell3 hc (vcells 1 x ⟨#[]⟩) (vcells 1 y ⟨#[]⟩) nilcells
  have HB0 : Hid (Below w.heap.size w (((w.alloc (vcells 1 x ⟨#[]⟩)).alloc (vcells 1 y ⟨#[]⟩)).alloc nilcells)) := (pr2_later w 1 x ⟨#[]⟩ 1 y ⟨#[]⟩ _ (Below.refl _ _)).2.2.2.2
  obtain ⟨a1, a2, a3, hv⟩ := optV_val o
  rw [hv] at HF ⊢
  clear hc hv
  go_enter Tryz.func112, Tryz.ntmps112
  go_wp2_with (first
    | (go_at_call 108; with_reducible refine Calls.mono (HF.out _ HB0.out) ?_; rintro e w2 ⟨rfl, hb2⟩; obtain ⟨⟨p0, p1, p2⟩, ⟨q0, q1, q2⟩, ⟨d0, d1, d2, f0, f1, f2⟩, HK2, HB2⟩ := HW.out _ hb2; clear hb2))
  exact ret_valg Tryz.results112 rfl HK2.out ⟨rfl, below_set3g HB2.out (Nat.le_succ_of_le (Nat.le_succ _)) _ _ _⟩

set_option maxHeartbeats 1000000 in
set_option maxRecDepth 10000 in
theorem nullA_walk (k n : Int) (t : ByteArray) (n1 : Int) (t1 : ByteArray) (p3 : Nat) (w : World) :
    Calls Tryz.prog 112 #[val 0 n1 t1, val k n t, .pointer (some ⟨p3, 0, none⟩)] w fun e w' => e = .returned (val 0 0 ⟨#[]⟩) ∧ Below w.heap.size w w' := by
  have HW := pr2_later w 0 n1 t1 k n t _ (Below.refl _ _)
  obtain ⟨⟨p0, p1, p2⟩, ⟨q0, q1, q2⟩, ⟨d0, d1, d2, f0, f1, f2⟩, HK2, HB2⟩ := HW
  go_enter Tryz.func112, Tryz.ntmps112
  go_wp2
  exact ret_same Tryz.results112 rfl HK2.out ⟨rfl, HB2.out⟩
set_option maxHeartbeats 1000000 in
set_option maxRecDepth 10000 in
theorem nullB_walk (k n : Int) (t : ByteArray) (n1 : Int) (t1 : ByteArray) (p3 : Nat) (w : World) :
    Calls Tryz.prog 112 #[val k n t, val 0 n1 t1, .pointer (some ⟨p3, 0, none⟩)] w fun e w' => e = .returned (val 0 0 ⟨#[]⟩) ∧ Below w.heap.size w w' := by
  have HW := pr2_later w k n t 0 n1 t1 _ (Below.refl _ _)
  obtain ⟨⟨p0, p1, p2⟩, ⟨q0, q1, q2⟩, ⟨d0, d1, d2, f0, f1, f2⟩, HK2, HB2⟩ := HW
  by_cases h0 : k = 0
  · subst h0
    go_enter Tryz.func112, Tryz.ntmps112
    go_wp2
    exact ret_same Tryz.results112 rfl HK2.out ⟨rfl, HB2.out⟩
  · have k0 : (k == 0) = false := by simpa using h0
    go_enter Tryz.func112, Tryz.ntmps112
    go_wp2
    exact ret_same Tryz.results112 rfl HK2.out ⟨rfl, HB2.out⟩

/-- The function value that onNumbers hands back, at numbers or NULLs. -/
theorem clo3_walk (g : Int → Int → Option Int) (f : Nat) (a b : Option Int) (HF : Hid (∀ x y, a = some x → b = some y → ∀ p V, V.cell? ⟨p, 0, none⟩ = some (.func (.func f) #[] #[]) → Calls Tryz.prog 108 #[val 1 x ⟨#[]⟩, val 1 y ⟨#[]⟩, .pointer (some ⟨p, 0, none⟩)] V fun e w' => e = .returned (optV (g x y)) ∧ Below V.heap.size V w')) (p3 p1 : Nat) (w : World)
    (h1 : w.cell? ⟨p3, 0, none⟩ = some (.func (.func 108) #[] #[.pointer (some ⟨p1, 0, none⟩)])) (h2 : w.cell? ⟨p1, 0, none⟩ = some (.func (.func f) #[] #[])) :
    Calls Tryz.prog 112 #[optV a, optV b, .pointer (some ⟨p3, 0, none⟩)] w fun e w' => e = .returned (optV (arO g a b)) ∧ Below w.heap.size w w' := by
  cases a with
  | none =>
    obtain ⟨k, n, t, hb⟩ := optV_val b
    rw [hb]
    exact nullA_walk k n t 0 ⟨#[]⟩ p3 w
  | some x =>
    cases b with
    | none => exact nullB_walk 1 x ⟨#[]⟩ 0 ⟨#[]⟩ p3 w
    | some y =>
      exact clo3_both x y (g x y) p3 p1 w h1 (fun V hV => HF.out x y rfl rfl p1 V (cell_later hV h2))

end Go.Proofs.YtoekdeoekcmpgaaGreatDoor

namespace Go.Proofs.YtoekdeoekcmpgaaGreatDoor
open Go.ChangeShapes Go.WideShapes Go.ChangeAt Go.RowKit
set_option linter.unusedVariables false

theorem lt_of_cell {w : World} {a : Addr} {v : Value} (h : w.cell? a = some v) : a.block < w.heap.size := by
  refine Nat.lt_of_not_le fun hn => ?_
  have : w.heap[a.block]? = none := by simp; exact hn
  rw [World.cell?_of_block (w := World.mk #[] w.tape w.drawn w.os w.output) (w' := w) (by rw [this]; simp)] at h
  simp [World.cell?] at h

/-- Two parameters' cells, and an old one, in every world that differs above them alone. -/
theorem pr2_cells (w : World) (k n : Int) (t : ByteArray) (k2 n2 : Int) (t2 : ByteArray) (p2 : Nat) (fv : Value) (h2 : w.cell? ⟨p2, 0, none⟩ = some fv) (V : World) (h : Below (w.heap.size + 1 + 1) (((w.alloc (vcells k n t)).alloc (vcells k2 n2 t2)).alloc nilcells) V) :
    V.cell? ⟨p2, 0, none⟩ = some fv ∧ (V.cell? ⟨w.heap.size, 0, none⟩ = some (.int .i64 k) ∧ V.cell? ⟨w.heap.size, 1, none⟩ = some (.int .i64 n) ∧ V.cell? ⟨w.heap.size, 2, none⟩ = some (.string t)) ∧
    (V.cell? ⟨w.heap.size + 1, 0, none⟩ = some (.int .i64 k2) ∧ V.cell? ⟨w.heap.size + 1, 1, none⟩ = some (.int .i64 n2) ∧ V.cell? ⟨w.heap.size + 1, 2, none⟩ = some (.string t2)) := by
  obtain ⟨⟨p0, p1, p2'⟩, ⟨q0, q1, q2⟩, _, _, _⟩ := pr2_later w k n t k2 n2 t2 _ (Below.refl _ _)
  have hp := old_cell3 h2 (vcells k n t) (vcells k2 n2 t2) nilcells
  have hl := lt_of_cell h2
  refine ⟨(h.cell (by show p2 < _; have : p2 < w.heap.size := hl; omega)).trans hp, ⟨(h.cell (by show w.heap.size < _; omega)).trans p0, (h.cell (by show w.heap.size < _; omega)).trans p1, (h.cell (by show w.heap.size < _; omega)).trans p2'⟩, (h.cell (by show w.heap.size + 1 < _; omega)).trans q0, (h.cell (by show w.heap.size + 1 < _; omega)).trans q1, (h.cell (by show w.heap.size + 1 < _; omega)).trans q2⟩

set_option maxHeartbeats 1000000 in
set_option maxRecDepth 10000 in
theorem clo2_walk (g : Int → Int → Option Int) (f : Nat) (k n : Int) (t : ByteArray) (k2 n2 : Int) (t2 : ByteArray)
    (HF : Hid (∀ x y, numO k n t.data.toList = some x → numO k2 n2 t2.data.toList = some y → ∀ p V, V.cell? ⟨p, 0, none⟩ = some (.func (.func f) #[] #[]) → Calls Tryz.prog 108 #[val 1 x ⟨#[]⟩, val 1 y ⟨#[]⟩, .pointer (some ⟨p, 0, none⟩)] V fun e w' => e = .returned (optV (g x y)) ∧ Below V.heap.size V w')) (p2 : Nat) (w : World) (hE : Env w) (hA : ArFn w p2 f) :
    Calls Tryz.prog 109 #[val k n t, val k2 n2 t2, .pointer (some ⟨p2, 0, none⟩)] w fun e w' => e = .returned (optV (arO g (numO k n t.data.toList) (numO k2 n2 t2.data.toList))) ∧ Below w.heap.size w w' := by
  obtain ⟨p3, p1, h1, h2, h3⟩ := hA.c
  have HW : Hid (∀ V, _ → _) := pr2_later w k n t k2 n2 t2
  have HB0 : Hid (Below w.heap.size w (((w.alloc (vcells k n t)).alloc (vcells k2 n2 t2)).alloc nilcells)) := (pr2_later w k n t k2 n2 t2 _ (Below.refl _ _)).2.2.2.2
  have hc3 := old_cell3 h1 (vcells k n t) (vcells k2 n2 t2) nilcells
  have HC1 : Hid (∀ V, Below (w.heap.size + 1 + 1) (((w.alloc (vcells k n t)).alloc (vcells k2 n2 t2)).alloc nilcells) V → _) := pr2_cells w k n t k2 n2 t2 p2 _ h1
  have HG : Hid (∀ V, Below (((w.alloc (vcells k n t)).alloc (vcells k2 n2 t2)).alloc nilcells).heap.size (((w.alloc (vcells k n t)).alloc (vcells k2 n2 t2)).alloc nilcells) V → Below (w.heap.size + 1 + 1) (((w.alloc (vcells k n t)).alloc (vcells k2 n2 t2)).alloc nilcells) V) := fun V h => h.mono (by simp)
  have HE : Hid (∀ V, Below w.heap.size w V → Env V) := fun V h => hE.below h
  have HNa : Hid (∀ V, Env V → Calls Tryz.prog 12 #[.agg #[.int .i64 k, .int .i64 n, .string t]] V fun e w' => e = .returned (optV (numO k n t.data.toList)) ∧ Below V.heap.size V w') := fun V hV => num_walk k n t V hV
  have HNb : Hid (∀ V, Env V → Calls Tryz.prog 12 #[.agg #[.int .i64 k2, .int .i64 n2, .string t2]] V fun e w' => e = .returned (optV (numO k2 n2 t2.data.toList)) ∧ Below V.heap.size V w') := fun V hV => num_walk k2 n2 t2 V hV
  have HU : Hid (∀ V, Below w.heap.size w V → Calls Tryz.prog 112 #[optV (numO k n t.data.toList), optV (numO k2 n2 t2.data.toList), .pointer (some ⟨p3, 0, none⟩)] V fun e w' => e = .returned (optV (arO g (numO k n t.data.toList) (numO k2 n2 t2.data.toList))) ∧ Below V.heap.size V w') := fun V hV =>
    clo3_walk g f _ _ HF.out p3 p1 V (cell_later hV h2) (cell_later hV h3)
  generalize numO k n t.data.toList = a at HNa HU ⊢
  generalize numO k2 n2 t2.data.toList = b at HNb HU ⊢
  clear HF
  obtain ⟨a1, a2, a3, ha⟩ := optV_val a
  obtain ⟨b1, b2, b3, hb⟩ := optV_val b
  obtain ⟨c1, c2, c3, hc⟩ := optV_val (arO g a b)
  rw [ha] at HNa HU
  rw [hb] at HNb HU
  rw [hc] at HU ⊢
  clear ha hb hc h1 h2 h3 hA hE
  have HD : Hid (∀ V, Below (((w.alloc (vcells k n t)).alloc (vcells k2 n2 t2)).alloc nilcells).drew.heap.size (((w.alloc (vcells k n t)).alloc (vcells k2 n2 t2)).alloc nilcells).drew V → Below (((w.alloc (vcells k n t)).alloc (vcells k2 n2 t2)).alloc nilcells).heap.size (((w.alloc (vcells k n t)).alloc (vcells k2 n2 t2)).alloc nilcells) V) := fun V h => below_trans (Below.refl _ _).drew h
  have HBd : Hid (Below w.heap.size w (((w.alloc (vcells k n t)).alloc (vcells k2 n2 t2)).alloc nilcells).drew) := HB0.out.drew
  go_enter Tryz.func109, Tryz.ntmps109
  go_wp2
  go_region_held3 (fun V => V.cell? ⟨p2, 0, none⟩ = some (.func (.func 112) #[] #[.pointer (some ⟨p3, 0, none⟩)]) ∧ (V.cell? ⟨w.heap.size, 0, none⟩ = some (.int .i64 k) ∧ V.cell? ⟨w.heap.size, 1, none⟩ = some (.int .i64 n) ∧ V.cell? ⟨w.heap.size, 2, none⟩ = some (.string t)) ∧ (V.cell? ⟨w.heap.size + 1, 0, none⟩ = some (.int .i64 k2) ∧ V.cell? ⟨w.heap.size + 1, 1, none⟩ = some (.int .i64 n2) ∧ V.cell? ⟨w.heap.size + 1, 2, none⟩ = some (.string t2))) (first | exact HC1.out _ (HG.out _ (Below.refl _ _).drew) | exact HC1.out _ (HG.out _ HX1.out) | exact HC1.out _ (HG.out _ HX2.out) | exact HC1.out _ (HG.out _ HX3.out) | exact HC1.out _ ((((HG.out _ HX3.out).setCell (Nat.le_refl _) _).setCell (Nat.le_refl _) _).setCell (Nat.le_refl _) _)) (first
    | (go_at_call 12; with_reducible refine Calls.mono (HNa.out _ (HE.out _ HBd.out)) ?_; rintro e w1 ⟨rfl, hb1⟩; have HX1 := hide (HD.out _ hb1); obtain ⟨⟨p0, p1, p2⟩, ⟨q0, q1, q2⟩, ⟨d0, d1, d2, f0, f1, f2⟩, HK1, HB1⟩ := HW.out _ HX1.out; clear hb1)
    | (go_at_call 12; with_reducible refine Calls.mono (HNb.out _ (HE.out _ HB1.out)) ?_; rintro e w2 ⟨rfl, hb2⟩; have HX2 := hide (below_trans HX1.out hb2); obtain ⟨⟨p0, p1, p2⟩, ⟨q0, q1, q2⟩, ⟨d0, d1, d2, f0, f1, f2⟩, HK2, HB2⟩ := HW.out _ HX2.out; clear hb2)
    | (go_at_call 112; with_reducible refine Calls.mono (HU.out _ HB2.out) ?_; rintro e w3 ⟨rfl, hb3⟩; have HX3 := hide (below_trans HX2.out hb3); obtain ⟨⟨p0, p1, p2⟩, ⟨q0, q1, q2⟩, ⟨d0, d1, d2, f0, f1, f2⟩, HK3, HB3⟩ := HW.out _ HX3.out; clear hb3))
  all_goals (try go_wp2)
  all_goals exact ret_valg Tryz.results109 rfl HK3.out ⟨rfl, below_set3g HB3.out (Nat.le_succ_of_le (Nat.le_succ _)) _ _ _⟩
end Go.Proofs.YtoekdeoekcmpgaaGreatDoor
