/- The walk of CalcBack. -/
import Derived.Test.YtoekdeoekcmpgabGreatDoorKBB
import Derived.Deep.Cut
namespace Go.Proofs.YtoekdeoekcmpgabGreatDoor
open Go.ChangeShapes Go.WideShapes Go.ChangeAt Go.RowKit
set_option linter.unusedVariables false

theorem two_later (w : World) (a b c x y z : Value) (T : TypeId) (V : World) (h : Below ((w.alloc (.cells #[a, b, c] T)).alloc (.cells #[x, y, z] T)).heap.size ((w.alloc (.cells #[a, b, c] T)).alloc (.cells #[x, y, z] T)) V) :
    (V.cell? ⟨w.heap.size, 0, none⟩ = some a ∧ V.cell? ⟨w.heap.size, 1, none⟩ = some b ∧ V.cell? ⟨w.heap.size, 2, none⟩ = some c) ∧
    (V.cell? ⟨w.heap.size + 1, 0, none⟩ = some x ∧ V.cell? ⟨w.heap.size + 1, 1, none⟩ = some y ∧ V.cell? ⟨w.heap.size + 1, 2, none⟩ = some z) ∧ Hid (Below w.heap.size w V) := by
  have e : ∀ i, i < 3 → (w.alloc (.cells #[a, b, c] T)).cell? ⟨w.heap.size, i, none⟩ = #[a, b, c][i]? := fun i hi => by
    unfold World.cell?
    have : (w.alloc (.cells #[a, b, c] T)).heap[w.heap.size]? = some (.cells #[a, b, c] T) := Array.getElem?_push_size
    simp only [this]
    rfl
  have e2 : ∀ i, i < 3 → ((w.alloc (.cells #[a, b, c] T)).alloc (.cells #[x, y, z] T)).cell? ⟨w.heap.size + 1, i, none⟩ = #[x, y, z][i]? := fun i hi => by
    unfold World.cell?
    have : ((w.alloc (.cells #[a, b, c] T)).alloc (.cells #[x, y, z] T)).heap[w.heap.size + 1]? = some (.cells #[x, y, z] T) := by
      show ((w.heap.push _).push _)[w.heap.size + 1]? = _
      rw [show w.heap.size + 1 = (w.heap.push (Obj.cells #[a, b, c] T)).size by simp]
      exact Array.getElem?_push_size
    simp only [this]
    rfl
  refine ⟨⟨cell_later h (cell_later (new_below _ _ rfl) (e 0 (by omega))), cell_later h (cell_later (new_below _ _ rfl) (e 1 (by omega))), cell_later h (cell_later (new_below _ _ rfl) (e 2 (by omega)))⟩, ⟨cell_later h (e2 0 (by omega)), cell_later h (e2 1 (by omega)), cell_later h (e2 2 (by omega))⟩, ?_⟩
  exact below_trans (below_trans (new_below w _ rfl) (new_below _ _ rfl)) h

theorem bl_alloc {w w1 : World} (h : Below w.heap.size w w1) (o : Obj) : Below w.heap.size w (w1.alloc o) := h.alloc h.size o
theorem bl_set {w w1 : World} {a : Addr} (h : Below w.heap.size w w1) (ha : w.heap.size ≤ a.block) (v : Value) : Below w.heap.size w (w1.setCell a v) := h.setCell ha v
/-- Two new blocks of a world. -/
def PairAt (X : World) (b1 b2 : Nat) : Prop := X.heap[b1]? = some nilcells ∧ X.heap[b2]? = some nilcells ∧ b1 ≠ b2
theorem pair_a {X : World} {b1 b2 : Nat} (p : PairAt X b1 b2) : X.heap[b1]? = some nilcells := p.1
theorem pair_b {X : World} {b1 b2 : Nat} (p : PairAt X b1 b2) : X.heap[b2]? = some nilcells := p.2.1
theorem pair_ne {X : World} {b1 b2 : Nat} (p : PairAt X b1 b2) : b1 ≠ b2 := p.2.2
theorem pair_en {X : World} {b1 b2 : Nat} (p : PairAt X b1 b2) : b2 ≠ b1 := Ne.symm p.2.2
theorem one_new (V : World) : (V.alloc nilcells).heap[V.heap.size]? = some nilcells := by
  show (V.heap.push _)[V.heap.size]? = _
  simp
theorem bl_drew {w w1 : World} (h : Below w.heap.size w w1) : Below w.heap.size w w1.drew := h.drew
theorem one_newd (w : World) : (w.alloc nilcells).drew.heap[w.heap.size]? = some nilcells := one_new w
theorem one_later {V X : World} {b : Nat} (h : V.heap[b]? = some nilcells) (hb : Below V.heap.size V X) : X.heap[b]? = some nilcells := blk_later h hb
theorem lt_of_blk {V : World} {b : Nat} {o : Obj} (h : V.heap[b]? = some o) : b < V.heap.size := (Array.getElem?_eq_some_iff.1 h).1
theorem pair_new {V : World} {b : Nat} (h : V.heap[b]? = some nilcells) : PairAt (V.alloc nilcells) b V.heap.size :=
  ⟨blk_alloc h _, one_new V, Nat.ne_of_lt (lt_of_blk h)⟩
theorem pair_nn (V : World) : PairAt ((V.alloc nilcells).alloc nilcells) V.heap.size (V.heap.size + 1) := by
  refine ⟨blk_alloc (one_new V) _, ?_, by omega⟩
  have := one_new (V.alloc nilcells)
  rw [show (V.alloc nilcells).heap.size = V.heap.size + 1 by simp] at this
  exact this
theorem pair_nnd (w : World) : PairAt ((w.alloc nilcells).alloc nilcells).drew w.heap.size (w.heap.size + 1) := pair_nn w
theorem pair2 {V X : World} {b1 b2 : Nat} (p : PairAt V b1 b2) (h : Below V.heap.size V X) : PairAt X b1 b2 := ⟨one_later p.1 h, one_later p.2.1 h, p.2.2⟩
theorem other3 {X : World} {b1 b2 : Nat} {o : Obj} (h : X.heap[b2]? = some o) (hne : b1 ≠ b2) (v0 v1 v2 : Value) : (((X.setCell ⟨b1, 0, none⟩ v0).setCell ⟨b1, 1, none⟩ v1).setCell ⟨b1, 2, none⟩ v2).heap[b2]? = some o := by
  rw [Below.heap_setCell _ _ _ _ (Ne.symm hne), Below.heap_setCell _ _ _ _ (Ne.symm hne), Below.heap_setCell _ _ _ _ (Ne.symm hne)]
  exact h
theorem same3 {X : World} {b1 : Nat} {a b c : Value} {T : TypeId} (h : X.heap[b1]? = some (.cells #[a, b, c] T (0, 0))) (v0 v1 v2 : Value) : (((X.setCell ⟨b1, 0, none⟩ v0).setCell ⟨b1, 1, none⟩ v1).setCell ⟨b1, 2, none⟩ v2).heap[b1]? = some (.cells #[v0, v1, v2] T (0, 0)) :=
  set_block (set_block (set_block h 0 v0) 1 v1) 2 v2
theorem blk_new (V : World) (o : Obj) : (V.alloc o).heap[V.heap.size]? = some o := by
  show (V.heap.push _)[V.heap.size]? = _
  simp
theorem blk_new2 (V : World) (o p : Obj) : ((V.alloc p).alloc o).heap[V.heap.size + 1]? = some o := by
  have := blk_new (V.alloc p) o
  rw [show (V.alloc p).heap.size = V.heap.size + 1 by simp] at this
  exact this
theorem fin1 {X : World} {b1 b2 : Nat} (p : PairAt X b1 b2) (v0 v1 v2 u0 u1 u2 : Value) : ((((((X.setCell ⟨b1, 0, none⟩ v0).setCell ⟨b1, 1, none⟩ v1).setCell ⟨b1, 2, none⟩ v2).setCell ⟨b2, 0, none⟩ u0).setCell ⟨b2, 1, none⟩ u1).setCell ⟨b2, 2, none⟩ u2).heap[b1]? = some (.cells #[v0, v1, v2] 24) ∧ ((((((X.setCell ⟨b1, 0, none⟩ v0).setCell ⟨b1, 1, none⟩ v1).setCell ⟨b1, 2, none⟩ v2).setCell ⟨b2, 0, none⟩ u0).setCell ⟨b2, 1, none⟩ u1).setCell ⟨b2, 2, none⟩ u2).heap[b2]? = some (.cells #[u0, u1, u2] 24) :=
  ⟨other3 (same3 p.1 _ _ _) (Ne.symm p.2.2) _ _ _, same3 (other3 p.2.1 p.2.2 _ _ _) _ _ _⟩
theorem fin2 {X : World} {b1 b2 : Nat} (p : PairAt X b1 b2) (v0 v1 v2 u0 u1 u2 : Value) : ((((((X.setCell ⟨b2, 0, none⟩ v0).setCell ⟨b2, 1, none⟩ v1).setCell ⟨b2, 2, none⟩ v2).setCell ⟨b1, 0, none⟩ u0).setCell ⟨b1, 1, none⟩ u1).setCell ⟨b1, 2, none⟩ u2).heap[b2]? = some (.cells #[v0, v1, v2] 24) ∧ ((((((X.setCell ⟨b2, 0, none⟩ v0).setCell ⟨b2, 1, none⟩ v1).setCell ⟨b2, 2, none⟩ v2).setCell ⟨b1, 0, none⟩ u0).setCell ⟨b1, 1, none⟩ u1).setCell ⟨b1, 2, none⟩ u2).heap[b1]? = some (.cells #[u0, u1, u2] 24) :=
  ⟨other3 (same3 p.2.1 _ _ _) p.2.2 _ _ _, same3 (other3 p.1 (Ne.symm p.2.2) _ _ _) _ _ _⟩
theorem fin3 {X : World} {b1 : Nat} (h : X.heap[b1]? = some nilcells) (o : Obj) (u0 u1 u2 : Value) : ((((X.alloc o).setCell ⟨b1, 0, none⟩ u0).setCell ⟨b1, 1, none⟩ u1).setCell ⟨b1, 2, none⟩ u2).heap[X.heap.size]? = some o ∧ ((((X.alloc o).setCell ⟨b1, 0, none⟩ u0).setCell ⟨b1, 1, none⟩ u1).setCell ⟨b1, 2, none⟩ u2).heap[b1]? = some (.cells #[u0, u1, u2] 24) :=
  ⟨other3 (blk_new X o) (Nat.ne_of_lt (lt_of_blk h)) _ _ _, same3 (blk_alloc h _) _ _ _⟩
theorem set_facts {X : World} {b1 b2 : Nat} (h : X.heap[b2]? = some nilcells) (hne : b1 ≠ b2) :
    (∀ v0 v1 v2 : Value, (((X.setCell ⟨b1, 0, none⟩ v0).setCell ⟨b1, 1, none⟩ v1).setCell ⟨b1, 2, none⟩ v2).cell? ⟨b2, 0, none⟩ = some (.int .i64 0)) ∧ (∀ v0 v1 v2 : Value, (((X.setCell ⟨b1, 0, none⟩ v0).setCell ⟨b1, 1, none⟩ v1).setCell ⟨b1, 2, none⟩ v2).cell? ⟨b2, 1, none⟩ = some (.int .i64 0)) ∧ (∀ v0 v1 v2 : Value, (((X.setCell ⟨b1, 0, none⟩ v0).setCell ⟨b1, 1, none⟩ v1).setCell ⟨b1, 2, none⟩ v2).cell? ⟨b2, 2, none⟩ = some (.string ⟨#[]⟩)) ∧ (∀ v0 v1 v2 : Value, (((X.setCell ⟨b1, 0, none⟩ v0).setCell ⟨b1, 1, none⟩ v1).setCell ⟨b1, 2, none⟩ v2).frozen? ⟨b2, 0, none⟩ = false) ∧ (∀ v0 v1 v2 : Value, (((X.setCell ⟨b1, 0, none⟩ v0).setCell ⟨b1, 1, none⟩ v1).setCell ⟨b1, 2, none⟩ v2).frozen? ⟨b2, 1, none⟩ = false) ∧ (∀ v0 v1 v2 : Value, (((X.setCell ⟨b1, 0, none⟩ v0).setCell ⟨b1, 1, none⟩ v1).setCell ⟨b1, 2, none⟩ v2).frozen? ⟨b2, 2, none⟩ = false) :=
  ⟨fun _ _ _ => (res_facts (other3 h hne _ _ _)).1, fun _ _ _ => (res_facts (other3 h hne _ _ _)).2.1, fun _ _ _ => (res_facts (other3 h hne _ _ _)).2.2.1, fun _ _ _ => (res_facts (other3 h hne _ _ _)).2.2.2.1, fun _ _ _ => (res_facts (other3 h hne _ _ _)).2.2.2.2.1, fun _ _ _ => (res_facts (other3 h hne _ _ _)).2.2.2.2.2⟩
theorem all_facts {X : World} {b1 : Nat} (h : X.heap[b1]? = some nilcells) :
    (∀ v0 v1 v2 : Value, (X.alloc (.cells #[v0, v1, v2] 24)).cell? ⟨b1, 0, none⟩ = some (.int .i64 0)) ∧ (∀ v0 v1 v2 : Value, (X.alloc (.cells #[v0, v1, v2] 24)).cell? ⟨b1, 1, none⟩ = some (.int .i64 0)) ∧ (∀ v0 v1 v2 : Value, (X.alloc (.cells #[v0, v1, v2] 24)).cell? ⟨b1, 2, none⟩ = some (.string ⟨#[]⟩)) ∧ (∀ v0 v1 v2 : Value, (X.alloc (.cells #[v0, v1, v2] 24)).frozen? ⟨b1, 0, none⟩ = false) ∧ (∀ v0 v1 v2 : Value, (X.alloc (.cells #[v0, v1, v2] 24)).frozen? ⟨b1, 1, none⟩ = false) ∧ (∀ v0 v1 v2 : Value, (X.alloc (.cells #[v0, v1, v2] 24)).frozen? ⟨b1, 2, none⟩ = false) :=
  ⟨fun _ _ _ => (res_facts (blk_alloc h _)).1, fun _ _ _ => (res_facts (blk_alloc h _)).2.1, fun _ _ _ => (res_facts (blk_alloc h _)).2.2.1, fun _ _ _ => (res_facts (blk_alloc h _)).2.2.2.1, fun _ _ _ => (res_facts (blk_alloc h _)).2.2.2.2.1, fun _ _ _ => (res_facts (blk_alloc h _)).2.2.2.2.2⟩


set_option maxHeartbeats 16000000 in
set_option maxRecDepth 10000 in
theorem back_c (x y : Int) (s1 s2 q1 q2 r1 r2 : Int) (T : ByteArray)
    (TA : Hid (∀ V, Env V → Calls Tryz.prog 7 #[.int .i64 7, .agg #[.int .i64 1, .int .i64 x, .string ⟨#[]⟩], .agg #[.int .i64 1, .int .i64 y, .string ⟨#[]⟩], .int .i64 0] V fun e w' => e = .returned (.agg #[.int .i64 s1, .int .i64 s2, .string ⟨#[]⟩]) ∧ Below V.heap.size V w'))
    (hS : s1 = 0 ∨ (s1 = 1 ∧ Hid (∀ V, Env V → Calls Tryz.prog 7 #[.int .i64 8, .agg #[.int .i64 s1, .int .i64 s2, .string ⟨#[]⟩], .agg #[.int .i64 1, .int .i64 y, .string ⟨#[]⟩], .int .i64 0] V fun e w' => e = .returned (.agg #[.int .i64 1, .int .i64 x, .string ⟨#[]⟩]) ∧ Below V.heap.size V w')))
    (TD : Hid (∀ V, Env V → Calls Tryz.prog 7 #[.int .i64 10, .agg #[.int .i64 1, .int .i64 x, .string ⟨#[]⟩], .agg #[.int .i64 1, .int .i64 y, .string ⟨#[]⟩], .int .i64 0] V fun e w' => e = .returned (.agg #[.int .i64 q1, .int .i64 q2, .string ⟨#[]⟩]) ∧ Below V.heap.size V w'))
    (TR : Hid (∀ V, Env V → Calls Tryz.prog 7 #[.int .i64 11, .agg #[.int .i64 1, .int .i64 x, .string ⟨#[]⟩], .agg #[.int .i64 1, .int .i64 y, .string ⟨#[]⟩], .int .i64 0] V fun e w' => e = .returned (.agg #[.int .i64 r1, .int .i64 r2, .string ⟨#[]⟩]) ∧ Below V.heap.size V w'))
    (hQ : (q1 = 0 ∧ q2 = 0 ∧ r1 = 0 ∧ r2 = 0 ∧ y = 0) ∨ (q1 = 1 ∧ r1 = 1 ∧ y ≠ 0 ∧ ¬ (x = -9223372036854775808 ∧ y = -1) ∧ ∃ m, Hid (∀ V, Env V → Calls Tryz.prog 7 #[.int .i64 9, .agg #[.int .i64 q1, .int .i64 q2, .string ⟨#[]⟩], .agg #[.int .i64 1, .int .i64 y, .string ⟨#[]⟩], .int .i64 0] V fun e w' => e = .returned (.agg #[.int .i64 1, .int .i64 m, .string ⟨#[]⟩]) ∧ Below V.heap.size V w') ∧ Hid (∀ V, Env V → Calls Tryz.prog 7 #[.int .i64 7, .agg #[.int .i64 1, .int .i64 m, .string ⟨#[]⟩], .agg #[.int .i64 r1, .int .i64 r2, .string ⟨#[]⟩], .int .i64 0] V fun e w' => e = .returned (.agg #[.int .i64 1, .int .i64 x, .string ⟨#[]⟩]) ∧ Below V.heap.size V w')) ∨ (q1 = 0 ∧ q2 = 0 ∧ r1 = 1 ∧ x = -9223372036854775808 ∧ y = -1))
    (CT : Hid (∀ V, Env V → Calls Tryz.prog 11 #[.agg #[.int .i64 1, .int .i64 x, .string ⟨#[]⟩], .string strText] V fun e w' => e = .returned (.tuple #[.agg #[.int .i64 2, .int .i64 0, .string T], .int .i64 0]) ∧ Below V.heap.size V w'))
    (CI : Hid (∀ V, Env V → Calls Tryz.prog 11 #[.agg #[.int .i64 2, .int .i64 0, .string T], .string strInt] V fun e w' => e = .returned (.tuple #[.agg #[.int .i64 1, .int .i64 x, .string ⟨#[]⟩], .int .i64 0]) ∧ Below V.heap.size V w'))
    (P1 : Hid (∀ V, Env V → Calls Tryz.prog 12 #[.int .i64 1, .agg #[.int .i64 2, .int .i64 0, .string T]] V fun e w' => e = .returned (.agg #[.int .i64 1, .int .i64 x, .string ⟨#[]⟩]) ∧ Below V.heap.size V w'))
    (P2 : Hid (∀ V, Env V → Calls Tryz.prog 12 #[.int .i64 2, .agg #[.int .i64 1, .int .i64 x, .string ⟨#[]⟩]] V fun e w' => e = .returned (.agg #[.int .i64 2, .int .i64 0, .string T]) ∧ Below V.heap.size V w'))
    (w : World) (hE : Env w) : Calls Tryz.prog 4 #[.int .i64 x, .int .i64 y] w fun e w' => e = .returned (.bool true) ∧ Below w.heap.size w w' := by
  have HE : Hid (∀ V, Below w.heap.size w V → Env V) := fun V h => hE.below h
  have HE0 : Hid (Env w) := hE
  have HQ := hide hQ
  have HSS := hide hS
  clear hE hQ hS
  go_enter Tryz.func4, Tryz.ntmps4
  go_wp2_with (first
    | (go_at_call 5; with_reducible refine Calls.mono (head3_walk _ HE0.out) ?_; rintro e w1 ⟨rfl, hb1⟩; have HB1 := hide hb1; clear hb1)
    | (go_at_call 10; with_reducible refine Calls.mono (rint_walk x _) ?_; rintro e w2 ⟨rfl, hb2⟩; have HB2 := hide (below_trans HB1.out hb2); clear hb2)
    | (go_at_call 10; with_reducible refine Calls.mono (rint_walk y _) ?_; rintro e w3 ⟨rfl, hb3⟩; have HB3 := hide (below_trans HB2.out hb3); have HY3 := hide (below_trans HB3.out (below_trans (new_below w3 (vcells 1 x ⟨#[]⟩) rfl) (new_below _ (vcells 1 y ⟨#[]⟩) rfl))); clear hb3)
    | (go_at_call 7; with_reducible refine Calls.mono (TA.out _ (HE.out _ HY3.out)) ?_; rintro e w4 ⟨rfl, hb4⟩; have HX4 := hide hb4; clear hb4))
  have HS1 : Hid (∀ V, Below (w4.alloc (vcells s1 s2 ⟨#[]⟩)).heap.size (w4.alloc (vcells s1 s2 ⟨#[]⟩)) V → (V.cell? ⟨w3.heap.size, 0, none⟩ = some (.int .i64 1) ∧ V.cell? ⟨w3.heap.size, 1, none⟩ = some (.int .i64 x) ∧ V.cell? ⟨w3.heap.size, 2, none⟩ = some (.string ⟨#[]⟩)) ∧ (V.cell? ⟨w3.heap.size + 1, 0, none⟩ = some (.int .i64 1) ∧ V.cell? ⟨w3.heap.size + 1, 1, none⟩ = some (.int .i64 y) ∧ V.cell? ⟨w3.heap.size + 1, 2, none⟩ = some (.string ⟨#[]⟩)) ∧ (V.cell? ⟨w4.heap.size, 0, none⟩ = some (.int .i64 s1) ∧ V.cell? ⟨w4.heap.size, 1, none⟩ = some (.int .i64 s2) ∧ V.cell? ⟨w4.heap.size, 2, none⟩ = some (.string ⟨#[]⟩))) := fun V h => by
    obtain ⟨p, q, -⟩ := two_later w3 (.int .i64 1) (.int .i64 x) (.string ⟨#[]⟩) (.int .i64 1) (.int .i64 y) (.string ⟨#[]⟩) 24 V (below_trans HX4.out (below_trans (new_below w4 _ rfl) h))
    exact ⟨p, q, three_cells w4 _ _ _ V h⟩
  have HD : Hid (∀ V, Below (w4.alloc (vcells s1 s2 ⟨#[]⟩)).drew.heap.size (w4.alloc (vcells s1 s2 ⟨#[]⟩)).drew V → Below (w4.alloc (vcells s1 s2 ⟨#[]⟩)).heap.size (w4.alloc (vcells s1 s2 ⟨#[]⟩)) V) := fun V h => below_trans (Below.refl _ _).drew h
  have HS0 : Hid (((w4.alloc (vcells s1 s2 ⟨#[]⟩)).drew.cell? ⟨w3.heap.size, 0, none⟩ = some (.int .i64 1) ∧ (w4.alloc (vcells s1 s2 ⟨#[]⟩)).drew.cell? ⟨w3.heap.size, 1, none⟩ = some (.int .i64 x) ∧ (w4.alloc (vcells s1 s2 ⟨#[]⟩)).drew.cell? ⟨w3.heap.size, 2, none⟩ = some (.string ⟨#[]⟩)) ∧ ((w4.alloc (vcells s1 s2 ⟨#[]⟩)).drew.cell? ⟨w3.heap.size + 1, 0, none⟩ = some (.int .i64 1) ∧ (w4.alloc (vcells s1 s2 ⟨#[]⟩)).drew.cell? ⟨w3.heap.size + 1, 1, none⟩ = some (.int .i64 y) ∧ (w4.alloc (vcells s1 s2 ⟨#[]⟩)).drew.cell? ⟨w3.heap.size + 1, 2, none⟩ = some (.string ⟨#[]⟩)) ∧ ((w4.alloc (vcells s1 s2 ⟨#[]⟩)).drew.cell? ⟨w4.heap.size, 0, none⟩ = some (.int .i64 s1) ∧ (w4.alloc (vcells s1 s2 ⟨#[]⟩)).drew.cell? ⟨w4.heap.size, 1, none⟩ = some (.int .i64 s2) ∧ (w4.alloc (vcells s1 s2 ⟨#[]⟩)).drew.cell? ⟨w4.heap.size, 2, none⟩ = some (.string ⟨#[]⟩))) := HS1.out _ (HD.out _ (Below.refl _ _))
  have HBW : Hid (∀ V, Below (w4.alloc (vcells s1 s2 ⟨#[]⟩)).heap.size (w4.alloc (vcells s1 s2 ⟨#[]⟩)) V → Below w.heap.size w V) := fun V h => below_trans HY3.out (below_trans HX4.out (below_trans (new_below w4 _ rfl) h))
  have HE4 : Hid (Env (w4.alloc (vcells s1 s2 ⟨#[]⟩)).drew) := HE.out _ (HBW.out _ (HD.out _ (Below.refl _ _)))
  go_upto_region 6 with fail
  go_cut [35] from 25 (fun v V => v = .bool false ∧ Below (w4.alloc (vcells s1 s2 ⟨#[]⟩)).heap.size (w4.alloc (vcells s1 s2 ⟨#[]⟩)) V)
  case first =>
    rcases HSS.out with h | ⟨h, TS⟩
    · subst h
      obtain ⟨⟨a0, a1, a2⟩, ⟨b0, b1, b2⟩, c0, c1, c2⟩ := HS0.out
      go_region
      all_goals (try go_wp2_with fail)
      all_goals go_meet
      all_goals exact ⟨rfl, HD.out _ (Below.refl _ _)⟩
    · subst h
      go_region_held3 (fun V => (V.cell? ⟨w3.heap.size, 0, none⟩ = some (.int .i64 1) ∧ V.cell? ⟨w3.heap.size, 1, none⟩ = some (.int .i64 x) ∧ V.cell? ⟨w3.heap.size, 2, none⟩ = some (.string ⟨#[]⟩)) ∧ (V.cell? ⟨w3.heap.size + 1, 0, none⟩ = some (.int .i64 1) ∧ V.cell? ⟨w3.heap.size + 1, 1, none⟩ = some (.int .i64 y) ∧ V.cell? ⟨w3.heap.size + 1, 2, none⟩ = some (.string ⟨#[]⟩)) ∧ (V.cell? ⟨w4.heap.size, 0, none⟩ = some (.int .i64 1) ∧ V.cell? ⟨w4.heap.size, 1, none⟩ = some (.int .i64 s2) ∧ V.cell? ⟨w4.heap.size, 2, none⟩ = some (.string ⟨#[]⟩))) (first | with_reducible exact HS0.out | with_reducible exact HS1.out _ HX5.out) (first
        | (go_at_call 7; with_reducible refine Calls.mono (TS.out _ HE4.out) ?_; rintro e w5 ⟨rfl, hb5⟩; have HX5 := hide (HD.out _ hb5); clear hb5))
      all_goals go_wp2_with fail
      all_goals go_meet
      all_goals exact ⟨rfl, HX5.out⟩
  case rest =>
    obtain ⟨rfl, hx5⟩ := hcut
    obtain ⟨w5, hw5⟩ : ∃ v, v = wc := ⟨_, rfl⟩
    subst hw5
    have HX5 := hide hx5
    clear hx5
    go_upto_region 8 with fail
    go_cut [9, 10] from 36 (fun v9 v10 V => ∃ bq br : Nat, v9 = .pointer (some ⟨bq, 0, none⟩) ∧ v10 = .pointer (some ⟨br, 0, none⟩) ∧ V.heap[bq]? = some (vcells q1 q2 ⟨#[]⟩) ∧ V.heap[br]? = some (vcells r1 r2 ⟨#[]⟩) ∧ Below w5.heap.size w5 V)
    case first =>
      have HE5 : Hid (∀ V, Below w5.heap.size w5 V → Env V) := fun V h => HE.out _ (HBW.out _ (below_trans HX5.out h))
      have HS5 : Hid (∀ V, Below w5.heap.size w5 V → (V.cell? ⟨w3.heap.size, 0, none⟩ = some (.int .i64 1) ∧ V.cell? ⟨w3.heap.size, 1, none⟩ = some (.int .i64 x) ∧ V.cell? ⟨w3.heap.size, 2, none⟩ = some (.string ⟨#[]⟩)) ∧ (V.cell? ⟨w3.heap.size + 1, 0, none⟩ = some (.int .i64 1) ∧ V.cell? ⟨w3.heap.size + 1, 1, none⟩ = some (.int .i64 y) ∧ V.cell? ⟨w3.heap.size + 1, 2, none⟩ = some (.string ⟨#[]⟩))) := fun V h => ⟨(HS1.out V (below_trans HX5.out h)).1, (HS1.out V (below_trans HX5.out h)).2.1⟩
      have HR5 : Hid (Below w5.heap.size w5 w5) := Below.refl _ _
      have HD5 : Hid (Below w5.heap.size w5 w5.drew) := (Below.refl _ _).drew
      go_region_held3 (fun V => (V.cell? ⟨w3.heap.size, 0, none⟩ = some (.int .i64 1) ∧ V.cell? ⟨w3.heap.size, 1, none⟩ = some (.int .i64 x) ∧ V.cell? ⟨w3.heap.size, 2, none⟩ = some (.string ⟨#[]⟩)) ∧ (V.cell? ⟨w3.heap.size + 1, 0, none⟩ = some (.int .i64 1) ∧ V.cell? ⟨w3.heap.size + 1, 1, none⟩ = some (.int .i64 y) ∧ V.cell? ⟨w3.heap.size + 1, 2, none⟩ = some (.string ⟨#[]⟩))) (first | with_reducible exact HS5.out _ (by (repeat (first | with_reducible exact HX7.out | with_reducible exact HX6.out | with_reducible exact HD5.out | with_reducible exact HR5.out | with_reducible refine bl_drew ?_ | with_reducible refine bl_alloc ?_ _ | (with_reducible refine bl_set ?_ (by (first | with_reducible exact HX7.out.size | with_reducible exact Nat.le_succ_of_le HX7.out.size | with_reducible exact HX6.out.size | with_reducible exact Nat.le_succ_of_le HX6.out.size | with_reducible exact Nat.le_refl _ | with_reducible exact Nat.le_succ _)) _))))) (first
        | (go_at_call 7; with_reducible refine Calls.mono (TD.out _ (HE5.out _ (by (repeat (first | with_reducible exact HX7.out | with_reducible exact HX6.out | with_reducible exact HD5.out | with_reducible exact HR5.out | with_reducible refine bl_drew ?_ | with_reducible refine bl_alloc ?_ _ | (with_reducible refine bl_set ?_ (by (first | with_reducible exact HX7.out.size | with_reducible exact Nat.le_succ_of_le HX7.out.size | with_reducible exact HX6.out.size | with_reducible exact Nat.le_succ_of_le HX6.out.size | with_reducible exact Nat.le_refl _ | with_reducible exact Nat.le_succ _)) _)))))) ?_; rintro e w6 ⟨rfl, hb6⟩; have HX6 := hide (below_trans (w := w5) (by (repeat (first | with_reducible exact HX7.out | with_reducible exact HX6.out | with_reducible exact HD5.out | with_reducible exact HR5.out | with_reducible refine bl_drew ?_ | with_reducible refine bl_alloc ?_ _ | (with_reducible refine bl_set ?_ (by (first | with_reducible exact HX7.out.size | with_reducible exact Nat.le_succ_of_le HX7.out.size | with_reducible exact HX6.out.size | with_reducible exact Nat.le_succ_of_le HX6.out.size | with_reducible exact Nat.le_refl _ | with_reducible exact Nat.le_succ _)) _)))) hb6); (first | have KP6 := hide (pair2 (pair_nnd w5) hb6) | have K6 := hide (one_later (one_newd w5) hb6) | skip); clear hb6)
        | (go_at_call 7; with_reducible refine Calls.mono (TR.out _ (HE5.out _ (by (repeat (first | with_reducible exact HX7.out | with_reducible exact HX6.out | with_reducible exact HD5.out | with_reducible exact HR5.out | with_reducible refine bl_drew ?_ | with_reducible refine bl_alloc ?_ _ | (with_reducible refine bl_set ?_ (by (first | with_reducible exact HX7.out.size | with_reducible exact Nat.le_succ_of_le HX7.out.size | with_reducible exact HX6.out.size | with_reducible exact Nat.le_succ_of_le HX6.out.size | with_reducible exact Nat.le_refl _ | with_reducible exact Nat.le_succ _)) _)))))) ?_; rintro e w7 ⟨rfl, hb7⟩; have HX7 := hide (below_trans (w := w5) (by (repeat (first | with_reducible exact HX7.out | with_reducible exact HX6.out | with_reducible exact HD5.out | with_reducible exact HR5.out | with_reducible refine bl_drew ?_ | with_reducible refine bl_alloc ?_ _ | (with_reducible refine bl_set ?_ (by (first | with_reducible exact HX7.out.size | with_reducible exact Nat.le_succ_of_le HX7.out.size | with_reducible exact HX6.out.size | with_reducible exact Nat.le_succ_of_le HX6.out.size | with_reducible exact Nat.le_refl _ | with_reducible exact Nat.le_succ _)) _)))) hb7); (first | (have KP := hide (pair2 KP6.out hb7); obtain ⟨ga0, ga1, ga2, ga3, ga4, ga5⟩ := res_facts (pair_a KP.out); obtain ⟨gb0, gb1, gb2, gb3, gb4, gb5⟩ := res_facts (pair_b KP.out); obtain ⟨gc0, gc1, gc2, gc3, gc4, gc5⟩ := set_facts (pair_b KP.out) (pair_ne KP.out); obtain ⟨gd0, gd1, gd2, gd3, gd4, gd5⟩ := set_facts (pair_a KP.out) (pair_en KP.out)) | (have KP := hide (pair2 (pair_new K6.out) hb7); obtain ⟨ga0, ga1, ga2, ga3, ga4, ga5⟩ := res_facts (pair_a KP.out); obtain ⟨gb0, gb1, gb2, gb3, gb4, gb5⟩ := res_facts (pair_b KP.out); obtain ⟨gc0, gc1, gc2, gc3, gc4, gc5⟩ := set_facts (pair_b KP.out) (pair_ne KP.out); obtain ⟨gd0, gd1, gd2, gd3, gd4, gd5⟩ := set_facts (pair_a KP.out) (pair_en KP.out)) | (have KP := hide (pair2 (pair_nn w6) hb7); obtain ⟨ga0, ga1, ga2, ga3, ga4, ga5⟩ := res_facts (pair_a KP.out); obtain ⟨gb0, gb1, gb2, gb3, gb4, gb5⟩ := res_facts (pair_b KP.out); obtain ⟨gc0, gc1, gc2, gc3, gc4, gc5⟩ := set_facts (pair_b KP.out) (pair_ne KP.out); obtain ⟨gd0, gd1, gd2, gd3, gd4, gd5⟩ := set_facts (pair_a KP.out) (pair_en KP.out)) | (have K7 := hide (one_later K6.out hb7); have KP := hide (pair_new K7.out); obtain ⟨ga0, ga1, ga2, ga3, ga4, ga5⟩ := res_facts K7.out; obtain ⟨gb0, gb1, gb2, gb3, gb4, gb5⟩ := all_facts K7.out; obtain ⟨gc0, gc1, gc2, gc3, gc4, gc5⟩ := set_facts (pair_b KP.out) (pair_ne KP.out)) | (have K7 := hide (one_later (one_new w6) hb7); have KP := hide (pair_new K7.out); obtain ⟨ga0, ga1, ga2, ga3, ga4, ga5⟩ := res_facts K7.out; obtain ⟨gb0, gb1, gb2, gb3, gb4, gb5⟩ := all_facts K7.out; obtain ⟨gc0, gc1, gc2, gc3, gc4, gc5⟩ := set_facts (pair_b KP.out) (pair_ne KP.out)) | have KP := hide (pair_nn w7)); clear hb7))
      all_goals go_wp2_with fail
      all_goals go_meet
      all_goals with_reducible refine ⟨_, _, rfl, rfl, ?_, ?_, ?_⟩
      all_goals first
        | with_reducible exact (fin1 KP.out _ _ _ _ _ _).1
        | with_reducible exact (fin1 KP.out _ _ _ _ _ _).2
        | with_reducible exact (fin2 KP.out _ _ _ _ _ _).1
        | with_reducible exact (fin2 KP.out _ _ _ _ _ _).2
        | with_reducible exact (fin3 K7.out _ _ _ _).1
        | with_reducible exact (fin3 K7.out _ _ _ _).2
        | with_reducible exact blk_alloc (blk_new w7 _) _
        | with_reducible exact blk_new2 w7 _ _
        | ((repeat (first | with_reducible exact HX7.out | with_reducible exact HX6.out | with_reducible exact HD5.out | with_reducible exact HR5.out | with_reducible refine bl_drew ?_ | with_reducible refine bl_alloc ?_ _ | (with_reducible refine bl_set ?_ (by (first | with_reducible exact HX7.out.size | with_reducible exact Nat.le_succ_of_le HX7.out.size | with_reducible exact HX6.out.size | with_reducible exact Nat.le_succ_of_le HX6.out.size | with_reducible exact Nat.le_refl _ | with_reducible exact Nat.le_succ _)) _))); done)
    case rest =>
      obtain ⟨bq, br, rfl, rfl, hbq, hbr, hx8⟩ := hcut
      obtain ⟨w8, hw8⟩ : ∃ v, v = wc := ⟨_, rfl⟩
      subst hw8
      have HX8 := hide (below_trans HX5.out hx8)
      have HK8 := hide (And.intro hbq hbr)
      clear hx8 hbq hbr
      have HS8 : Hid (∀ V, Below w8.heap.size w8 V → (V.cell? ⟨w3.heap.size, 0, none⟩ = some (.int .i64 1) ∧ V.cell? ⟨w3.heap.size, 1, none⟩ = some (.int .i64 x) ∧ V.cell? ⟨w3.heap.size, 2, none⟩ = some (.string ⟨#[]⟩)) ∧ (V.cell? ⟨w3.heap.size + 1, 0, none⟩ = some (.int .i64 1) ∧ V.cell? ⟨w3.heap.size + 1, 1, none⟩ = some (.int .i64 y) ∧ V.cell? ⟨w3.heap.size + 1, 2, none⟩ = some (.string ⟨#[]⟩)) ∧ (V.cell? ⟨bq, 0, none⟩ = some (.int .i64 q1) ∧ V.cell? ⟨bq, 1, none⟩ = some (.int .i64 q2) ∧ V.cell? ⟨bq, 2, none⟩ = some (.string ⟨#[]⟩)) ∧ (V.cell? ⟨br, 0, none⟩ = some (.int .i64 r1) ∧ V.cell? ⟨br, 1, none⟩ = some (.int .i64 r2) ∧ V.cell? ⟨br, 2, none⟩ = some (.string ⟨#[]⟩))) := fun V h => by
        obtain ⟨p, q, -⟩ := HS1.out V (below_trans HX8.out h)
        have hq := res_facts (blk_later HK8.out.1 h)
        have hr := res_facts (blk_later HK8.out.2 h)
        exact ⟨p, q, ⟨hq.1, hq.2.1, hq.2.2.1⟩, ⟨hr.1, hr.2.1, hr.2.2.1⟩⟩
      have HD8 : Hid (∀ V, Below w8.drew.heap.size w8.drew V → Below w8.heap.size w8 V) := fun V h => below_trans (Below.refl _ _).drew h
      have HS80 : Hid ((w8.drew.cell? ⟨w3.heap.size, 0, none⟩ = some (.int .i64 1) ∧ w8.drew.cell? ⟨w3.heap.size, 1, none⟩ = some (.int .i64 x) ∧ w8.drew.cell? ⟨w3.heap.size, 2, none⟩ = some (.string ⟨#[]⟩)) ∧ (w8.drew.cell? ⟨w3.heap.size + 1, 0, none⟩ = some (.int .i64 1) ∧ w8.drew.cell? ⟨w3.heap.size + 1, 1, none⟩ = some (.int .i64 y) ∧ w8.drew.cell? ⟨w3.heap.size + 1, 2, none⟩ = some (.string ⟨#[]⟩)) ∧ (w8.drew.cell? ⟨bq, 0, none⟩ = some (.int .i64 q1) ∧ w8.drew.cell? ⟨bq, 1, none⟩ = some (.int .i64 q2) ∧ w8.drew.cell? ⟨bq, 2, none⟩ = some (.string ⟨#[]⟩)) ∧ (w8.drew.cell? ⟨br, 0, none⟩ = some (.int .i64 r1) ∧ w8.drew.cell? ⟨br, 1, none⟩ = some (.int .i64 r2) ∧ w8.drew.cell? ⟨br, 2, none⟩ = some (.string ⟨#[]⟩))) := HS8.out _ (HD8.out _ (Below.refl _ _))
      have HBW8 : Hid (∀ V, Below w8.heap.size w8 V → Below w.heap.size w V) := fun V h => HBW.out _ (below_trans HX8.out h)
      have HE8 : Hid (∀ V, Below w8.heap.size w8 V → Env V) := fun V h => HE.out _ (HBW8.out _ h)
      have HE80 : Hid (Env w8.drew) := HE8.out _ (HD8.out _ (Below.refl _ _))
      go_upto_region 9 with fail
      go_cut [57] from 44 (fun v V => v = .bool false ∧ Below w8.heap.size w8 V)
      case first =>
        rcases HQ.out with ⟨e1, e2, e3, e4, e5⟩ | ⟨e1, e2, e3, e4, m, TM, TN⟩ | ⟨e1, e2, e3, e4, e5⟩
        · subst e1
          clear e2 e3 e4 e5
          obtain ⟨⟨a0, a1, a2⟩, ⟨b0, b1, b2⟩, ⟨c0, c1, c2⟩, d0, d1, d2⟩ := HS80.out
          go_region
          all_goals (try go_wp2_with fail)
          all_goals go_meet
          all_goals exact ⟨rfl, HD8.out _ (Below.refl _ _)⟩
        · subst e1 e2
          clear e3 e4
          go_region_held3 (fun V => (V.cell? ⟨w3.heap.size, 0, none⟩ = some (.int .i64 1) ∧ V.cell? ⟨w3.heap.size, 1, none⟩ = some (.int .i64 x) ∧ V.cell? ⟨w3.heap.size, 2, none⟩ = some (.string ⟨#[]⟩)) ∧ (V.cell? ⟨w3.heap.size + 1, 0, none⟩ = some (.int .i64 1) ∧ V.cell? ⟨w3.heap.size + 1, 1, none⟩ = some (.int .i64 y) ∧ V.cell? ⟨w3.heap.size + 1, 2, none⟩ = some (.string ⟨#[]⟩)) ∧ (V.cell? ⟨bq, 0, none⟩ = some (.int .i64 1) ∧ V.cell? ⟨bq, 1, none⟩ = some (.int .i64 q2) ∧ V.cell? ⟨bq, 2, none⟩ = some (.string ⟨#[]⟩)) ∧ (V.cell? ⟨br, 0, none⟩ = some (.int .i64 1) ∧ V.cell? ⟨br, 1, none⟩ = some (.int .i64 r2) ∧ V.cell? ⟨br, 2, none⟩ = some (.string ⟨#[]⟩))) (first | with_reducible exact HS80.out | with_reducible exact HS8.out _ HX9.out | with_reducible exact HS8.out _ HX10.out) (first
            | (go_at_call 7; with_reducible refine Calls.mono (TM.out _ HE80.out) ?_; rintro e w9 ⟨rfl, hb9⟩; have HX9 := hide (HD8.out _ hb9); clear hb9)
            | (go_at_call 7; with_reducible refine Calls.mono (TN.out _ (HE8.out _ HX9.out)) ?_; rintro e w10 ⟨rfl, hb10⟩; have HX10 := hide (below_trans HX9.out hb10); clear hb10))
          all_goals go_wp2_with fail
          all_goals go_meet
          all_goals exact ⟨rfl, HX10.out⟩
        · subst e1
          clear e2 e3 e4 e5
          obtain ⟨⟨a0, a1, a2⟩, ⟨b0, b1, b2⟩, ⟨c0, c1, c2⟩, d0, d1, d2⟩ := HS80.out
          go_region
          all_goals (try go_wp2_with fail)
          all_goals go_meet
          all_goals exact ⟨rfl, HD8.out _ (Below.refl _ _)⟩
      case rest =>
        obtain ⟨rfl, hx11⟩ := hcut
        obtain ⟨w11, hw11⟩ : ∃ v, v = wc := ⟨_, rfl⟩
        subst hw11
        have HX11 := hide hx11
        clear hx11
        go_upto_region 11 with fail
        go_cut [79] from 58 (fun v V => v = .bool false ∧ V = w11)
        case first =>
          obtain ⟨-, -, ⟨c0, c1, c2⟩, d0, d1, d2⟩ := HS8.out _ HX11.out
          rcases HQ.out with ⟨e1, e2, e3, e4, e5⟩ | ⟨e1, e2, e3, e4, -⟩ | ⟨e1, e2, e3, e4, e5⟩
          · subst e1 e3 e5
            clear e2 e4
            go_wp2_with fail
            go_meet
            exact ⟨rfl, rfl⟩
          · subst e1 e2
            have hy0 : (y == 0) = false := by simpa using e3
            by_cases hxm : x = -9223372036854775808
            · have hy1 : (y == -1) = false := by simpa using fun h => e4 ⟨hxm, h⟩
              have hx1 : (x == -9223372036854775808) = true := by simp [hxm]
              clear hxm e3 e4
              go_wp2_with fail
              go_meet
              exact ⟨rfl, rfl⟩
            · have hx1 : (x == -9223372036854775808) = false := by simpa using hxm
              clear hxm e3 e4
              go_wp2_with fail
              go_meet
              exact ⟨rfl, rfl⟩
          · subst e1 e3 e4 e5
            clear e2
            go_wp2_with fail
            go_meet
            exact ⟨rfl, rfl⟩
        case rest =>
          obtain ⟨rfl, hw⟩ := hcut
          subst hw
          obtain ⟨⟨a0, a1, a2⟩, -⟩ := HS8.out _ HX11.out
          have HE11 := hide (HE8.out _ HX11.out)
          go_wp2_with (first
            | (go_at_call 11; with_reducible refine Calls.mono (CT.out _ HE11.out) ?_; rintro e w12 ⟨rfl, hb12⟩; have HX12 := hide (below_trans HX11.out hb12); clear hb12)
            | (go_at_call 11; with_reducible refine Calls.mono (CI.out _ (HE8.out _ (below_trans HX12.out (new_below w12 _ rfl)))) ?_; rintro e w13 ⟨rfl, hb13⟩; have HX13 := hide hb13; clear hb13))
          have HY15 : Hid (∀ V, Below (w13.alloc (vcells 1 x ⟨#[]⟩)).heap.size (w13.alloc (vcells 1 x ⟨#[]⟩)) V → Below w8.heap.size w8 V) := fun V h => below_trans HX12.out (below_trans (new_below w12 _ rfl) (below_trans HX13.out (below_trans (new_below w13 _ rfl) h)))
          have HS15 : Hid (∀ V, Below (w13.alloc (vcells 1 x ⟨#[]⟩)).heap.size (w13.alloc (vcells 1 x ⟨#[]⟩)) V → (V.cell? ⟨w3.heap.size, 0, none⟩ = some (.int .i64 1) ∧ V.cell? ⟨w3.heap.size, 1, none⟩ = some (.int .i64 x) ∧ V.cell? ⟨w3.heap.size, 2, none⟩ = some (.string ⟨#[]⟩)) ∧ (V.cell? ⟨w12.heap.size, 0, none⟩ = some (.int .i64 2) ∧ V.cell? ⟨w12.heap.size, 1, none⟩ = some (.int .i64 0) ∧ V.cell? ⟨w12.heap.size, 2, none⟩ = some (.string T)) ∧ (V.cell? ⟨w13.heap.size, 0, none⟩ = some (.int .i64 1) ∧ V.cell? ⟨w13.heap.size, 1, none⟩ = some (.int .i64 x) ∧ V.cell? ⟨w13.heap.size, 2, none⟩ = some (.string ⟨#[]⟩))) := fun V h =>
            ⟨(HS8.out V (HY15.out V h)).1, three_cells w12 _ _ _ V (below_trans HX13.out (below_trans (new_below w13 _ rfl) h)), three_cells w13 _ _ _ V h⟩
          have HD15 : Hid (∀ V, Below (w13.alloc (vcells 1 x ⟨#[]⟩)).drew.heap.size (w13.alloc (vcells 1 x ⟨#[]⟩)).drew V → Below (w13.alloc (vcells 1 x ⟨#[]⟩)).heap.size (w13.alloc (vcells 1 x ⟨#[]⟩)) V) := fun V h => below_trans (Below.refl _ _).drew h
          have HS150 : Hid (((w13.alloc (vcells 1 x ⟨#[]⟩)).drew.cell? ⟨w3.heap.size, 0, none⟩ = some (.int .i64 1) ∧ (w13.alloc (vcells 1 x ⟨#[]⟩)).drew.cell? ⟨w3.heap.size, 1, none⟩ = some (.int .i64 x) ∧ (w13.alloc (vcells 1 x ⟨#[]⟩)).drew.cell? ⟨w3.heap.size, 2, none⟩ = some (.string ⟨#[]⟩)) ∧ ((w13.alloc (vcells 1 x ⟨#[]⟩)).drew.cell? ⟨w12.heap.size, 0, none⟩ = some (.int .i64 2) ∧ (w13.alloc (vcells 1 x ⟨#[]⟩)).drew.cell? ⟨w12.heap.size, 1, none⟩ = some (.int .i64 0) ∧ (w13.alloc (vcells 1 x ⟨#[]⟩)).drew.cell? ⟨w12.heap.size, 2, none⟩ = some (.string T)) ∧ ((w13.alloc (vcells 1 x ⟨#[]⟩)).drew.cell? ⟨w13.heap.size, 0, none⟩ = some (.int .i64 1) ∧ (w13.alloc (vcells 1 x ⟨#[]⟩)).drew.cell? ⟨w13.heap.size, 1, none⟩ = some (.int .i64 x) ∧ (w13.alloc (vcells 1 x ⟨#[]⟩)).drew.cell? ⟨w13.heap.size, 2, none⟩ = some (.string ⟨#[]⟩))) := HS15.out _ (HD15.out _ (Below.refl _ _))
          have HE15 : Hid (∀ V, Below (w13.alloc (vcells 1 x ⟨#[]⟩)).heap.size (w13.alloc (vcells 1 x ⟨#[]⟩)) V → Env V) := fun V h => HE8.out _ (HY15.out _ h)
          have HE150 : Hid (Env (w13.alloc (vcells 1 x ⟨#[]⟩)).drew) := HE15.out _ (HD15.out _ (Below.refl _ _))
          clear a0 a1 a2
          go_region_held3 (fun V => (V.cell? ⟨w3.heap.size, 0, none⟩ = some (.int .i64 1) ∧ V.cell? ⟨w3.heap.size, 1, none⟩ = some (.int .i64 x) ∧ V.cell? ⟨w3.heap.size, 2, none⟩ = some (.string ⟨#[]⟩)) ∧ (V.cell? ⟨w12.heap.size, 0, none⟩ = some (.int .i64 2) ∧ V.cell? ⟨w12.heap.size, 1, none⟩ = some (.int .i64 0) ∧ V.cell? ⟨w12.heap.size, 2, none⟩ = some (.string T)) ∧ (V.cell? ⟨w13.heap.size, 0, none⟩ = some (.int .i64 1) ∧ V.cell? ⟨w13.heap.size, 1, none⟩ = some (.int .i64 x) ∧ V.cell? ⟨w13.heap.size, 2, none⟩ = some (.string ⟨#[]⟩))) (first | with_reducible exact HS150.out | with_reducible exact HS15.out _ HX16.out | with_reducible exact HS15.out _ HX17.out) (first
            | (go_at_call 12; with_reducible refine Calls.mono (P1.out _ HE150.out) ?_; rintro e w16 ⟨rfl, hb16⟩; have HX16 := hide (HD15.out _ hb16); clear hb16)
            | (go_at_call 12; with_reducible refine Calls.mono (P2.out _ (HE15.out _ HX16.out)) ?_; rintro e w17 ⟨rfl, hb17⟩; have HX17 := hide (below_trans HX16.out hb17); clear hb17))
          all_goals (try go_wp2)
          all_goals go_ret
          all_goals exact ⟨by simp, HBW8.out _ (HY15.out _ HX17.out)⟩
end Go.Proofs.YtoekdeoekcmpgabGreatDoor
