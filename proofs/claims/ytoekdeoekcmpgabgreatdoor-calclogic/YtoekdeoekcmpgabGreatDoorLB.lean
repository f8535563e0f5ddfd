/- The walk of CalcLogic. -/
import Derived.Test.YtoekdeoekcmpgabGreatDoorLA
import Derived.Deep.Cut
namespace Go.Proofs.YtoekdeoekcmpgabGreatDoor
open Go.ChangeShapes Go.WideShapes Go.ChangeAt Go.RowKit
set_option linter.unusedVariables false

theorem bl_alloc {w w1 : World} (h : Below w.heap.size w w1) (o : Obj) : Below w.heap.size w (w1.alloc o) := h.alloc h.size o
theorem bl_set {w w1 : World} {a : Addr} (h : Below w.heap.size w w1) (ha : w.heap.size ≤ a.block) (v : Value) : Below w.heap.size w (w1.setCell a v) := h.setCell ha v
/-- Two new blocks of a world. -/
def PairAt (X : World) (b1 b2 : Nat) : Prop := X.heap[b1]? = some nilcells ∧ X.heap[b2]? = some nilcells ∧ b1 ≠ b2
theorem pair_a {X : World} {b1 b2 : Nat} (p : PairAt X b1 b2) : X.heap[b1]? = some nilcells := p.1
theorem pair_b {X : World} {b1 b2 : Nat} (p : PairAt X b1 b2) : X.heap[b2]? = some nilcells := p.2.1
theorem pair_ne {X : World} {b1 b2 : Nat} (p : PairAt X b1 b2) : b1 ≠ b2 := p.2.2
theorem pair_en {X : World} {b1 b2 : Nat} (p : PairAt X b1 b2) : b2 ≠ b1 := Ne.symm p.2.2
theorem one_new (V : World) : (V.alloc nilcells).heap[V.heap.size]? = some nilcells := by
  show (V.heap.push _)[V.heap.size]? = _
  simp
theorem bl_drew {w w1 : World} (h : Below w.heap.size w w1) : Below w.heap.size w w1.drew := h.drew
theorem one_newd (w : World) : (w.alloc nilcells).drew.heap[w.heap.size]? = some nilcells := one_new w
theorem one_later {V X : World} {b : Nat} (h : V.heap[b]? = some nilcells) (hb : Below V.heap.size V X) : X.heap[b]? = some nilcells := blk_later h hb
theorem lt_of_blk {V : World} {b : Nat} {o : Obj} (h : V.heap[b]? = some o) : b < V.heap.size := (Array.getElem?_eq_some_iff.1 h).1
theorem pair_new {V : World} {b : Nat} (h : V.heap[b]? = some nilcells) : PairAt (V.alloc nilcells) b V.heap.size :=
  ⟨blk_alloc h _, one_new V, Nat.ne_of_lt (lt_of_blk h)⟩
theorem pair_nn (V : World) : PairAt ((V.alloc nilcells).alloc nilcells) V.heap.size (V.heap.size + 1) := by
  refine ⟨blk_alloc (one_new V) _, ?_, by omega⟩
  have := one_new (V.alloc nilcells)
  rw [show (V.alloc nilcells).heap.size = V.heap.size + 1 by simp] at this
  exact this
theorem pair_nnd (w : World) : PairAt ((w.alloc nilcells).alloc nilcells).drew w.heap.size (w.heap.size + 1) := pair_nn w
theorem pair2 {V X : World} {b1 b2 : Nat} (p : PairAt V b1 b2) (h : Below V.heap.size V X) : PairAt X b1 b2 := ⟨one_later p.1 h, one_later p.2.1 h, p.2.2⟩
theorem other3 {X : World} {b1 b2 : Nat} {o : Obj} (h : X.heap[b2]? = some o) (hne : b1 ≠ b2) (v0 v1 v2 : Value) : (((X.setCell ⟨b1, 0, none⟩ v0).setCell ⟨b1, 1, none⟩ v1).setCell ⟨b1, 2, none⟩ v2).heap[b2]? = some o := by
  rw [Below.heap_setCell _ _ _ _ (Ne.symm hne), Below.heap_setCell _ _ _ _ (Ne.symm hne), Below.heap_setCell _ _ _ _ (Ne.symm hne)]
  exact h
theorem same3 {X : World} {b1 : Nat} {a b c : Value} {T : TypeId} (h : X.heap[b1]? = some (.cells #[a, b, c] T (0, 0))) (v0 v1 v2 : Value) : (((X.setCell ⟨b1, 0, none⟩ v0).setCell ⟨b1, 1, none⟩ v1).setCell ⟨b1, 2, none⟩ v2).heap[b1]? = some (.cells #[v0, v1, v2] T (0, 0)) :=
  set_block (set_block (set_block h 0 v0) 1 v1) 2 v2
theorem blk_new (V : World) (o : Obj) : (V.alloc o).heap[V.heap.size]? = some o := by
  show (V.heap.push _)[V.heap.size]? = _
  simp
theorem blk_new2 (V : World) (o p : Obj) : ((V.alloc p).alloc o).heap[V.heap.size + 1]? = some o := by
  have := blk_new (V.alloc p) o
  rw [show (V.alloc p).heap.size = V.heap.size + 1 by simp] at this
  exact this
theorem fin1 {X : World} {b1 b2 : Nat} (p : PairAt X b1 b2) (v0 v1 v2 u0 u1 u2 : Value) : ((((((X.setCell ⟨b1, 0, none⟩ v0).setCell ⟨b1, 1, none⟩ v1).setCell ⟨b1, 2, none⟩ v2).setCell ⟨b2, 0, none⟩ u0).setCell ⟨b2, 1, none⟩ u1).setCell ⟨b2, 2, none⟩ u2).heap[b1]? = some (.cells #[v0, v1, v2] 24) ∧ ((((((X.setCell ⟨b1, 0, none⟩ v0).setCell ⟨b1, 1, none⟩ v1).setCell ⟨b1, 2, none⟩ v2).setCell ⟨b2, 0, none⟩ u0).setCell ⟨b2, 1, none⟩ u1).setCell ⟨b2, 2, none⟩ u2).heap[b2]? = some (.cells #[u0, u1, u2] 24) :=
  ⟨other3 (same3 p.1 _ _ _) (Ne.symm p.2.2) _ _ _, same3 (other3 p.2.1 p.2.2 _ _ _) _ _ _⟩
theorem fin2 {X : World} {b1 b2 : Nat} (p : PairAt X b1 b2) (v0 v1 v2 u0 u1 u2 : Value) : ((((((X.setCell ⟨b2, 0, none⟩ v0).setCell ⟨b2, 1, none⟩ v1).setCell ⟨b2, 2, none⟩ v2).setCell ⟨b1, 0, none⟩ u0).setCell ⟨b1, 1, none⟩ u1).setCell ⟨b1, 2, none⟩ u2).heap[b2]? = some (.cells #[v0, v1, v2] 24) ∧ ((((((X.setCell ⟨b2, 0, none⟩ v0).setCell ⟨b2, 1, none⟩ v1).setCell ⟨b2, 2, none⟩ v2).setCell ⟨b1, 0, none⟩ u0).setCell ⟨b1, 1, none⟩ u1).setCell ⟨b1, 2, none⟩ u2).heap[b1]? = some (.cells #[u0, u1, u2] 24) :=
  ⟨other3 (same3 p.2.1 _ _ _) p.2.2 _ _ _, same3 (other3 p.1 (Ne.symm p.2.2) _ _ _) _ _ _⟩
theorem fin3 {X : World} {b1 : Nat} (h : X.heap[b1]? = some nilcells) (o : Obj) (u0 u1 u2 : Value) : ((((X.alloc o).setCell ⟨b1, 0, none⟩ u0).setCell ⟨b1, 1, none⟩ u1).setCell ⟨b1, 2, none⟩ u2).heap[X.heap.size]? = some o ∧ ((((X.alloc o).setCell ⟨b1, 0, none⟩ u0).setCell ⟨b1, 1, none⟩ u1).setCell ⟨b1, 2, none⟩ u2).heap[b1]? = some (.cells #[u0, u1, u2] 24) :=
  ⟨other3 (blk_new X o) (Nat.ne_of_lt (lt_of_blk h)) _ _ _, same3 (blk_alloc h _) _ _ _⟩
theorem set_facts {X : World} {b1 b2 : Nat} (h : X.heap[b2]? = some nilcells) (hne : b1 ≠ b2) :
    (∀ v0 v1 v2 : Value, (((X.setCell ⟨b1, 0, none⟩ v0).setCell ⟨b1, 1, none⟩ v1).setCell ⟨b1, 2, none⟩ v2).cell? ⟨b2, 0, none⟩ = some (.int .i64 0)) ∧ (∀ v0 v1 v2 : Value, (((X.setCell ⟨b1, 0, none⟩ v0).setCell ⟨b1, 1, none⟩ v1).setCell ⟨b1, 2, none⟩ v2).cell? ⟨b2, 1, none⟩ = some (.int .i64 0)) ∧ (∀ v0 v1 v2 : Value, (((X.setCell ⟨b1, 0, none⟩ v0).setCell ⟨b1, 1, none⟩ v1).setCell ⟨b1, 2, none⟩ v2).cell? ⟨b2, 2, none⟩ = some (.string ⟨#[]⟩)) ∧ (∀ v0 v1 v2 : Value, (((X.setCell ⟨b1, 0, none⟩ v0).setCell ⟨b1, 1, none⟩ v1).setCell ⟨b1, 2, none⟩ v2).frozen? ⟨b2, 0, none⟩ = false) ∧ (∀ v0 v1 v2 : Value, (((X.setCell ⟨b1, 0, none⟩ v0).setCell ⟨b1, 1, none⟩ v1).setCell ⟨b1, 2, none⟩ v2).frozen? ⟨b2, 1, none⟩ = false) ∧ (∀ v0 v1 v2 : Value, (((X.setCell ⟨b1, 0, none⟩ v0).setCell ⟨b1, 1, none⟩ v1).setCell ⟨b1, 2, none⟩ v2).frozen? ⟨b2, 2, none⟩ = false) :=
  ⟨fun _ _ _ => (res_facts (other3 h hne _ _ _)).1, fun _ _ _ => (res_facts (other3 h hne _ _ _)).2.1, fun _ _ _ => (res_facts (other3 h hne _ _ _)).2.2.1, fun _ _ _ => (res_facts (other3 h hne _ _ _)).2.2.2.1, fun _ _ _ => (res_facts (other3 h hne _ _ _)).2.2.2.2.1, fun _ _ _ => (res_facts (other3 h hne _ _ _)).2.2.2.2.2⟩
theorem all_facts {X : World} {b1 : Nat} (h : X.heap[b1]? = some nilcells) :
    (∀ v0 v1 v2 : Value, (X.alloc (.cells #[v0, v1, v2] 24)).cell? ⟨b1, 0, none⟩ = some (.int .i64 0)) ∧ (∀ v0 v1 v2 : Value, (X.alloc (.cells #[v0, v1, v2] 24)).cell? ⟨b1, 1, none⟩ = some (.int .i64 0)) ∧ (∀ v0 v1 v2 : Value, (X.alloc (.cells #[v0, v1, v2] 24)).cell? ⟨b1, 2, none⟩ = some (.string ⟨#[]⟩)) ∧ (∀ v0 v1 v2 : Value, (X.alloc (.cells #[v0, v1, v2] 24)).frozen? ⟨b1, 0, none⟩ = false) ∧ (∀ v0 v1 v2 : Value, (X.alloc (.cells #[v0, v1, v2] 24)).frozen? ⟨b1, 1, none⟩ = false) ∧ (∀ v0 v1 v2 : Value, (X.alloc (.cells #[v0, v1, v2] 24)).frozen? ⟨b1, 2, none⟩ = false) :=
  ⟨fun _ _ _ => (res_facts (blk_alloc h _)).1, fun _ _ _ => (res_facts (blk_alloc h _)).2.1, fun _ _ _ => (res_facts (blk_alloc h _)).2.2.1, fun _ _ _ => (res_facts (blk_alloc h _)).2.2.2.1, fun _ _ _ => (res_facts (blk_alloc h _)).2.2.2.2.1, fun _ _ _ => (res_facts (blk_alloc h _)).2.2.2.2.2⟩



theorem nc0 (X : World) (a b c : Value) : (X.alloc (.cells #[a, b, c] 24)).cell? ⟨X.heap.size, 0, none⟩ = some a := (three_cells X a b c _ (Below.refl _ _)).1
theorem nc1 (X : World) (a b c : Value) : (X.alloc (.cells #[a, b, c] 24)).cell? ⟨X.heap.size, 1, none⟩ = some b := (three_cells X a b c _ (Below.refl _ _)).2.1
theorem nc2 (X : World) (a b c : Value) : (X.alloc (.cells #[a, b, c] 24)).cell? ⟨X.heap.size, 2, none⟩ = some c := (three_cells X a b c _ (Below.refl _ _)).2.2
set_option maxHeartbeats 16000000 in
set_option maxRecDepth 10000 in
theorem logic_bad1 (c k n : Int) (t : ByteArray) (k2 n2 : Int) (t2 : ByteArray) (HM1 : Hid (∀ V, Calls Tryz.prog 6 #[.agg #[.int .i64 k, .int .i64 n, .string t]] V fun e w' => e = .returned (.bool false) ∧ Below V.heap.size V w')) (w : World) (hE : Env w) : Calls Tryz.prog 3 #[val k n t, val k2 n2 t2, .int .i64 c] w fun e w' => e = .returned (.bool true) ∧ Below w.heap.size w w' := by
  have HE : Hid (∀ V, Below w.heap.size w V → Env V) := fun V h => hE.below h
  have HE0 : Hid (Env ((w.alloc (vcells k n t)).alloc (vcells k2 n2 t2))) := hE.below (below_trans (new_below w _ rfl) (new_below _ _ rfl))
  have HW : Hid (∀ V, Below ((w.alloc (vcells k n t)).alloc (vcells k2 n2 t2)).heap.size ((w.alloc (vcells k n t)).alloc (vcells k2 n2 t2)) V → _) := two_later w (.int .i64 k) (.int .i64 n) (.string t) (.int .i64 k2) (.int .i64 n2) (.string t2) 24
  have HS1 : Hid (∀ V, Below ((w.alloc (vcells k n t)).alloc (vcells k2 n2 t2)).heap.size ((w.alloc (vcells k n t)).alloc (vcells k2 n2 t2)) V → (V.cell? ⟨w.heap.size, 0, none⟩ = some (.int .i64 k) ∧ V.cell? ⟨w.heap.size, 1, none⟩ = some (.int .i64 n) ∧ V.cell? ⟨w.heap.size, 2, none⟩ = some (.string t)) ∧ (V.cell? ⟨w.heap.size + 1, 0, none⟩ = some (.int .i64 k2) ∧ V.cell? ⟨w.heap.size + 1, 1, none⟩ = some (.int .i64 n2) ∧ V.cell? ⟨w.heap.size + 1, 2, none⟩ = some (.string t2))) := fun V h => ⟨(HW.out V h).1, (HW.out V h).2.1⟩
  have HBW : Hid (∀ V, Below ((w.alloc (vcells k n t)).alloc (vcells k2 n2 t2)).heap.size ((w.alloc (vcells k n t)).alloc (vcells k2 n2 t2)) V → Below w.heap.size w V) := fun V h => below_trans (below_trans (new_below w _ rfl) (new_below _ _ rfl)) h
  clear hE
  go_enter Tryz.func3, Tryz.ntmps3
  go_wp2_with (first
    | (go_at_call 5; with_reducible refine Calls.mono (head3_walk _ HE0.out) ?_; rintro e w1 ⟨rfl, hb1⟩; have HX1 := hide hb1; obtain ⟨⟨p0, p1_, p2_⟩, q0, q1_, q2_⟩ := HS1.out _ HX1.out; clear hb1)
    | (go_at_call 6; with_reducible refine Calls.mono (HM1.out _) ?_; rintro e w2 ⟨rfl, hb2⟩; have HX2 := hide (below_trans HX1.out hb2); obtain ⟨⟨p0, p1_, p2_⟩, q0, q1_, q2_⟩ := HS1.out _ HX2.out; clear hb2))
  go_ret
  exact ⟨rfl, HBW.out _ HX2.out⟩

set_option maxHeartbeats 16000000 in
set_option maxRecDepth 10000 in
theorem logic_bad2 (c k n : Int) (t : ByteArray) (k2 n2 : Int) (t2 : ByteArray) (HM1 : Hid (∀ V, Calls Tryz.prog 6 #[.agg #[.int .i64 k, .int .i64 n, .string t]] V fun e w' => e = .returned (.bool true) ∧ Below V.heap.size V w')) (HM2 : Hid (∀ V, Calls Tryz.prog 6 #[.agg #[.int .i64 k2, .int .i64 n2, .string t2]] V fun e w' => e = .returned (.bool false) ∧ Below V.heap.size V w')) (w : World) (hE : Env w) : Calls Tryz.prog 3 #[val k n t, val k2 n2 t2, .int .i64 c] w fun e w' => e = .returned (.bool true) ∧ Below w.heap.size w w' := by
  have HE : Hid (∀ V, Below w.heap.size w V → Env V) := fun V h => hE.below h
  have HE0 : Hid (Env ((w.alloc (vcells k n t)).alloc (vcells k2 n2 t2))) := hE.below (below_trans (new_below w _ rfl) (new_below _ _ rfl))
  have HW : Hid (∀ V, Below ((w.alloc (vcells k n t)).alloc (vcells k2 n2 t2)).heap.size ((w.alloc (vcells k n t)).alloc (vcells k2 n2 t2)) V → _) := two_later w (.int .i64 k) (.int .i64 n) (.string t) (.int .i64 k2) (.int .i64 n2) (.string t2) 24
  have HS1 : Hid (∀ V, Below ((w.alloc (vcells k n t)).alloc (vcells k2 n2 t2)).heap.size ((w.alloc (vcells k n t)).alloc (vcells k2 n2 t2)) V → (V.cell? ⟨w.heap.size, 0, none⟩ = some (.int .i64 k) ∧ V.cell? ⟨w.heap.size, 1, none⟩ = some (.int .i64 n) ∧ V.cell? ⟨w.heap.size, 2, none⟩ = some (.string t)) ∧ (V.cell? ⟨w.heap.size + 1, 0, none⟩ = some (.int .i64 k2) ∧ V.cell? ⟨w.heap.size + 1, 1, none⟩ = some (.int .i64 n2) ∧ V.cell? ⟨w.heap.size + 1, 2, none⟩ = some (.string t2))) := fun V h => ⟨(HW.out V h).1, (HW.out V h).2.1⟩
  have HBW : Hid (∀ V, Below ((w.alloc (vcells k n t)).alloc (vcells k2 n2 t2)).heap.size ((w.alloc (vcells k n t)).alloc (vcells k2 n2 t2)) V → Below w.heap.size w V) := fun V h => below_trans (below_trans (new_below w _ rfl) (new_below _ _ rfl)) h
  clear hE
  go_enter Tryz.func3, Tryz.ntmps3
  go_wp2_with (first
    | (go_at_call 5; with_reducible refine Calls.mono (head3_walk _ HE0.out) ?_; rintro e w1 ⟨rfl, hb1⟩; have HX1 := hide hb1; obtain ⟨⟨p0, p1_, p2_⟩, q0, q1_, q2_⟩ := HS1.out _ HX1.out; clear hb1)
    | (go_at_call 6; with_reducible refine Calls.mono (HM1.out _) ?_; rintro e w2 ⟨rfl, hb2⟩; have HX2 := hide (below_trans HX1.out hb2); obtain ⟨⟨p0, p1_, p2_⟩, q0, q1_, q2_⟩ := HS1.out _ HX2.out; clear hb2)
    | (go_at_call 6; with_reducible refine Calls.mono (HM2.out _) ?_; rintro e w5 ⟨rfl, hb5⟩; have HX5 := hide (below_trans HX2.out hb5); obtain ⟨⟨p0, p1_, p2_⟩, q0, q1_, q2_⟩ := HS1.out _ HX5.out; clear hb5))
  go_ret
  exact ⟨rfl, HBW.out _ HX5.out⟩

set_option maxHeartbeats 16000000 in
set_option maxRecDepth 10000 in
theorem logic_c (c k n : Int) (t : ByteArray) (k2 n2 : Int) (t2 : ByteArray) (u1 u2 s1 s2 p1 p2 q1 q2 z1 z2 v1 v2 e1 e2 f1 f2 l1 l2 g1 g2 h1 h2 i1 i2 j1 j2 m1 m2 : Int) (HM1 : Hid (∀ V, Calls Tryz.prog 6 #[.agg #[.int .i64 k, .int .i64 n, .string t]] V fun e w' => e = .returned (.bool true) ∧ Below V.heap.size V w')) (HM2 : Hid (∀ V, Calls Tryz.prog 6 #[.agg #[.int .i64 k2, .int .i64 n2, .string t2]] V fun e w' => e = .returned (.bool true) ∧ Below V.heap.size V w'))
    (NA : Hid (∀ V, Env V → Calls Tryz.prog 8 #[.agg #[.int .i64 k, .int .i64 n, .string t]] V fun e w' => e = .returned (.agg #[.int .i64 u1, .int .i64 u2, .string ⟨#[]⟩]) ∧ Below V.heap.size V w'))
    (NU : Hid (∀ V, Env V → Calls Tryz.prog 8 #[.agg #[.int .i64 u1, .int .i64 u2, .string ⟨#[]⟩]] V fun e w' => e = .returned (.agg #[.int .i64 s1, .int .i64 s2, .string ⟨#[]⟩]) ∧ Below V.heap.size V w'))
    (NS : Hid (∀ V, Env V → Calls Tryz.prog 8 #[.agg #[.int .i64 s1, .int .i64 s2, .string ⟨#[]⟩]] V fun e w' => e = .returned (.agg #[.int .i64 u1, .int .i64 u2, .string ⟨#[]⟩]) ∧ Below V.heap.size V w'))
    (NB : Hid (∀ V, Env V → Calls Tryz.prog 8 #[.agg #[.int .i64 k2, .int .i64 n2, .string t2]] V fun e w' => e = .returned (.agg #[.int .i64 v1, .int .i64 v2, .string ⟨#[]⟩]) ∧ Below V.heap.size V w'))
    (NP : Hid (∀ V, Env V → Calls Tryz.prog 8 #[.agg #[.int .i64 p1, .int .i64 p2, .string ⟨#[]⟩]] V fun e w' => e = .returned (.agg #[.int .i64 z1, .int .i64 z2, .string ⟨#[]⟩]) ∧ Below V.heap.size V w'))
    (AND : Hid (∀ V, Env V → Calls Tryz.prog 7 #[.int .i64 21, .agg #[.int .i64 k, .int .i64 n, .string t], .agg #[.int .i64 k2, .int .i64 n2, .string t2], .int .i64 c] V fun e w' => e = .returned (.agg #[.int .i64 p1, .int .i64 p2, .string ⟨#[]⟩]) ∧ Below V.heap.size V w'))
    (OR : Hid (∀ V, Env V → Calls Tryz.prog 7 #[.int .i64 22, .agg #[.int .i64 k, .int .i64 n, .string t], .agg #[.int .i64 k2, .int .i64 n2, .string t2], .int .i64 c] V fun e w' => e = .returned (.agg #[.int .i64 q1, .int .i64 q2, .string ⟨#[]⟩]) ∧ Below V.heap.size V w'))
    (AND2 : Hid (∀ V, Env V → Calls Tryz.prog 7 #[.int .i64 21, .agg #[.int .i64 k2, .int .i64 n2, .string t2], .agg #[.int .i64 k, .int .i64 n, .string t], .int .i64 c] V fun e w' => e = .returned (.agg #[.int .i64 p1, .int .i64 p2, .string ⟨#[]⟩]) ∧ Below V.heap.size V w'))
    (OR2 : Hid (∀ V, Env V → Calls Tryz.prog 7 #[.int .i64 22, .agg #[.int .i64 k2, .int .i64 n2, .string t2], .agg #[.int .i64 k, .int .i64 n, .string t], .int .i64 c] V fun e w' => e = .returned (.agg #[.int .i64 q1, .int .i64 q2, .string ⟨#[]⟩]) ∧ Below V.heap.size V w'))
    (OZ : Hid (∀ V, Env V → Calls Tryz.prog 7 #[.int .i64 22, .agg #[.int .i64 u1, .int .i64 u2, .string ⟨#[]⟩], .agg #[.int .i64 v1, .int .i64 v2, .string ⟨#[]⟩], .int .i64 c] V fun e w' => e = .returned (.agg #[.int .i64 z1, .int .i64 z2, .string ⟨#[]⟩]) ∧ Below V.heap.size V w'))
    (EQ : Hid (∀ V, Env V → Calls Tryz.prog 7 #[.int .i64 13, .agg #[.int .i64 k, .int .i64 n, .string t], .agg #[.int .i64 k2, .int .i64 n2, .string t2], .int .i64 c] V fun e w' => e = .returned (.agg #[.int .i64 e1, .int .i64 e2, .string ⟨#[]⟩]) ∧ Below V.heap.size V w'))
    (NE : Hid (∀ V, Env V → Calls Tryz.prog 7 #[.int .i64 14, .agg #[.int .i64 k, .int .i64 n, .string t], .agg #[.int .i64 k2, .int .i64 n2, .string t2], .int .i64 c] V fun e w' => e = .returned (.agg #[.int .i64 f1, .int .i64 f2, .string ⟨#[]⟩]) ∧ Below V.heap.size V w'))
    (NEQ : Hid (∀ V, Env V → Calls Tryz.prog 8 #[.agg #[.int .i64 e1, .int .i64 e2, .string ⟨#[]⟩]] V fun e w' => e = .returned (.agg #[.int .i64 f1, .int .i64 f2, .string ⟨#[]⟩]) ∧ Below V.heap.size V w'))
    (LT : Hid (∀ V, Env V → Calls Tryz.prog 7 #[.int .i64 15, .agg #[.int .i64 k, .int .i64 n, .string t], .agg #[.int .i64 k2, .int .i64 n2, .string t2], .int .i64 c] V fun e w' => e = .returned (.agg #[.int .i64 l1, .int .i64 l2, .string ⟨#[]⟩]) ∧ Below V.heap.size V w'))
    (GE : Hid (∀ V, Env V → Calls Tryz.prog 7 #[.int .i64 18, .agg #[.int .i64 k, .int .i64 n, .string t], .agg #[.int .i64 k2, .int .i64 n2, .string t2], .int .i64 c] V fun e w' => e = .returned (.agg #[.int .i64 g1, .int .i64 g2, .string ⟨#[]⟩]) ∧ Below V.heap.size V w'))
    (NLT : Hid (∀ V, Env V → Calls Tryz.prog 8 #[.agg #[.int .i64 l1, .int .i64 l2, .string ⟨#[]⟩]] V fun e w' => e = .returned (.agg #[.int .i64 g1, .int .i64 g2, .string ⟨#[]⟩]) ∧ Below V.heap.size V w'))
    (LE : Hid (∀ V, Env V → Calls Tryz.prog 7 #[.int .i64 16, .agg #[.int .i64 k, .int .i64 n, .string t], .agg #[.int .i64 k2, .int .i64 n2, .string t2], .int .i64 c] V fun e w' => e = .returned (.agg #[.int .i64 h1, .int .i64 h2, .string ⟨#[]⟩]) ∧ Below V.heap.size V w'))
    (GT : Hid (∀ V, Env V → Calls Tryz.prog 7 #[.int .i64 17, .agg #[.int .i64 k, .int .i64 n, .string t], .agg #[.int .i64 k2, .int .i64 n2, .string t2], .int .i64 c] V fun e w' => e = .returned (.agg #[.int .i64 i1, .int .i64 i2, .string ⟨#[]⟩]) ∧ Below V.heap.size V w'))
    (NLE : Hid (∀ V, Env V → Calls Tryz.prog 8 #[.agg #[.int .i64 h1, .int .i64 h2, .string ⟨#[]⟩]] V fun e w' => e = .returned (.agg #[.int .i64 i1, .int .i64 i2, .string ⟨#[]⟩]) ∧ Below V.heap.size V w'))
    (IS : Hid (∀ V, Env V → Calls Tryz.prog 7 #[.int .i64 19, .agg #[.int .i64 k, .int .i64 n, .string t], .agg #[.int .i64 k2, .int .i64 n2, .string t2], .int .i64 c] V fun e w' => e = .returned (.agg #[.int .i64 j1, .int .i64 j2, .string ⟨#[]⟩]) ∧ Below V.heap.size V w'))
    (ISN : Hid (∀ V, Env V → Calls Tryz.prog 7 #[.int .i64 20, .agg #[.int .i64 k, .int .i64 n, .string t], .agg #[.int .i64 k2, .int .i64 n2, .string t2], .int .i64 c] V fun e w' => e = .returned (.agg #[.int .i64 m1, .int .i64 m2, .string ⟨#[]⟩]) ∧ Below V.heap.size V w'))
    (NIS : Hid (∀ V, Env V → Calls Tryz.prog 8 #[.agg #[.int .i64 j1, .int .i64 j2, .string ⟨#[]⟩]] V fun e w' => e = .returned (.agg #[.int .i64 m1, .int .i64 m2, .string ⟨#[]⟩]) ∧ Below V.heap.size V w'))
    (GT2 : Hid (∀ V, Env V → Calls Tryz.prog 7 #[.int .i64 17, .agg #[.int .i64 k2, .int .i64 n2, .string t2], .agg #[.int .i64 k, .int .i64 n, .string t], .int .i64 c] V fun e w' => e = .returned (.agg #[.int .i64 l1, .int .i64 l2, .string ⟨#[]⟩]) ∧ Below V.heap.size V w'))
    (IN : Hid (∀ V g, Env V → V.cell? ⟨g, 0, none⟩ = some (.int .i64 k2) → V.cell? ⟨g, 1, none⟩ = some (.int .i64 n2) → V.cell? ⟨g, 2, none⟩ = some (.string t2) → Calls Tryz.prog 9 #[.agg #[.int .i64 k, .int .i64 n, .string t], .slice (some ⟨g, 0, none⟩) 1 1, .int .i64 c] V fun e w' => e = .returned (.agg #[.int .i64 e1, .int .i64 e2, .string ⟨#[]⟩]) ∧ Below V.heap.size V w'))
    (w : World) (hE : Env w) : Calls Tryz.prog 3 #[val k n t, val k2 n2 t2, .int .i64 c] w fun e w' => e = .returned (.bool true) ∧ Below w.heap.size w w' := by
  have HE : Hid (∀ V, Below w.heap.size w V → Env V) := fun V h => hE.below h
  have HE0 : Hid (Env ((w.alloc (vcells k n t)).alloc (vcells k2 n2 t2))) := hE.below (below_trans (new_below w _ rfl) (new_below _ _ rfl))
  have HW : Hid (∀ V, Below ((w.alloc (vcells k n t)).alloc (vcells k2 n2 t2)).heap.size ((w.alloc (vcells k n t)).alloc (vcells k2 n2 t2)) V → _) := two_later w (.int .i64 k) (.int .i64 n) (.string t) (.int .i64 k2) (.int .i64 n2) (.string t2) 24
  have HS1 : Hid (∀ V, Below ((w.alloc (vcells k n t)).alloc (vcells k2 n2 t2)).heap.size ((w.alloc (vcells k n t)).alloc (vcells k2 n2 t2)) V → (V.cell? ⟨w.heap.size, 0, none⟩ = some (.int .i64 k) ∧ V.cell? ⟨w.heap.size, 1, none⟩ = some (.int .i64 n) ∧ V.cell? ⟨w.heap.size, 2, none⟩ = some (.string t)) ∧ (V.cell? ⟨w.heap.size + 1, 0, none⟩ = some (.int .i64 k2) ∧ V.cell? ⟨w.heap.size + 1, 1, none⟩ = some (.int .i64 n2) ∧ V.cell? ⟨w.heap.size + 1, 2, none⟩ = some (.string t2))) := fun V h => ⟨(HW.out V h).1, (HW.out V h).2.1⟩
  have HBW : Hid (∀ V, Below ((w.alloc (vcells k n t)).alloc (vcells k2 n2 t2)).heap.size ((w.alloc (vcells k n t)).alloc (vcells k2 n2 t2)) V → Below w.heap.size w V) := fun V h => below_trans (below_trans (new_below w _ rfl) (new_below _ _ rfl)) h
  clear hE
  go_enter Tryz.func3, Tryz.ntmps3
  go_wp2_with (first
    | (go_at_call 5; with_reducible refine Calls.mono (head3_walk _ HE0.out) ?_; rintro e w1 ⟨rfl, hb1⟩; have HX1 := hide hb1; obtain ⟨⟨p0, p1_, p2_⟩, q0, q1_, q2_⟩ := HS1.out _ HX1.out; clear hb1)
    | (go_at_call 6; with_reducible refine Calls.mono (HM1.out _) ?_; rintro e w2 ⟨rfl, hb2⟩; have HX2 := hide (below_trans HX1.out hb2); obtain ⟨⟨p0, p1_, p2_⟩, q0, q1_, q2_⟩ := HS1.out _ HX2.out; clear hb2)
    | (go_at_call 6; with_reducible refine Calls.mono (HM2.out _) ?_; rintro e w5 ⟨rfl, hb5⟩; have HX5 := hide (below_trans HX2.out hb5); obtain ⟨⟨p0, p1_, p2_⟩, q0, q1_, q2_⟩ := HS1.out _ HX5.out; clear hb5))
  go_upto_region 6 with fail
  go_cut [8, 9] from 21 (fun v8 v9 V => ∃ bp bo : Nat, v8 = .pointer (some ⟨bp, 0, none⟩) ∧ v9 = .pointer (some ⟨bo, 0, none⟩) ∧ V.heap[bp]? = some (vcells p1 p2 ⟨#[]⟩) ∧ V.heap[bo]? = some (vcells q1 q2 ⟨#[]⟩) ∧ Below w5.heap.size w5 V)
  case first =>
    clear p0 p1_ p2_ q0 q1_ q2_
    have HE5 : Hid (∀ V, Below w5.heap.size w5 V → Env V) := fun V h => HE.out _ (HBW.out _ (below_trans HX5.out h))
    have HS5 : Hid (∀ V, Below w5.heap.size w5 V → (V.cell? ⟨w.heap.size, 0, none⟩ = some (.int .i64 k) ∧ V.cell? ⟨w.heap.size, 1, none⟩ = some (.int .i64 n) ∧ V.cell? ⟨w.heap.size, 2, none⟩ = some (.string t)) ∧ (V.cell? ⟨w.heap.size + 1, 0, none⟩ = some (.int .i64 k2) ∧ V.cell? ⟨w.heap.size + 1, 1, none⟩ = some (.int .i64 n2) ∧ V.cell? ⟨w.heap.size + 1, 2, none⟩ = some (.string t2))) := fun V h => HS1.out V (below_trans HX5.out h)
    have HR5 : Hid (Below w5.heap.size w5 w5) := Below.refl _ _
    have HD5 : Hid (Below w5.heap.size w5 w5.drew) := (Below.refl _ _).drew
    go_region_held3 (fun V => (V.cell? ⟨w.heap.size, 0, none⟩ = some (.int .i64 k) ∧ V.cell? ⟨w.heap.size, 1, none⟩ = some (.int .i64 n) ∧ V.cell? ⟨w.heap.size, 2, none⟩ = some (.string t)) ∧ (V.cell? ⟨w.heap.size + 1, 0, none⟩ = some (.int .i64 k2) ∧ V.cell? ⟨w.heap.size + 1, 1, none⟩ = some (.int .i64 n2) ∧ V.cell? ⟨w.heap.size + 1, 2, none⟩ = some (.string t2))) (first | with_reducible exact HS5.out _ (by (repeat (first | with_reducible exact HX7.out | with_reducible exact HX6.out | with_reducible exact HD5.out | with_reducible exact HR5.out | with_reducible refine bl_drew ?_ | with_reducible refine bl_alloc ?_ _ | (with_reducible refine bl_set ?_ (by (first | with_reducible exact HX7.out.size | with_reducible exact Nat.le_succ_of_le HX7.out.size | with_reducible exact HX6.out.size | with_reducible exact Nat.le_succ_of_le HX6.out.size | with_reducible exact Nat.le_refl _ | with_reducible exact Nat.le_succ _)) _))))) (first
      | (go_at_call 7; with_reducible refine Calls.mono (AND.out _ (HE5.out _ (by (repeat (first | with_reducible exact HX7.out | with_reducible exact HX6.out | with_reducible exact HD5.out | with_reducible exact HR5.out | with_reducible refine bl_drew ?_ | with_reducible refine bl_alloc ?_ _ | (with_reducible refine bl_set ?_ (by (first | with_reducible exact HX7.out.size | with_reducible exact Nat.le_succ_of_le HX7.out.size | with_reducible exact HX6.out.size | with_reducible exact Nat.le_succ_of_le HX6.out.size | with_reducible exact Nat.le_refl _ | with_reducible exact Nat.le_succ _)) _)))))) ?_; rintro e w6 ⟨rfl, hb6⟩; have HX6 := hide (below_trans (w := w5) (by (repeat (first | with_reducible exact HX7.out | with_reducible exact HX6.out | with_reducible exact HD5.out | with_reducible exact HR5.out | with_reducible refine bl_drew ?_ | with_reducible refine bl_alloc ?_ _ | (with_reducible refine bl_set ?_ (by (first | with_reducible exact HX7.out.size | with_reducible exact Nat.le_succ_of_le HX7.out.size | with_reducible exact HX6.out.size | with_reducible exact Nat.le_succ_of_le HX6.out.size | with_reducible exact Nat.le_refl _ | with_reducible exact Nat.le_succ _)) _)))) hb6); (first | have KP6 := hide (pair2 (pair_nnd w5) hb6) | have K6 := hide (one_later (one_newd w5) hb6) | skip); clear hb6)
      | (go_at_call 7; with_reducible refine Calls.mono (OR.out _ (HE5.out _ (by (repeat (first | with_reducible exact HX7.out | with_reducible exact HX6.out | with_reducible exact HD5.out | with_reducible exact HR5.out | with_reducible refine bl_drew ?_ | with_reducible refine bl_alloc ?_ _ | (with_reducible refine bl_set ?_ (by (first | with_reducible exact HX7.out.size | with_reducible exact Nat.le_succ_of_le HX7.out.size | with_reducible exact HX6.out.size | with_reducible exact Nat.le_succ_of_le HX6.out.size | with_reducible exact Nat.le_refl _ | with_reducible exact Nat.le_succ _)) _)))))) ?_; rintro e w7 ⟨rfl, hb7⟩; have HX7 := hide (below_trans (w := w5) (by (repeat (first | with_reducible exact HX7.out | with_reducible exact HX6.out | with_reducible exact HD5.out | with_reducible exact HR5.out | with_reducible refine bl_drew ?_ | with_reducible refine bl_alloc ?_ _ | (with_reducible refine bl_set ?_ (by (first | with_reducible exact HX7.out.size | with_reducible exact Nat.le_succ_of_le HX7.out.size | with_reducible exact HX6.out.size | with_reducible exact Nat.le_succ_of_le HX6.out.size | with_reducible exact Nat.le_refl _ | with_reducible exact Nat.le_succ _)) _)))) hb7); (first | (have KP := hide (pair2 KP6.out hb7); obtain ⟨ga0, ga1, ga2, ga3, ga4, ga5⟩ := res_facts (pair_a KP.out); obtain ⟨gb0, gb1, gb2, gb3, gb4, gb5⟩ := res_facts (pair_b KP.out); obtain ⟨gc0, gc1, gc2, gc3, gc4, gc5⟩ := set_facts (pair_b KP.out) (pair_ne KP.out); obtain ⟨gd0, gd1, gd2, gd3, gd4, gd5⟩ := set_facts (pair_a KP.out) (pair_en KP.out)) | (have KP := hide (pair2 (pair_new K6.out) hb7); obtain ⟨ga0, ga1, ga2, ga3, ga4, ga5⟩ := res_facts (pair_a KP.out); obtain ⟨gb0, gb1, gb2, gb3, gb4, gb5⟩ := res_facts (pair_b KP.out); obtain ⟨gc0, gc1, gc2, gc3, gc4, gc5⟩ := set_facts (pair_b KP.out) (pair_ne KP.out); obtain ⟨gd0, gd1, gd2, gd3, gd4, gd5⟩ := set_facts (pair_a KP.out) (pair_en KP.out)) | (have KP := hide (pair2 (pair_nn w6) hb7); obtain ⟨ga0, ga1, ga2, ga3, ga4, ga5⟩ := res_facts (pair_a KP.out); obtain ⟨gb0, gb1, gb2, gb3, gb4, gb5⟩ := res_facts (pair_b KP.out); obtain ⟨gc0, gc1, gc2, gc3, gc4, gc5⟩ := set_facts (pair_b KP.out) (pair_ne KP.out); obtain ⟨gd0, gd1, gd2, gd3, gd4, gd5⟩ := set_facts (pair_a KP.out) (pair_en KP.out)) | (have K7 := hide (one_later K6.out hb7); have KP := hide (pair_new K7.out); obtain ⟨ga0, ga1, ga2, ga3, ga4, ga5⟩ := res_facts K7.out; obtain ⟨gb0, gb1, gb2, gb3, gb4, gb5⟩ := all_facts K7.out; obtain ⟨gc0, gc1, gc2, gc3, gc4, gc5⟩ := set_facts (pair_b KP.out) (pair_ne KP.out)) | (have K7 := hide (one_later (one_new w6) hb7); have KP := hide (pair_new K7.out); obtain ⟨ga0, ga1, ga2, ga3, ga4, ga5⟩ := res_facts K7.out; obtain ⟨gb0, gb1, gb2, gb3, gb4, gb5⟩ := all_facts K7.out; obtain ⟨gc0, gc1, gc2, gc3, gc4, gc5⟩ := set_facts (pair_b KP.out) (pair_ne KP.out)) | have KP := hide (pair_nn w7)); clear hb7))
    all_goals go_wp2_with fail
    all_goals go_meet
    all_goals with_reducible refine ⟨_, _, rfl, rfl, ?_, ?_, ?_⟩
    all_goals first
      | with_reducible exact (fin1 KP.out _ _ _ _ _ _).1
      | with_reducible exact (fin1 KP.out _ _ _ _ _ _).2
      | with_reducible exact (fin2 KP.out _ _ _ _ _ _).1
      | with_reducible exact (fin2 KP.out _ _ _ _ _ _).2
      | with_reducible exact (fin3 K7.out _ _ _ _).1
      | with_reducible exact (fin3 K7.out _ _ _ _).2
      | with_reducible exact blk_alloc (blk_new w7 _) _
      | with_reducible exact blk_new2 w7 _ _
      | ((repeat (first | with_reducible exact HX7.out | with_reducible exact HX6.out | with_reducible exact HD5.out | with_reducible exact HR5.out | with_reducible refine bl_drew ?_ | with_reducible refine bl_alloc ?_ _ | (with_reducible refine bl_set ?_ (by (first | with_reducible exact HX7.out.size | with_reducible exact Nat.le_succ_of_le HX7.out.size | with_reducible exact HX6.out.size | with_reducible exact Nat.le_succ_of_le HX6.out.size | with_reducible exact Nat.le_refl _ | with_reducible exact Nat.le_succ _)) _))); done)
  case rest =>
    obtain ⟨bp, bo, rfl, rfl, hbp, hbo, hx8⟩ := hcut
    clear p0 p1_ p2_ q0 q1_ q2_
    obtain ⟨w8, hw8⟩ : ∃ v, v = wc := ⟨_, rfl⟩
    subst hw8
    have HX8 := hide (below_trans HX5.out hx8)
    have HK8 := hide (And.intro hbp hbo)
    clear hx8 hbp hbo
    have HS8 : Hid (∀ V, Below w8.heap.size w8 V → (V.cell? ⟨w.heap.size, 0, none⟩ = some (.int .i64 k) ∧ V.cell? ⟨w.heap.size, 1, none⟩ = some (.int .i64 n) ∧ V.cell? ⟨w.heap.size, 2, none⟩ = some (.string t)) ∧ (V.cell? ⟨w.heap.size + 1, 0, none⟩ = some (.int .i64 k2) ∧ V.cell? ⟨w.heap.size + 1, 1, none⟩ = some (.int .i64 n2) ∧ V.cell? ⟨w.heap.size + 1, 2, none⟩ = some (.string t2)) ∧ (V.cell? ⟨bp, 0, none⟩ = some (.int .i64 p1) ∧ V.cell? ⟨bp, 1, none⟩ = some (.int .i64 p2) ∧ V.cell? ⟨bp, 2, none⟩ = some (.string ⟨#[]⟩)) ∧ (V.cell? ⟨bo, 0, none⟩ = some (.int .i64 q1) ∧ V.cell? ⟨bo, 1, none⟩ = some (.int .i64 q2) ∧ V.cell? ⟨bo, 2, none⟩ = some (.string ⟨#[]⟩))) := fun V h => by
      obtain ⟨pp, qq⟩ := HS1.out V (below_trans HX8.out h)
      have hq := res_facts (blk_later HK8.out.1 h)
      have hr := res_facts (blk_later HK8.out.2 h)
      exact ⟨pp, qq, ⟨hq.1, hq.2.1, hq.2.2.1⟩, ⟨hr.1, hr.2.1, hr.2.2.1⟩⟩
    have HBW8 : Hid (∀ V, Below w8.heap.size w8 V → Below w.heap.size w V) := fun V h => HBW.out _ (below_trans HX8.out h)
    have HE8 : Hid (∀ V, Below w8.heap.size w8 V → Env V) := fun V h => HE.out _ (HBW8.out _ h)
    go_upto_region 7 with fail
    have HXc : Hid (Below w8.heap.size w8 w8.drew) := (Below.refl _ _).drew
    go_region_held3 (fun V => (V.cell? ⟨w.heap.size, 0, none⟩ = some (.int .i64 k) ∧ V.cell? ⟨w.heap.size, 1, none⟩ = some (.int .i64 n) ∧ V.cell? ⟨w.heap.size, 2, none⟩ = some (.string t)) ∧ (V.cell? ⟨w.heap.size + 1, 0, none⟩ = some (.int .i64 k2) ∧ V.cell? ⟨w.heap.size + 1, 1, none⟩ = some (.int .i64 n2) ∧ V.cell? ⟨w.heap.size + 1, 2, none⟩ = some (.string t2)) ∧ (V.cell? ⟨bp, 0, none⟩ = some (.int .i64 p1) ∧ V.cell? ⟨bp, 1, none⟩ = some (.int .i64 p2) ∧ V.cell? ⟨bp, 2, none⟩ = some (.string ⟨#[]⟩)) ∧ (V.cell? ⟨bo, 0, none⟩ = some (.int .i64 q1) ∧ V.cell? ⟨bo, 1, none⟩ = some (.int .i64 q2) ∧ V.cell? ⟨bo, 2, none⟩ = some (.string ⟨#[]⟩))) (first | with_reducible exact HS8.out _ HXc.out) (first
        | (go_at_call 8; with_reducible refine Calls.mono (NA.out _ (HE8.out _ HXc.out)) ?_; rintro e wz ⟨rfl, hbz⟩; have HXc := hide (below_trans HXc.out hbz); clear hbz)
        | (go_at_call 8; with_reducible refine Calls.mono (NU.out _ (HE8.out _ HXc.out)) ?_; rintro e wz ⟨rfl, hbz⟩; have HXc := hide (below_trans HXc.out hbz); clear hbz)
        | (go_at_call 8; with_reducible refine Calls.mono (NS.out _ (HE8.out _ HXc.out)) ?_; rintro e wz ⟨rfl, hbz⟩; have HXc := hide (below_trans HXc.out hbz); clear hbz)
        | (go_at_call 8; with_reducible refine Calls.mono (NB.out _ (HE8.out _ HXc.out)) ?_; rintro e wz ⟨rfl, hbz⟩; have HXc := hide (below_trans HXc.out hbz); clear hbz)
        | (go_at_call 8; with_reducible refine Calls.mono (NP.out _ (HE8.out _ HXc.out)) ?_; rintro e wz ⟨rfl, hbz⟩; have HXc := hide (below_trans HXc.out hbz); clear hbz)
        | (go_at_call 7; with_reducible refine Calls.mono (AND2.out _ (HE8.out _ HXc.out)) ?_; rintro e wz ⟨rfl, hbz⟩; have HXc := hide (below_trans HXc.out hbz); clear hbz)
        | (go_at_call 7; with_reducible refine Calls.mono (OR2.out _ (HE8.out _ HXc.out)) ?_; rintro e wz ⟨rfl, hbz⟩; have HXc := hide (below_trans HXc.out hbz); clear hbz)
        | (go_at_call 7; with_reducible refine Calls.mono (OZ.out _ (HE8.out _ HXc.out)) ?_; rintro e wz ⟨rfl, hbz⟩; have HXc := hide (below_trans HXc.out hbz); clear hbz))
    go_upto_region 9 with fail
    have HXc := hide (bl_drew HXc.out)
    go_region_held3 (fun V => (V.cell? ⟨w.heap.size, 0, none⟩ = some (.int .i64 k) ∧ V.cell? ⟨w.heap.size, 1, none⟩ = some (.int .i64 n) ∧ V.cell? ⟨w.heap.size, 2, none⟩ = some (.string t)) ∧ (V.cell? ⟨w.heap.size + 1, 0, none⟩ = some (.int .i64 k2) ∧ V.cell? ⟨w.heap.size + 1, 1, none⟩ = some (.int .i64 n2) ∧ V.cell? ⟨w.heap.size + 1, 2, none⟩ = some (.string t2)) ∧ (V.cell? ⟨bp, 0, none⟩ = some (.int .i64 p1) ∧ V.cell? ⟨bp, 1, none⟩ = some (.int .i64 p2) ∧ V.cell? ⟨bp, 2, none⟩ = some (.string ⟨#[]⟩)) ∧ (V.cell? ⟨bo, 0, none⟩ = some (.int .i64 q1) ∧ V.cell? ⟨bo, 1, none⟩ = some (.int .i64 q2) ∧ V.cell? ⟨bo, 2, none⟩ = some (.string ⟨#[]⟩))) (first | with_reducible exact HS8.out _ HXc.out) (first
        | (go_at_call 7; with_reducible refine Calls.mono (NE.out _ (HE8.out _ HXc.out)) ?_; rintro e wz ⟨rfl, hbz⟩; have HXc := hide (below_trans HXc.out hbz); clear hbz)
        | (go_at_call 7; with_reducible refine Calls.mono (EQ.out _ (HE8.out _ HXc.out)) ?_; rintro e wz ⟨rfl, hbz⟩; have HXc := hide (below_trans HXc.out hbz); clear hbz)
        | (go_at_call 8; with_reducible refine Calls.mono (NEQ.out _ (HE8.out _ HXc.out)) ?_; rintro e wz ⟨rfl, hbz⟩; have HXc := hide (below_trans HXc.out hbz); clear hbz)
        | (go_at_call 7; with_reducible refine Calls.mono (GE.out _ (HE8.out _ HXc.out)) ?_; rintro e wz ⟨rfl, hbz⟩; have HXc := hide (below_trans HXc.out hbz); clear hbz)
        | (go_at_call 7; with_reducible refine Calls.mono (LT.out _ (HE8.out _ HXc.out)) ?_; rintro e wz ⟨rfl, hbz⟩; have HXc := hide (below_trans HXc.out hbz); clear hbz)
        | (go_at_call 8; with_reducible refine Calls.mono (NLT.out _ (HE8.out _ HXc.out)) ?_; rintro e wz ⟨rfl, hbz⟩; have HXc := hide (below_trans HXc.out hbz); clear hbz)
        | (go_at_call 7; with_reducible refine Calls.mono (GT.out _ (HE8.out _ HXc.out)) ?_; rintro e wz ⟨rfl, hbz⟩; have HXc := hide (below_trans HXc.out hbz); clear hbz)
        | (go_at_call 7; with_reducible refine Calls.mono (LE.out _ (HE8.out _ HXc.out)) ?_; rintro e wz ⟨rfl, hbz⟩; have HXc := hide (below_trans HXc.out hbz); clear hbz)
        | (go_at_call 8; with_reducible refine Calls.mono (NLE.out _ (HE8.out _ HXc.out)) ?_; rintro e wz ⟨rfl, hbz⟩; have HXc := hide (below_trans HXc.out hbz); clear hbz)
        | (go_at_call 7; with_reducible refine Calls.mono (ISN.out _ (HE8.out _ HXc.out)) ?_; rintro e wz ⟨rfl, hbz⟩; have HXc := hide (below_trans HXc.out hbz); clear hbz)
        | (go_at_call 7; with_reducible refine Calls.mono (IS.out _ (HE8.out _ HXc.out)) ?_; rintro e wz ⟨rfl, hbz⟩; have HXc := hide (below_trans HXc.out hbz); clear hbz)
        | (go_at_call 8; with_reducible refine Calls.mono (NIS.out _ (HE8.out _ HXc.out)) ?_; rintro e wz ⟨rfl, hbz⟩; have HXc := hide (below_trans HXc.out hbz); clear hbz))
    go_upto_region 11 with fail
    have HXc := hide (bl_drew HXc.out)
    go_region_held3 (fun V => (V.cell? ⟨w.heap.size, 0, none⟩ = some (.int .i64 k) ∧ V.cell? ⟨w.heap.size, 1, none⟩ = some (.int .i64 n) ∧ V.cell? ⟨w.heap.size, 2, none⟩ = some (.string t)) ∧ (V.cell? ⟨w.heap.size + 1, 0, none⟩ = some (.int .i64 k2) ∧ V.cell? ⟨w.heap.size + 1, 1, none⟩ = some (.int .i64 n2) ∧ V.cell? ⟨w.heap.size + 1, 2, none⟩ = some (.string t2)) ∧ (V.cell? ⟨bp, 0, none⟩ = some (.int .i64 p1) ∧ V.cell? ⟨bp, 1, none⟩ = some (.int .i64 p2) ∧ V.cell? ⟨bp, 2, none⟩ = some (.string ⟨#[]⟩)) ∧ (V.cell? ⟨bo, 0, none⟩ = some (.int .i64 q1) ∧ V.cell? ⟨bo, 1, none⟩ = some (.int .i64 q2) ∧ V.cell? ⟨bo, 2, none⟩ = some (.string ⟨#[]⟩))) (first | with_reducible exact HS8.out _ HXc.out | with_reducible exact HS8.out _ (bl_alloc HXc.out _)) (first
        | (go_at_call 7; with_reducible refine Calls.mono (LT.out _ (HE8.out _ HXc.out)) ?_; rintro e wz ⟨rfl, hbz⟩; have HXc := hide (below_trans HXc.out hbz); clear hbz)
        | (go_at_call 7; with_reducible refine Calls.mono (GT2.out _ (HE8.out _ HXc.out)) ?_; rintro e wz ⟨rfl, hbz⟩; have HXc := hide (below_trans HXc.out hbz); clear hbz)
        | (go_at_call 7; with_reducible refine Calls.mono (EQ.out _ (HE8.out _ HXc.out)) ?_; rintro e wz ⟨rfl, hbz⟩; have HXc := hide (below_trans HXc.out hbz); clear hbz)
        | (go_at_call 9; with_reducible refine Calls.mono (IN.out _ _ (HE8.out _ (bl_alloc HXc.out _)) (nc0 _ _ _ _) (nc1 _ _ _ _) (nc2 _ _ _ _)) ?_; rintro e wz ⟨rfl, hbz⟩; have HXc := hide (below_trans (bl_alloc HXc.out _) hbz); clear hbz))
    all_goals (try go_wp2)
    all_goals go_ret
    all_goals exact ⟨by simp, HBW8.out _ HXc.out⟩
end Go.Proofs.YtoekdeoekcmpgabGreatDoor
