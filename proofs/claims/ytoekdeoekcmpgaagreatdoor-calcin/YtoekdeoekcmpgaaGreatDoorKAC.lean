/- Package calc: AffOf, and the document's. -/
import Derived.Test.YtoekdeoekcmpgaaGreatDoorKJ
import Derived.Test.YtoekdeoekcmpgaaGreatDoorKP
import Derived.Test.YtoekdeoekcmpgaaGreatDoorVC
import Derived.Test.YtoekdeoekcmpgaaGreatDoorFO
namespace Go.Proofs.YtoekdeoekcmpgaaGreatDoor
open Go.ChangeShapes Go.WideShapes Go.ChangeAt Go.RowKit
set_option linter.unusedVariables false

set_option maxHeartbeats 1000000 in
theorem equal_walk (a b : ByteArray) (ha : a.size ≤ 140737488355328) (hb : b.size ≤ 140737488355328) (c : Int) (w : World) : Calls Tryz.prog 57 #[.string a, .string b, .int .i64 c] w fun e w' => e = .returned (.bool (cmpL (foldL c a.data.toList) (foldL c b.data.toList) == 0)) ∧ Below w.heap.size w w' := by
  obtain ⟨x1, hx1⟩ : ∃ x, cntS c a = x := ⟨_, rfl⟩
  obtain ⟨x2, hx2⟩ : ∃ x, cntS c b = x := ⟨_, rfl⟩
  obtain ⟨fn, hfn⟩ : ∃ fn, collF c = .func (.func fn) #[] #[] := by unfold collF; split <;> exact ⟨_, rfl⟩
  obtain ⟨R, hR⟩ : ∃ R, cmpL (foldL c a.data.toList) (foldL c b.data.toList) = R := ⟨_, rfl⟩
  have HC1 : Hid (∀ V, Calls Tryz.prog 94 #[.string a, .int .i64 c] V fun e w' => e = .returned (.string x1) ∧ V = w') := fun V => by have := counted_walk a ha c V; rw [hx1] at this; exact this
  have HC2 : Hid (∀ V, Calls Tryz.prog 94 #[.string b, .int .i64 c] V fun e w' => e = .returned (.string x2) ∧ V = w') := fun V => by have := counted_walk b hb c V; rw [hx2] at this; exact this
  have HF : Hid (∀ V, Calls Tryz.prog 95 #[.int .i64 c] V fun e w' => e = .returned (.func (.func fn) #[] #[]) ∧ V = w') := fun V => by have := byColl_walk c V; rw [hfn] at this; exact this
  have HB : Hid (∀ V, Calls Tryz.prog 93 #[.string x1, .string x2, .func (.func fn) #[] #[]] V fun e w' => e = .returned (.int .i64 R) ∧ Below V.heap.size V w') := fun V => by have := cmpColl a b ha hb c V; rw [hx1, hx2, hfn, hR] at this; exact this
  rw [hR]
  clear hx1 hx2 hfn hR
  go_enter Tryz.func57, Tryz.ntmps57
  go_wp2_with (first
    | (go_at_call 94; with_reducible refine Calls.mono (HC1.out _) ?_; rintro e w1 ⟨rfl, rfl⟩)
    | (go_at_call 94; with_reducible refine Calls.mono (HC2.out _) ?_; rintro e w1 ⟨rfl, rfl⟩)
    | (go_at_call 95; with_reducible refine Calls.mono (HF.out _) ?_; rintro e w1 ⟨rfl, rfl⟩)
    | (go_at_call 93; with_reducible refine Calls.mono (HB.out _) ?_; rintro e w1 ⟨rfl, hb1⟩))
  go_ret
  exact ⟨rfl, hb1⟩

set_option maxHeartbeats 1000000 in
theorem is_walk (a b : ByteArray) (ha : a.size ≤ 140737488351232) (hb : b.size ≤ 1000) (r : Bool) (hr : (cmpL (foldL 1 a.data.toList) (foldL 1 b.data.toList) == 0) = r) (p : Nat) (w : World) (hp : w.cell? ⟨p, 0, none⟩ = some (.string a)) :
    Calls Tryz.prog 56 #[.string b, .pointer (some ⟨p, 0, none⟩)] w fun e w' => e = .returned (.bool r) ∧ Below w.heap.size w w' := by
  have HQ : Hid (∀ V, Calls Tryz.prog 57 #[.string a, .string b, .int .i64 1] V fun e w' => e = .returned (.bool r) ∧ Below V.heap.size V w') := fun V => by have := equal_walk a b (by omega) (by omega) 1 V; rw [hr] at this; exact this
  clear hr
  go_enter Tryz.func56, Tryz.ntmps56
  go_wp2_with (first
    | (go_at_call 57; with_reducible refine Calls.mono (HQ.out _) ?_; rintro e w1 ⟨rfl, hb1⟩))
  go_ret
  exact ⟨rfl, hb1⟩

theorem new_cell (w : World) (v : Value) (T : TypeId) {V : World} (h : Below (w.alloc (.cells #[v] T)).heap.size (w.alloc (.cells #[v] T)) V) : V.cell? ⟨w.heap.size, 0, none⟩ = some v :=
  cell_later h (new_cells w _ _ rfl 0 _ rfl)

/-- A type's affinity by its name in small letters, and whether it is one. -/
def affK (l : List UInt8) : Int := if l = [105, 110, 116, 101, 103, 101, 114] ∨ l = [105, 110, 116] then 1 else if l = [116, 101, 120, 116] then 2 else 0
def affB (l : List UInt8) : Bool := decide (l = [105, 110, 116, 101, 103, 101, 114] ∨ l = [105, 110, 116] ∨ l = [116, 101, 120, 116] ∨ l = [98, 108, 111, 98] ∨ l = [])
theorem same_name (a b : List UInt8) : (cmpL a b == 0) = decide (a = b) := by
  by_cases h : a = b
  · subst h; rw [cmpL_self]; simp
  · have : cmpL a b ≠ 0 := fun e => h (cmpL_zero _ _ e)
    rw [decide_eq_false h]; exact beq_eq_false_iff_ne.2 this

set_option maxHeartbeats 1000000 in
theorem affOf_integer (a : ByteArray) (ha : a.size ≤ 140737488351232) (l : List UInt8) (hl : a.data.toList.map lowB = l) (h0 : (l = [105, 110, 116, 101, 103, 101, 114]) = True) (w : World) : Calls Tryz.prog 27 #[.string a] w fun e w' => e = .returned (.tuple #[.int .i64 1, .bool true]) ∧ Below w.heap.size w w' := by
  have hmf : ∀ (fn : Fn) (first cap : Array Value) (w : World), (Instr.makeFunc fn first cap).run Tryz.prog w = .ok (.func fn first cap) w := fun _ _ _ _ => rfl
  have HN : Hid (∀ V, Below (w.alloc (.cells #[.string a] 9)).heap.size (w.alloc (.cells #[.string a] 9)) V → V.cell? ⟨w.heap.size, 0, none⟩ = some (.string a)) := fun V h => new_cell w _ 9 h
  have HC0 : Hid ((w.alloc (.cells #[.string a] 9)).cell? ⟨w.heap.size, 0, none⟩ = some (.string a)) := new_cells w _ _ rfl 0 _ rfl
  have HX0 : Hid (Below (w.alloc (.cells #[.string a] 9)).heap.size (w.alloc (.cells #[.string a] 9)) (w.alloc (.cells #[.string a] 9))) := Below.refl _ _
  have H0 : Hid (∀ V p, V.cell? ⟨p, 0, none⟩ = some (.string a) → Calls Tryz.prog 56 #[.string ⟨#[73, 78, 84, 69, 71, 69, 82]⟩, .pointer (some ⟨p, 0, none⟩)] V fun e w' => e = .returned (.bool true) ∧ Below V.heap.size V w') := fun V p h => is_walk _ _ ha (by decide) _ (by rw [same_name, show foldL 1 a.data.toList = l from hl, show foldL 1 (⟨#[73, 78, 84, 69, 71, 69, 82]⟩ : ByteArray).data.toList = [105, 110, 116, 101, 103, 101, 114] from by decide]; simp only [h0]; decide) p V h
  clear hl h0
  go_enter Tryz.func27, Tryz.ntmps27
  go_wp2_with (first
    | (go_at_call 56; with_reducible refine Calls.mono (H0.out _ _ HC0.out) ?_; rintro e w1 ⟨rfl, hb1⟩; have HX1 := hide (below_trans HX0.out hb1); have HC1 := hide (HN.out _ HX1.out); clear hb1))
  go_ret2
  exact ⟨rfl, below_trans (new_below w _ rfl) HX1.out⟩

set_option maxHeartbeats 1000000 in
theorem affOf_int (a : ByteArray) (ha : a.size ≤ 140737488351232) (l : List UInt8) (hl : a.data.toList.map lowB = l) (h0 : (l = [105, 110, 116, 101, 103, 101, 114]) = False) (h1 : (l = [105, 110, 116]) = True) (w : World) : Calls Tryz.prog 27 #[.string a] w fun e w' => e = .returned (.tuple #[.int .i64 1, .bool true]) ∧ Below w.heap.size w w' := by
  have hmf : ∀ (fn : Fn) (first cap : Array Value) (w : World), (Instr.makeFunc fn first cap).run Tryz.prog w = .ok (.func fn first cap) w := fun _ _ _ _ => rfl
  have HN : Hid (∀ V, Below (w.alloc (.cells #[.string a] 9)).heap.size (w.alloc (.cells #[.string a] 9)) V → V.cell? ⟨w.heap.size, 0, none⟩ = some (.string a)) := fun V h => new_cell w _ 9 h
  have HC0 : Hid ((w.alloc (.cells #[.string a] 9)).cell? ⟨w.heap.size, 0, none⟩ = some (.string a)) := new_cells w _ _ rfl 0 _ rfl
  have HX0 : Hid (Below (w.alloc (.cells #[.string a] 9)).heap.size (w.alloc (.cells #[.string a] 9)) (w.alloc (.cells #[.string a] 9))) := Below.refl _ _
  have H0 : Hid (∀ V p, V.cell? ⟨p, 0, none⟩ = some (.string a) → Calls Tryz.prog 56 #[.string ⟨#[73, 78, 84, 69, 71, 69, 82]⟩, .pointer (some ⟨p, 0, none⟩)] V fun e w' => e = .returned (.bool false) ∧ Below V.heap.size V w') := fun V p h => is_walk _ _ ha (by decide) _ (by rw [same_name, show foldL 1 a.data.toList = l from hl, show foldL 1 (⟨#[73, 78, 84, 69, 71, 69, 82]⟩ : ByteArray).data.toList = [105, 110, 116, 101, 103, 101, 114] from by decide]; simp only [h0]; decide) p V h
  have H1 : Hid (∀ V p, V.cell? ⟨p, 0, none⟩ = some (.string a) → Calls Tryz.prog 56 #[.string ⟨#[73, 78, 84]⟩, .pointer (some ⟨p, 0, none⟩)] V fun e w' => e = .returned (.bool true) ∧ Below V.heap.size V w') := fun V p h => is_walk _ _ ha (by decide) _ (by rw [same_name, show foldL 1 a.data.toList = l from hl, show foldL 1 (⟨#[73, 78, 84]⟩ : ByteArray).data.toList = [105, 110, 116] from by decide]; simp only [h1]; decide) p V h
  clear hl h0 h1
  go_enter Tryz.func27, Tryz.ntmps27
  go_wp2_with (first
    | (go_at_call 56; with_reducible refine Calls.mono (H0.out _ _ HC0.out) ?_; rintro e w1 ⟨rfl, hb1⟩; have HX1 := hide (below_trans HX0.out hb1); have HC1 := hide (HN.out _ HX1.out); clear hb1)
    | (go_at_call 56; with_reducible refine Calls.mono (H1.out _ _ HC1.out) ?_; rintro e w2 ⟨rfl, hb2⟩; have HX2 := hide (below_trans HX1.out hb2); have HC2 := hide (HN.out _ HX2.out); clear hb2))
  go_ret2
  exact ⟨rfl, below_trans (new_below w _ rfl) HX2.out⟩

set_option maxHeartbeats 1000000 in
theorem affOf_text (a : ByteArray) (ha : a.size ≤ 140737488351232) (l : List UInt8) (hl : a.data.toList.map lowB = l) (h0 : (l = [105, 110, 116, 101, 103, 101, 114]) = False) (h1 : (l = [105, 110, 116]) = False) (h2 : (l = [116, 101, 120, 116]) = True) (w : World) : Calls Tryz.prog 27 #[.string a] w fun e w' => e = .returned (.tuple #[.int .i64 2, .bool true]) ∧ Below w.heap.size w w' := by
  have hmf : ∀ (fn : Fn) (first cap : Array Value) (w : World), (Instr.makeFunc fn first cap).run Tryz.prog w = .ok (.func fn first cap) w := fun _ _ _ _ => rfl
  have HN : Hid (∀ V, Below (w.alloc (.cells #[.string a] 9)).heap.size (w.alloc (.cells #[.string a] 9)) V → V.cell? ⟨w.heap.size, 0, none⟩ = some (.string a)) := fun V h => new_cell w _ 9 h
  have HC0 : Hid ((w.alloc (.cells #[.string a] 9)).cell? ⟨w.heap.size, 0, none⟩ = some (.string a)) := new_cells w _ _ rfl 0 _ rfl
  have HX0 : Hid (Below (w.alloc (.cells #[.string a] 9)).heap.size (w.alloc (.cells #[.string a] 9)) (w.alloc (.cells #[.string a] 9))) := Below.refl _ _
  have H0 : Hid (∀ V p, V.cell? ⟨p, 0, none⟩ = some (.string a) → Calls Tryz.prog 56 #[.string ⟨#[73, 78, 84, 69, 71, 69, 82]⟩, .pointer (some ⟨p, 0, none⟩)] V fun e w' => e = .returned (.bool false) ∧ Below V.heap.size V w') := fun V p h => is_walk _ _ ha (by decide) _ (by rw [same_name, show foldL 1 a.data.toList = l from hl, show foldL 1 (⟨#[73, 78, 84, 69, 71, 69, 82]⟩ : ByteArray).data.toList = [105, 110, 116, 101, 103, 101, 114] from by decide]; simp only [h0]; decide) p V h
  have H1 : Hid (∀ V p, V.cell? ⟨p, 0, none⟩ = some (.string a) → Calls Tryz.prog 56 #[.string ⟨#[73, 78, 84]⟩, .pointer (some ⟨p, 0, none⟩)] V fun e w' => e = .returned (.bool false) ∧ Below V.heap.size V w') := fun V p h => is_walk _ _ ha (by decide) _ (by rw [same_name, show foldL 1 a.data.toList = l from hl, show foldL 1 (⟨#[73, 78, 84]⟩ : ByteArray).data.toList = [105, 110, 116] from by decide]; simp only [h1]; decide) p V h
  have H2 : Hid (∀ V p, V.cell? ⟨p, 0, none⟩ = some (.string a) → Calls Tryz.prog 56 #[.string ⟨#[84, 69, 88, 84]⟩, .pointer (some ⟨p, 0, none⟩)] V fun e w' => e = .returned (.bool true) ∧ Below V.heap.size V w') := fun V p h => is_walk _ _ ha (by decide) _ (by rw [same_name, show foldL 1 a.data.toList = l from hl, show foldL 1 (⟨#[84, 69, 88, 84]⟩ : ByteArray).data.toList = [116, 101, 120, 116] from by decide]; simp only [h2]; decide) p V h
  clear hl h0 h1 h2
  go_enter Tryz.func27, Tryz.ntmps27
  go_wp2_with (first
    | (go_at_call 56; with_reducible refine Calls.mono (H0.out _ _ HC0.out) ?_; rintro e w1 ⟨rfl, hb1⟩; have HX1 := hide (below_trans HX0.out hb1); have HC1 := hide (HN.out _ HX1.out); clear hb1)
    | (go_at_call 56; with_reducible refine Calls.mono (H1.out _ _ HC1.out) ?_; rintro e w2 ⟨rfl, hb2⟩; have HX2 := hide (below_trans HX1.out hb2); have HC2 := hide (HN.out _ HX2.out); clear hb2)
    | (go_at_call 56; with_reducible refine Calls.mono (H2.out _ _ HC2.out) ?_; rintro e w3 ⟨rfl, hb3⟩; have HX3 := hide (below_trans HX2.out hb3); have HC3 := hide (HN.out _ HX3.out); clear hb3))
  go_ret2
  exact ⟨rfl, below_trans (new_below w _ rfl) HX3.out⟩

set_option maxHeartbeats 1000000 in
theorem affOf_blob (a : ByteArray) (ha : a.size ≤ 140737488351232) (l : List UInt8) (hl : a.data.toList.map lowB = l) (h0 : (l = [105, 110, 116, 101, 103, 101, 114]) = False) (h1 : (l = [105, 110, 116]) = False) (h2 : (l = [116, 101, 120, 116]) = False) (h3 : (l = [98, 108, 111, 98]) = True) (w : World) : Calls Tryz.prog 27 #[.string a] w fun e w' => e = .returned (.tuple #[.int .i64 0, .bool true]) ∧ Below w.heap.size w w' := by
  have hmf : ∀ (fn : Fn) (first cap : Array Value) (w : World), (Instr.makeFunc fn first cap).run Tryz.prog w = .ok (.func fn first cap) w := fun _ _ _ _ => rfl
  have HN : Hid (∀ V, Below (w.alloc (.cells #[.string a] 9)).heap.size (w.alloc (.cells #[.string a] 9)) V → V.cell? ⟨w.heap.size, 0, none⟩ = some (.string a)) := fun V h => new_cell w _ 9 h
  have HC0 : Hid ((w.alloc (.cells #[.string a] 9)).cell? ⟨w.heap.size, 0, none⟩ = some (.string a)) := new_cells w _ _ rfl 0 _ rfl
  have HX0 : Hid (Below (w.alloc (.cells #[.string a] 9)).heap.size (w.alloc (.cells #[.string a] 9)) (w.alloc (.cells #[.string a] 9))) := Below.refl _ _
  have H0 : Hid (∀ V p, V.cell? ⟨p, 0, none⟩ = some (.string a) → Calls Tryz.prog 56 #[.string ⟨#[73, 78, 84, 69, 71, 69, 82]⟩, .pointer (some ⟨p, 0, none⟩)] V fun e w' => e = .returned (.bool false) ∧ Below V.heap.size V w') := fun V p h => is_walk _ _ ha (by decide) _ (by rw [same_name, show foldL 1 a.data.toList = l from hl, show foldL 1 (⟨#[73, 78, 84, 69, 71, 69, 82]⟩ : ByteArray).data.toList = [105, 110, 116, 101, 103, 101, 114] from by decide]; simp only [h0]; decide) p V h
  have H1 : Hid (∀ V p, V.cell? ⟨p, 0, none⟩ = some (.string a) → Calls Tryz.prog 56 #[.string ⟨#[73, 78, 84]⟩, .pointer (some ⟨p, 0, none⟩)] V fun e w' => e = .returned (.bool false) ∧ Below V.heap.size V w') := fun V p h => is_walk _ _ ha (by decide) _ (by rw [same_name, show foldL 1 a.data.toList = l from hl, show foldL 1 (⟨#[73, 78, 84]⟩ : ByteArray).data.toList = [105, 110, 116] from by decide]; simp only [h1]; decide) p V h
  have H2 : Hid (∀ V p, V.cell? ⟨p, 0, none⟩ = some (.string a) → Calls Tryz.prog 56 #[.string ⟨#[84, 69, 88, 84]⟩, .pointer (some ⟨p, 0, none⟩)] V fun e w' => e = .returned (.bool false) ∧ Below V.heap.size V w') := fun V p h => is_walk _ _ ha (by decide) _ (by rw [same_name, show foldL 1 a.data.toList = l from hl, show foldL 1 (⟨#[84, 69, 88, 84]⟩ : ByteArray).data.toList = [116, 101, 120, 116] from by decide]; simp only [h2]; decide) p V h
  have H3 : Hid (∀ V p, V.cell? ⟨p, 0, none⟩ = some (.string a) → Calls Tryz.prog 56 #[.string ⟨#[66, 76, 79, 66]⟩, .pointer (some ⟨p, 0, none⟩)] V fun e w' => e = .returned (.bool true) ∧ Below V.heap.size V w') := fun V p h => is_walk _ _ ha (by decide) _ (by rw [same_name, show foldL 1 a.data.toList = l from hl, show foldL 1 (⟨#[66, 76, 79, 66]⟩ : ByteArray).data.toList = [98, 108, 111, 98] from by decide]; simp only [h3]; decide) p V h
  clear hl h0 h1 h2 h3
  go_enter Tryz.func27, Tryz.ntmps27
  go_wp2_with (first
    | (go_at_call 56; with_reducible refine Calls.mono (H0.out _ _ HC0.out) ?_; rintro e w1 ⟨rfl, hb1⟩; have HX1 := hide (below_trans HX0.out hb1); have HC1 := hide (HN.out _ HX1.out); clear hb1)
    | (go_at_call 56; with_reducible refine Calls.mono (H1.out _ _ HC1.out) ?_; rintro e w2 ⟨rfl, hb2⟩; have HX2 := hide (below_trans HX1.out hb2); have HC2 := hide (HN.out _ HX2.out); clear hb2)
    | (go_at_call 56; with_reducible refine Calls.mono (H2.out _ _ HC2.out) ?_; rintro e w3 ⟨rfl, hb3⟩; have HX3 := hide (below_trans HX2.out hb3); have HC3 := hide (HN.out _ HX3.out); clear hb3)
    | (go_at_call 56; with_reducible refine Calls.mono (H3.out _ _ HC3.out) ?_; rintro e w4 ⟨rfl, hb4⟩; have HX4 := hide (below_trans HX3.out hb4); have HC4 := hide (HN.out _ HX4.out); clear hb4))
  go_ret2
  exact ⟨rfl, below_trans (new_below w _ rfl) HX4.out⟩

set_option maxHeartbeats 1000000 in
theorem affOf_empty (a : ByteArray) (ha : a.size ≤ 140737488351232) (l : List UInt8) (hl : a.data.toList.map lowB = l) (h0 : (l = [105, 110, 116, 101, 103, 101, 114]) = False) (h1 : (l = [105, 110, 116]) = False) (h2 : (l = [116, 101, 120, 116]) = False) (h3 : (l = [98, 108, 111, 98]) = False) (h4 : (l = []) = True) (w : World) : Calls Tryz.prog 27 #[.string a] w fun e w' => e = .returned (.tuple #[.int .i64 0, .bool true]) ∧ Below w.heap.size w w' := by
  have hmf : ∀ (fn : Fn) (first cap : Array Value) (w : World), (Instr.makeFunc fn first cap).run Tryz.prog w = .ok (.func fn first cap) w := fun _ _ _ _ => rfl
  have HN : Hid (∀ V, Below (w.alloc (.cells #[.string a] 9)).heap.size (w.alloc (.cells #[.string a] 9)) V → V.cell? ⟨w.heap.size, 0, none⟩ = some (.string a)) := fun V h => new_cell w _ 9 h
  have HC0 : Hid ((w.alloc (.cells #[.string a] 9)).cell? ⟨w.heap.size, 0, none⟩ = some (.string a)) := new_cells w _ _ rfl 0 _ rfl
  have HX0 : Hid (Below (w.alloc (.cells #[.string a] 9)).heap.size (w.alloc (.cells #[.string a] 9)) (w.alloc (.cells #[.string a] 9))) := Below.refl _ _
  have H0 : Hid (∀ V p, V.cell? ⟨p, 0, none⟩ = some (.string a) → Calls Tryz.prog 56 #[.string ⟨#[73, 78, 84, 69, 71, 69, 82]⟩, .pointer (some ⟨p, 0, none⟩)] V fun e w' => e = .returned (.bool false) ∧ Below V.heap.size V w') := fun V p h => is_walk _ _ ha (by decide) _ (by rw [same_name, show foldL 1 a.data.toList = l from hl, show foldL 1 (⟨#[73, 78, 84, 69, 71, 69, 82]⟩ : ByteArray).data.toList = [105, 110, 116, 101, 103, 101, 114] from by decide]; simp only [h0]; decide) p V h
  have H1 : Hid (∀ V p, V.cell? ⟨p, 0, none⟩ = some (.string a) → Calls Tryz.prog 56 #[.string ⟨#[73, 78, 84]⟩, .pointer (some ⟨p, 0, none⟩)] V fun e w' => e = .returned (.bool false) ∧ Below V.heap.size V w') := fun V p h => is_walk _ _ ha (by decide) _ (by rw [same_name, show foldL 1 a.data.toList = l from hl, show foldL 1 (⟨#[73, 78, 84]⟩ : ByteArray).data.toList = [105, 110, 116] from by decide]; simp only [h1]; decide) p V h
  have H2 : Hid (∀ V p, V.cell? ⟨p, 0, none⟩ = some (.string a) → Calls Tryz.prog 56 #[.string ⟨#[84, 69, 88, 84]⟩, .pointer (some ⟨p, 0, none⟩)] V fun e w' => e = .returned (.bool false) ∧ Below V.heap.size V w') := fun V p h => is_walk _ _ ha (by decide) _ (by rw [same_name, show foldL 1 a.data.toList = l from hl, show foldL 1 (⟨#[84, 69, 88, 84]⟩ : ByteArray).data.toList = [116, 101, 120, 116] from by decide]; simp only [h2]; decide) p V h
  have H3 : Hid (∀ V p, V.cell? ⟨p, 0, none⟩ = some (.string a) → Calls Tryz.prog 56 #[.string ⟨#[66, 76, 79, 66]⟩, .pointer (some ⟨p, 0, none⟩)] V fun e w' => e = .returned (.bool false) ∧ Below V.heap.size V w') := fun V p h => is_walk _ _ ha (by decide) _ (by rw [same_name, show foldL 1 a.data.toList = l from hl, show foldL 1 (⟨#[66, 76, 79, 66]⟩ : ByteArray).data.toList = [98, 108, 111, 98] from by decide]; simp only [h3]; decide) p V h
  have H4 : Hid (∀ V p, V.cell? ⟨p, 0, none⟩ = some (.string a) → Calls Tryz.prog 56 #[.string ⟨#[]⟩, .pointer (some ⟨p, 0, none⟩)] V fun e w' => e = .returned (.bool true) ∧ Below V.heap.size V w') := fun V p h => is_walk _ _ ha (by decide) _ (by rw [same_name, show foldL 1 a.data.toList = l from hl, show foldL 1 (⟨#[]⟩ : ByteArray).data.toList = [] from by decide]; simp only [h4]; decide) p V h
  clear hl h0 h1 h2 h3 h4
  go_enter Tryz.func27, Tryz.ntmps27
  go_wp2_with (first
    | (go_at_call 56; with_reducible refine Calls.mono (H0.out _ _ HC0.out) ?_; rintro e w1 ⟨rfl, hb1⟩; have HX1 := hide (below_trans HX0.out hb1); have HC1 := hide (HN.out _ HX1.out); clear hb1)
    | (go_at_call 56; with_reducible refine Calls.mono (H1.out _ _ HC1.out) ?_; rintro e w2 ⟨rfl, hb2⟩; have HX2 := hide (below_trans HX1.out hb2); have HC2 := hide (HN.out _ HX2.out); clear hb2)
    | (go_at_call 56; with_reducible refine Calls.mono (H2.out _ _ HC2.out) ?_; rintro e w3 ⟨rfl, hb3⟩; have HX3 := hide (below_trans HX2.out hb3); have HC3 := hide (HN.out _ HX3.out); clear hb3)
    | (go_at_call 56; with_reducible refine Calls.mono (H3.out _ _ HC3.out) ?_; rintro e w4 ⟨rfl, hb4⟩; have HX4 := hide (below_trans HX3.out hb4); have HC4 := hide (HN.out _ HX4.out); clear hb4)
    | (go_at_call 56; with_reducible refine Calls.mono (H4.out _ _ HC4.out) ?_; rintro e w5 ⟨rfl, hb5⟩; have HX5 := hide (below_trans HX4.out hb5); have HC5 := hide (HN.out _ HX5.out); clear hb5))
  go_ret2
  exact ⟨rfl, below_trans (new_below w _ rfl) HX5.out⟩

set_option maxHeartbeats 1000000 in
theorem affOf_none (a : ByteArray) (ha : a.size ≤ 140737488351232) (l : List UInt8) (hl : a.data.toList.map lowB = l) (h0 : (l = [105, 110, 116, 101, 103, 101, 114]) = False) (h1 : (l = [105, 110, 116]) = False) (h2 : (l = [116, 101, 120, 116]) = False) (h3 : (l = [98, 108, 111, 98]) = False) (h4 : (l = []) = False) (w : World) : Calls Tryz.prog 27 #[.string a] w fun e w' => e = .returned (.tuple #[.int .i64 0, .bool false]) ∧ Below w.heap.size w w' := by
  have hmf : ∀ (fn : Fn) (first cap : Array Value) (w : World), (Instr.makeFunc fn first cap).run Tryz.prog w = .ok (.func fn first cap) w := fun _ _ _ _ => rfl
  have HN : Hid (∀ V, Below (w.alloc (.cells #[.string a] 9)).heap.size (w.alloc (.cells #[.string a] 9)) V → V.cell? ⟨w.heap.size, 0, none⟩ = some (.string a)) := fun V h => new_cell w _ 9 h
  have HC0 : Hid ((w.alloc (.cells #[.string a] 9)).cell? ⟨w.heap.size, 0, none⟩ = some (.string a)) := new_cells w _ _ rfl 0 _ rfl
  have HX0 : Hid (Below (w.alloc (.cells #[.string a] 9)).heap.size (w.alloc (.cells #[.string a] 9)) (w.alloc (.cells #[.string a] 9))) := Below.refl _ _
  have H0 : Hid (∀ V p, V.cell? ⟨p, 0, none⟩ = some (.string a) → Calls Tryz.prog 56 #[.string ⟨#[73, 78, 84, 69, 71, 69, 82]⟩, .pointer (some ⟨p, 0, none⟩)] V fun e w' => e = .returned (.bool false) ∧ Below V.heap.size V w') := fun V p h => is_walk _ _ ha (by decide) _ (by rw [same_name, show foldL 1 a.data.toList = l from hl, show foldL 1 (⟨#[73, 78, 84, 69, 71, 69, 82]⟩ : ByteArray).data.toList = [105, 110, 116, 101, 103, 101, 114] from by decide]; simp only [h0]; decide) p V h
  have H1 : Hid (∀ V p, V.cell? ⟨p, 0, none⟩ = some (.string a) → Calls Tryz.prog 56 #[.string ⟨#[73, 78, 84]⟩, .pointer (some ⟨p, 0, none⟩)] V fun e w' => e = .returned (.bool false) ∧ Below V.heap.size V w') := fun V p h => is_walk _ _ ha (by decide) _ (by rw [same_name, show foldL 1 a.data.toList = l from hl, show foldL 1 (⟨#[73, 78, 84]⟩ : ByteArray).data.toList = [105, 110, 116] from by decide]; simp only [h1]; decide) p V h
  have H2 : Hid (∀ V p, V.cell? ⟨p, 0, none⟩ = some (.string a) → Calls Tryz.prog 56 #[.string ⟨#[84, 69, 88, 84]⟩, .pointer (some ⟨p, 0, none⟩)] V fun e w' => e = .returned (.bool false) ∧ Below V.heap.size V w') := fun V p h => is_walk _ _ ha (by decide) _ (by rw [same_name, show foldL 1 a.data.toList = l from hl, show foldL 1 (⟨#[84, 69, 88, 84]⟩ : ByteArray).data.toList = [116, 101, 120, 116] from by decide]; simp only [h2]; decide) p V h
  have H3 : Hid (∀ V p, V.cell? ⟨p, 0, none⟩ = some (.string a) → Calls Tryz.prog 56 #[.string ⟨#[66, 76, 79, 66]⟩, .pointer (some ⟨p, 0, none⟩)] V fun e w' => e = .returned (.bool false) ∧ Below V.heap.size V w') := fun V p h => is_walk _ _ ha (by decide) _ (by rw [same_name, show foldL 1 a.data.toList = l from hl, show foldL 1 (⟨#[66, 76, 79, 66]⟩ : ByteArray).data.toList = [98, 108, 111, 98] from by decide]; simp only [h3]; decide) p V h
  have H4 : Hid (∀ V p, V.cell? ⟨p, 0, none⟩ = some (.string a) → Calls Tryz.prog 56 #[.string ⟨#[]⟩, .pointer (some ⟨p, 0, none⟩)] V fun e w' => e = .returned (.bool false) ∧ Below V.heap.size V w') := fun V p h => is_walk _ _ ha (by decide) _ (by rw [same_name, show foldL 1 a.data.toList = l from hl, show foldL 1 (⟨#[]⟩ : ByteArray).data.toList = [] from by decide]; simp only [h4]; decide) p V h
  clear hl h0 h1 h2 h3 h4
  go_enter Tryz.func27, Tryz.ntmps27
  go_wp2_with (first
    | (go_at_call 56; with_reducible refine Calls.mono (H0.out _ _ HC0.out) ?_; rintro e w1 ⟨rfl, hb1⟩; have HX1 := hide (below_trans HX0.out hb1); have HC1 := hide (HN.out _ HX1.out); clear hb1)
    | (go_at_call 56; with_reducible refine Calls.mono (H1.out _ _ HC1.out) ?_; rintro e w2 ⟨rfl, hb2⟩; have HX2 := hide (below_trans HX1.out hb2); have HC2 := hide (HN.out _ HX2.out); clear hb2)
    | (go_at_call 56; with_reducible refine Calls.mono (H2.out _ _ HC2.out) ?_; rintro e w3 ⟨rfl, hb3⟩; have HX3 := hide (below_trans HX2.out hb3); have HC3 := hide (HN.out _ HX3.out); clear hb3)
    | (go_at_call 56; with_reducible refine Calls.mono (H3.out _ _ HC3.out) ?_; rintro e w4 ⟨rfl, hb4⟩; have HX4 := hide (below_trans HX3.out hb4); have HC4 := hide (HN.out _ HX4.out); clear hb4)
    | (go_at_call 56; with_reducible refine Calls.mono (H4.out _ _ HC4.out) ?_; rintro e w5 ⟨rfl, hb5⟩; have HX5 := hide (below_trans HX4.out hb5); have HC5 := hide (HN.out _ HX5.out); clear hb5))
  go_ret2
  exact ⟨rfl, below_trans (new_below w _ rfl) HX5.out⟩

set_option maxHeartbeats 1000000 in
theorem raffOf_integer (a : ByteArray) (ha : a.size ≤ 140737488351232) (l : List UInt8) (hl : a.data.toList.map lowB = l) (h0 : (l = [105, 110, 116, 101, 103, 101, 114]) = True) (w : World) : Calls Tryz.prog 28 #[.string a] w fun e w' => e = .returned (.tuple #[.int .i64 1, .bool true]) ∧ Below w.heap.size w w' := by
  obtain ⟨S, hS⟩ : ∃ S : ByteArray, S = ⟨l.toArray⟩ := ⟨_, rfl⟩
  have HF : Hid (∀ V, Calls Tryz.prog 58 #[.string a, .int .i64 1] V fun e w' => e = .returned (.string S) ∧ Below V.heap.size V w') := fun V => by have := fold_low a ha V; rw [hl, ← hS] at this; exact this
  have hSl : S.toList = l := by rw [ByteArray.toList_eq, hS]
  have e0 : (S.toList == [105, 110, 116, 101, 103, 101, 114]) = true := by rw [hSl]; first | ((have : l = [105, 110, 116, 101, 103, 101, 114] := by rw [h0]; trivial); rw [this]; rfl) | exact beq_eq_false_iff_ne.2 (fun e => by rw [h0] at e; exact e)
  clear hl hS hSl h0
  go_enter Tryz.func28, Tryz.ntmps28
  go_wp2_with (first
    | (go_at_call 58; with_reducible refine Calls.mono (HF.out _) ?_; rintro e w1 ⟨rfl, hb1⟩))
  all_goals (try go_region)
  all_goals (try go_wp2)
  all_goals go_ret2
  all_goals exact ⟨rfl, by first | exact hb1 | exact hb1.drew⟩

set_option maxHeartbeats 1000000 in
theorem raffOf_int (a : ByteArray) (ha : a.size ≤ 140737488351232) (l : List UInt8) (hl : a.data.toList.map lowB = l) (h0 : (l = [105, 110, 116, 101, 103, 101, 114]) = False) (h1 : (l = [105, 110, 116]) = True) (w : World) : Calls Tryz.prog 28 #[.string a] w fun e w' => e = .returned (.tuple #[.int .i64 1, .bool true]) ∧ Below w.heap.size w w' := by
  obtain ⟨S, hS⟩ : ∃ S : ByteArray, S = ⟨l.toArray⟩ := ⟨_, rfl⟩
  have HF : Hid (∀ V, Calls Tryz.prog 58 #[.string a, .int .i64 1] V fun e w' => e = .returned (.string S) ∧ Below V.heap.size V w') := fun V => by have := fold_low a ha V; rw [hl, ← hS] at this; exact this
  have hSl : S.toList = l := by rw [ByteArray.toList_eq, hS]
  have e0 : (S.toList == [105, 110, 116, 101, 103, 101, 114]) = false := by rw [hSl]; first | ((have : l = [105, 110, 116, 101, 103, 101, 114] := by rw [h0]; trivial); rw [this]; rfl) | exact beq_eq_false_iff_ne.2 (fun e => by rw [h0] at e; exact e)
  have e1 : (S.toList == [105, 110, 116]) = true := by rw [hSl]; first | ((have : l = [105, 110, 116] := by rw [h1]; trivial); rw [this]; rfl) | exact beq_eq_false_iff_ne.2 (fun e => by rw [h1] at e; exact e)
  clear hl hS hSl h0 h1
  go_enter Tryz.func28, Tryz.ntmps28
  go_wp2_with (first
    | (go_at_call 58; with_reducible refine Calls.mono (HF.out _) ?_; rintro e w1 ⟨rfl, hb1⟩))
  all_goals (try go_region)
  all_goals (try go_wp2)
  all_goals go_ret2
  all_goals exact ⟨rfl, by first | exact hb1 | exact hb1.drew⟩

set_option maxHeartbeats 1000000 in
theorem raffOf_text (a : ByteArray) (ha : a.size ≤ 140737488351232) (l : List UInt8) (hl : a.data.toList.map lowB = l) (h0 : (l = [105, 110, 116, 101, 103, 101, 114]) = False) (h1 : (l = [105, 110, 116]) = False) (h2 : (l = [116, 101, 120, 116]) = True) (w : World) : Calls Tryz.prog 28 #[.string a] w fun e w' => e = .returned (.tuple #[.int .i64 2, .bool true]) ∧ Below w.heap.size w w' := by
  obtain ⟨S, hS⟩ : ∃ S : ByteArray, S = ⟨l.toArray⟩ := ⟨_, rfl⟩
  have HF : Hid (∀ V, Calls Tryz.prog 58 #[.string a, .int .i64 1] V fun e w' => e = .returned (.string S) ∧ Below V.heap.size V w') := fun V => by have := fold_low a ha V; rw [hl, ← hS] at this; exact this
  have hSl : S.toList = l := by rw [ByteArray.toList_eq, hS]
  have e0 : (S.toList == [105, 110, 116, 101, 103, 101, 114]) = false := by rw [hSl]; first | ((have : l = [105, 110, 116, 101, 103, 101, 114] := by rw [h0]; trivial); rw [this]; rfl) | exact beq_eq_false_iff_ne.2 (fun e => by rw [h0] at e; exact e)
  have e1 : (S.toList == [105, 110, 116]) = false := by rw [hSl]; first | ((have : l = [105, 110, 116] := by rw [h1]; trivial); rw [this]; rfl) | exact beq_eq_false_iff_ne.2 (fun e => by rw [h1] at e; exact e)
  have e2 : (S.toList == [116, 101, 120, 116]) = true := by rw [hSl]; first | ((have : l = [116, 101, 120, 116] := by rw [h2]; trivial); rw [this]; rfl) | exact beq_eq_false_iff_ne.2 (fun e => by rw [h2] at e; exact e)
  clear hl hS hSl h0 h1 h2
  go_enter Tryz.func28, Tryz.ntmps28
  go_wp2_with (first
    | (go_at_call 58; with_reducible refine Calls.mono (HF.out _) ?_; rintro e w1 ⟨rfl, hb1⟩))
  all_goals (try go_region)
  all_goals (try go_wp2)
  all_goals go_ret2
  all_goals exact ⟨rfl, by first | exact hb1 | exact hb1.drew⟩

set_option maxHeartbeats 1000000 in
theorem raffOf_blob (a : ByteArray) (ha : a.size ≤ 140737488351232) (l : List UInt8) (hl : a.data.toList.map lowB = l) (h0 : (l = [105, 110, 116, 101, 103, 101, 114]) = False) (h1 : (l = [105, 110, 116]) = False) (h2 : (l = [116, 101, 120, 116]) = False) (h3 : (l = [98, 108, 111, 98]) = True) (w : World) : Calls Tryz.prog 28 #[.string a] w fun e w' => e = .returned (.tuple #[.int .i64 0, .bool true]) ∧ Below w.heap.size w w' := by
  obtain ⟨S, hS⟩ : ∃ S : ByteArray, S = ⟨l.toArray⟩ := ⟨_, rfl⟩
  have HF : Hid (∀ V, Calls Tryz.prog 58 #[.string a, .int .i64 1] V fun e w' => e = .returned (.string S) ∧ Below V.heap.size V w') := fun V => by have := fold_low a ha V; rw [hl, ← hS] at this; exact this
  have hSl : S.toList = l := by rw [ByteArray.toList_eq, hS]
  have e0 : (S.toList == [105, 110, 116, 101, 103, 101, 114]) = false := by rw [hSl]; first | ((have : l = [105, 110, 116, 101, 103, 101, 114] := by rw [h0]; trivial); rw [this]; rfl) | exact beq_eq_false_iff_ne.2 (fun e => by rw [h0] at e; exact e)
  have e1 : (S.toList == [105, 110, 116]) = false := by rw [hSl]; first | ((have : l = [105, 110, 116] := by rw [h1]; trivial); rw [this]; rfl) | exact beq_eq_false_iff_ne.2 (fun e => by rw [h1] at e; exact e)
  have e2 : (S.toList == [116, 101, 120, 116]) = false := by rw [hSl]; first | ((have : l = [116, 101, 120, 116] := by rw [h2]; trivial); rw [this]; rfl) | exact beq_eq_false_iff_ne.2 (fun e => by rw [h2] at e; exact e)
  have e3 : (S.toList == [98, 108, 111, 98]) = true := by rw [hSl]; first | ((have : l = [98, 108, 111, 98] := by rw [h3]; trivial); rw [this]; rfl) | exact beq_eq_false_iff_ne.2 (fun e => by rw [h3] at e; exact e)
  clear hl hS hSl h0 h1 h2 h3
  go_enter Tryz.func28, Tryz.ntmps28
  go_wp2_with (first
    | (go_at_call 58; with_reducible refine Calls.mono (HF.out _) ?_; rintro e w1 ⟨rfl, hb1⟩))
  all_goals (try go_region)
  all_goals (try go_wp2)
  all_goals go_ret2
  all_goals exact ⟨rfl, by first | exact hb1 | exact hb1.drew⟩

set_option maxHeartbeats 1000000 in
theorem raffOf_empty (a : ByteArray) (ha : a.size ≤ 140737488351232) (l : List UInt8) (hl : a.data.toList.map lowB = l) (h0 : (l = [105, 110, 116, 101, 103, 101, 114]) = False) (h1 : (l = [105, 110, 116]) = False) (h2 : (l = [116, 101, 120, 116]) = False) (h3 : (l = [98, 108, 111, 98]) = False) (h4 : (l = []) = True) (w : World) : Calls Tryz.prog 28 #[.string a] w fun e w' => e = .returned (.tuple #[.int .i64 0, .bool true]) ∧ Below w.heap.size w w' := by
  obtain ⟨S, hS⟩ : ∃ S : ByteArray, S = ⟨l.toArray⟩ := ⟨_, rfl⟩
  have HF : Hid (∀ V, Calls Tryz.prog 58 #[.string a, .int .i64 1] V fun e w' => e = .returned (.string S) ∧ Below V.heap.size V w') := fun V => by have := fold_low a ha V; rw [hl, ← hS] at this; exact this
  have hSl : S.toList = l := by rw [ByteArray.toList_eq, hS]
  have e0 : (S.toList == [105, 110, 116, 101, 103, 101, 114]) = false := by rw [hSl]; first | ((have : l = [105, 110, 116, 101, 103, 101, 114] := by rw [h0]; trivial); rw [this]; rfl) | exact beq_eq_false_iff_ne.2 (fun e => by rw [h0] at e; exact e)
  have e1 : (S.toList == [105, 110, 116]) = false := by rw [hSl]; first | ((have : l = [105, 110, 116] := by rw [h1]; trivial); rw [this]; rfl) | exact beq_eq_false_iff_ne.2 (fun e => by rw [h1] at e; exact e)
  have e2 : (S.toList == [116, 101, 120, 116]) = false := by rw [hSl]; first | ((have : l = [116, 101, 120, 116] := by rw [h2]; trivial); rw [this]; rfl) | exact beq_eq_false_iff_ne.2 (fun e => by rw [h2] at e; exact e)
  have e3 : (S.toList == [98, 108, 111, 98]) = false := by rw [hSl]; first | ((have : l = [98, 108, 111, 98] := by rw [h3]; trivial); rw [this]; rfl) | exact beq_eq_false_iff_ne.2 (fun e => by rw [h3] at e; exact e)
  have e4 : (S.toList == []) = true := by rw [hSl]; first | ((have : l = [] := by rw [h4]; trivial); rw [this]; rfl) | exact beq_eq_false_iff_ne.2 (fun e => by rw [h4] at e; exact e)
  clear hl hS hSl h0 h1 h2 h3 h4
  go_enter Tryz.func28, Tryz.ntmps28
  go_wp2_with (first
    | (go_at_call 58; with_reducible refine Calls.mono (HF.out _) ?_; rintro e w1 ⟨rfl, hb1⟩))
  all_goals (try go_region)
  all_goals (try go_wp2)
  all_goals go_ret2
  all_goals exact ⟨rfl, by first | exact hb1 | exact hb1.drew⟩

set_option maxHeartbeats 1000000 in
theorem raffOf_none (a : ByteArray) (ha : a.size ≤ 140737488351232) (l : List UInt8) (hl : a.data.toList.map lowB = l) (h0 : (l = [105, 110, 116, 101, 103, 101, 114]) = False) (h1 : (l = [105, 110, 116]) = False) (h2 : (l = [116, 101, 120, 116]) = False) (h3 : (l = [98, 108, 111, 98]) = False) (h4 : (l = []) = False) (w : World) : Calls Tryz.prog 28 #[.string a] w fun e w' => e = .returned (.tuple #[.int .i64 0, .bool false]) ∧ Below w.heap.size w w' := by
  obtain ⟨S, hS⟩ : ∃ S : ByteArray, S = ⟨l.toArray⟩ := ⟨_, rfl⟩
  have HF : Hid (∀ V, Calls Tryz.prog 58 #[.string a, .int .i64 1] V fun e w' => e = .returned (.string S) ∧ Below V.heap.size V w') := fun V => by have := fold_low a ha V; rw [hl, ← hS] at this; exact this
  have hSl : S.toList = l := by rw [ByteArray.toList_eq, hS]
  have e0 : (S.toList == [105, 110, 116, 101, 103, 101, 114]) = false := by rw [hSl]; first | ((have : l = [105, 110, 116, 101, 103, 101, 114] := by rw [h0]; trivial); rw [this]; rfl) | exact beq_eq_false_iff_ne.2 (fun e => by rw [h0] at e; exact e)
  have e1 : (S.toList == [105, 110, 116]) = false := by rw [hSl]; first | ((have : l = [105, 110, 116] := by rw [h1]; trivial); rw [this]; rfl) | exact beq_eq_false_iff_ne.2 (fun e => by rw [h1] at e; exact e)
  have e2 : (S.toList == [116, 101, 120, 116]) = false := by rw [hSl]; first | ((have : l = [116, 101, 120, 116] := by rw [h2]; trivial); rw [this]; rfl) | exact beq_eq_false_iff_ne.2 (fun e => by rw [h2] at e; exact e)
  have e3 : (S.toList == [98, 108, 111, 98]) = false := by rw [hSl]; first | ((have : l = [98, 108, 111, 98] := by rw [h3]; trivial); rw [this]; rfl) | exact beq_eq_false_iff_ne.2 (fun e => by rw [h3] at e; exact e)
  have e4 : (S.toList == []) = false := by rw [hSl]; first | ((have : l = [] := by rw [h4]; trivial); rw [this]; rfl) | exact beq_eq_false_iff_ne.2 (fun e => by rw [h4] at e; exact e)
  clear hl hS hSl h0 h1 h2 h3 h4
  go_enter Tryz.func28, Tryz.ntmps28
  go_wp2_with (first
    | (go_at_call 58; with_reducible refine Calls.mono (HF.out _) ?_; rintro e w1 ⟨rfl, hb1⟩))
  all_goals (try go_region)
  all_goals (try go_wp2)
  all_goals go_ret2
  all_goals exact ⟨rfl, by first | exact hb1 | exact hb1.drew⟩

theorem aff_both (a : ByteArray) (ha : a.size ≤ 140737488351232) : ∃ (f : Int) (ok : Bool), f = affK (a.data.toList.map lowB) ∧ ok = affB (a.data.toList.map lowB) ∧
    (∀ w, Calls Tryz.prog 27 #[.string a] w fun e w' => e = .returned (.tuple #[.int .i64 f, .bool ok]) ∧ Below w.heap.size w w') ∧ (∀ w, Calls Tryz.prog 28 #[.string a] w fun e w' => e = .returned (.tuple #[.int .i64 f, .bool ok]) ∧ Below w.heap.size w w') := by
  obtain ⟨l, hl⟩ : ∃ l, a.data.toList.map lowB = l := ⟨_, rfl⟩
  rw [hl]
  by_cases h0 : l = [105, 110, 116, 101, 103, 101, 114]
  · have e0 := eq_true h0
    exact ⟨1, true, by rw [h0]; decide, by rw [h0]; decide, fun w => affOf_integer a ha l hl e0 w, fun w => raffOf_integer a ha l hl e0 w⟩
  have e0 := eq_false h0
  by_cases h1 : l = [105, 110, 116]
  · have e1 := eq_true h1
    exact ⟨1, true, by rw [h1]; decide, by rw [h1]; decide, fun w => affOf_int a ha l hl e0 e1 w, fun w => raffOf_int a ha l hl e0 e1 w⟩
  have e1 := eq_false h1
  by_cases h2 : l = [116, 101, 120, 116]
  · have e2 := eq_true h2
    exact ⟨2, true, by rw [h2]; decide, by rw [h2]; decide, fun w => affOf_text a ha l hl e0 e1 e2 w, fun w => raffOf_text a ha l hl e0 e1 e2 w⟩
  have e2 := eq_false h2
  by_cases h3 : l = [98, 108, 111, 98]
  · have e3 := eq_true h3
    exact ⟨0, true, by rw [h3]; decide, by rw [h3]; decide, fun w => affOf_blob a ha l hl e0 e1 e2 e3 w, fun w => raffOf_blob a ha l hl e0 e1 e2 e3 w⟩
  have e3 := eq_false h3
  by_cases h4 : l = []
  · have e4 := eq_true h4
    exact ⟨0, true, by rw [h4]; decide, by rw [h4]; decide, fun w => affOf_empty a ha l hl e0 e1 e2 e3 e4 w, fun w => raffOf_empty a ha l hl e0 e1 e2 e3 e4 w⟩
  have e4 := eq_false h4
  exact ⟨0, false, by unfold affK; rw [if_neg (by simp [h0, h1]), if_neg h2], by unfold affB; rw [decide_eq_false (by simp [h0, h1, h2, h3, h4])], fun w => affOf_none a ha l hl e0 e1 e2 e3 e4 w, fun w => raffOf_none a ha l hl e0 e1 e2 e3 e4 w⟩
end Go.Proofs.YtoekdeoekcmpgaaGreatDoor
