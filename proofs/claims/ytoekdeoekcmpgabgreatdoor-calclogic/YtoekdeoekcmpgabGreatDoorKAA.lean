/- Package calc: AffOf at two names; Cast between texts and integers. -/
import Derived.Test.YtoekdeoekcmpgabGreatDoorKV
import Derived.Test.YtoekdeoekcmpgabGreatDoorVC
import Derived.Test.YtoekdeoekcmpgabGreatDoorKL3
import Derived.Test.YtoekdeoekcmpgabGreatDoorQC
namespace Go.Proofs.YtoekdeoekcmpgabGreatDoor
open Go.ChangeShapes Go.WideShapes Go.ChangeAt Go.RowKit
set_option linter.unusedVariables false

set_option maxHeartbeats 1000000 in
theorem equal_walk (a b : ByteArray) (ha : a.size ≤ 140737488355328) (hb : b.size ≤ 140737488355328) (c : Int) (w : World) : Calls Tryz.prog 38 #[.string a, .string b, .int .i64 c] w fun e w' => e = .returned (.bool (cmpL (foldL c a.data.toList) (foldL c b.data.toList) == 0)) ∧ Below w.heap.size w w' := by
  obtain ⟨x1, hx1⟩ : ∃ x, cntS c a = x := ⟨_, rfl⟩
  obtain ⟨x2, hx2⟩ : ∃ x, cntS c b = x := ⟨_, rfl⟩
  obtain ⟨fn, hfn⟩ : ∃ fn, collF c = .func (.func fn) #[] #[] := by unfold collF; split <;> exact ⟨_, rfl⟩
  obtain ⟨R, hR⟩ : ∃ R, cmpL (foldL c a.data.toList) (foldL c b.data.toList) = R := ⟨_, rfl⟩
  have HC1 : Hid (∀ V, Calls Tryz.prog 66 #[.string a, .int .i64 c] V fun e w' => e = .returned (.string x1) ∧ V = w') := fun V => by have := counted_walk a ha c V; rw [hx1] at this; exact this
  have HC2 : Hid (∀ V, Calls Tryz.prog 66 #[.string b, .int .i64 c] V fun e w' => e = .returned (.string x2) ∧ V = w') := fun V => by have := counted_walk b hb c V; rw [hx2] at this; exact this
  have HF : Hid (∀ V, Calls Tryz.prog 67 #[.int .i64 c] V fun e w' => e = .returned (.func (.func fn) #[] #[]) ∧ V = w') := fun V => by have := byColl_walk c V; rw [hfn] at this; exact this
  have HB : Hid (∀ V, Calls Tryz.prog 65 #[.string x1, .string x2, .func (.func fn) #[] #[]] V fun e w' => e = .returned (.int .i64 R) ∧ Below V.heap.size V w') := fun V => by have := cmpColl a b ha hb c V; rw [hx1, hx2, hfn, hR] at this; exact this
  rw [hR]
  clear hx1 hx2 hfn hR
  go_enter Tryz.func38, Tryz.ntmps38
  go_wp2_with (first
    | (go_at_call 66; with_reducible refine Calls.mono (HC1.out _) ?_; rintro e w1 ⟨rfl, rfl⟩)
    | (go_at_call 66; with_reducible refine Calls.mono (HC2.out _) ?_; rintro e w1 ⟨rfl, rfl⟩)
    | (go_at_call 67; with_reducible refine Calls.mono (HF.out _) ?_; rintro e w1 ⟨rfl, rfl⟩)
    | (go_at_call 65; with_reducible refine Calls.mono (HB.out _) ?_; rintro e w1 ⟨rfl, hb1⟩))
  go_ret
  exact ⟨rfl, hb1⟩

set_option maxHeartbeats 1000000 in
theorem is_walk (a b : ByteArray) (ha : a.size ≤ 1000) (hb : b.size ≤ 1000) (r : Bool) (hr : (cmpL (foldL 1 a.data.toList) (foldL 1 b.data.toList) == 0) = r) (p : Nat) (w : World) (hp : w.cell? ⟨p, 0, none⟩ = some (.string a)) :
    Calls Tryz.prog 37 #[.string b, .pointer (some ⟨p, 0, none⟩)] w fun e w' => e = .returned (.bool r) ∧ Below w.heap.size w w' := by
  have HQ : Hid (∀ V, Calls Tryz.prog 38 #[.string a, .string b, .int .i64 1] V fun e w' => e = .returned (.bool r) ∧ Below V.heap.size V w') := fun V => by have := equal_walk a b (by omega) (by omega) 1 V; rw [hr] at this; exact this
  clear hr
  go_enter Tryz.func37, Tryz.ntmps37
  go_wp2_with (first
    | (go_at_call 38; with_reducible refine Calls.mono (HQ.out _) ?_; rintro e w1 ⟨rfl, hb1⟩))
  go_ret
  exact ⟨rfl, hb1⟩

abbrev strText : ByteArray := ⟨#[116, 101, 120, 116]⟩
abbrev strInt : ByteArray := ⟨#[73, 78, 84, 69, 71, 69, 82]⟩
theorem new_cell (w : World) (v : Value) (T : TypeId) {V : World} (h : Below (w.alloc (.cells #[v] T)).heap.size (w.alloc (.cells #[v] T)) V) : V.cell? ⟨w.heap.size, 0, none⟩ = some v :=
  cell_later h (new_cells w _ _ rfl 0 _ rfl)

set_option maxHeartbeats 1000000 in
theorem aff_text (w : World) : Calls Tryz.prog 18 #[.string strText] w fun e w' => e = .returned (.tuple #[.int .i64 2, .bool true]) ∧ Below w.heap.size w w' := by
  have hmf : ∀ (fn : Fn) (first cap : Array Value) (w : World), (Instr.makeFunc fn first cap).run Tryz.prog w = .ok (.func fn first cap) w := fun _ _ _ _ => rfl
  have HN : Hid (∀ V, Below (w.alloc (.cells #[.string strText] 9)).heap.size (w.alloc (.cells #[.string strText] 9)) V → V.cell? ⟨w.heap.size, 0, none⟩ = some (.string strText)) := fun V h => new_cell w _ 9 h
  have H1 : Hid (∀ V p, V.cell? ⟨p, 0, none⟩ = some (.string strText) → Calls Tryz.prog 37 #[.string ⟨#[73, 78, 84, 69, 71, 69, 82]⟩, .pointer (some ⟨p, 0, none⟩)] V fun e w' => e = .returned (.bool false) ∧ Below V.heap.size V w') := fun V p h => is_walk _ _ (by decide) (by decide) _ (by decide) p V h
  have H2 : Hid (∀ V p, V.cell? ⟨p, 0, none⟩ = some (.string strText) → Calls Tryz.prog 37 #[.string ⟨#[73, 78, 84]⟩, .pointer (some ⟨p, 0, none⟩)] V fun e w' => e = .returned (.bool false) ∧ Below V.heap.size V w') := fun V p h => is_walk _ _ (by decide) (by decide) _ (by decide) p V h
  have H3 : Hid (∀ V p, V.cell? ⟨p, 0, none⟩ = some (.string strText) → Calls Tryz.prog 37 #[.string ⟨#[84, 69, 88, 84]⟩, .pointer (some ⟨p, 0, none⟩)] V fun e w' => e = .returned (.bool true) ∧ Below V.heap.size V w') := fun V p h => is_walk _ _ (by decide) (by decide) _ (by decide) p V h
  have H0 : Hid ((w.alloc (.cells #[.string strText] 9)).cell? ⟨w.heap.size, 0, none⟩ = some (.string strText)) := new_cells w _ _ rfl 0 _ rfl
  go_enter Tryz.func18, Tryz.ntmps18
  go_wp2_with (first
    | (go_at_call 37; with_reducible refine Calls.mono (H1.out _ _ H0.out) ?_; rintro e w1 ⟨rfl, hb1⟩; have HX1 := hide hb1; have HC1 := hide (HN.out _ hb1); clear hb1)
    | (go_at_call 37; with_reducible refine Calls.mono (H2.out _ _ HC1.out) ?_; rintro e w2 ⟨rfl, hb2⟩; have HX2 := hide (below_trans HX1.out hb2); have HC2 := hide (HN.out _ HX2.out); clear hb2)
    | (go_at_call 37; with_reducible refine Calls.mono (H3.out _ _ HC2.out) ?_; rintro e w3 ⟨rfl, hb3⟩; have HX3 := hide (below_trans HX2.out hb3); clear hb3))
  go_ret2
  exact ⟨rfl, below_trans (new_below w _ rfl) HX3.out⟩
set_option maxHeartbeats 1000000 in
theorem aff_int (w : World) : Calls Tryz.prog 18 #[.string strInt] w fun e w' => e = .returned (.tuple #[.int .i64 1, .bool true]) ∧ Below w.heap.size w w' := by
  have hmf : ∀ (fn : Fn) (first cap : Array Value) (w : World), (Instr.makeFunc fn first cap).run Tryz.prog w = .ok (.func fn first cap) w := fun _ _ _ _ => rfl
  have H1 : Hid (∀ V p, V.cell? ⟨p, 0, none⟩ = some (.string strInt) → Calls Tryz.prog 37 #[.string ⟨#[73, 78, 84, 69, 71, 69, 82]⟩, .pointer (some ⟨p, 0, none⟩)] V fun e w' => e = .returned (.bool true) ∧ Below V.heap.size V w') := fun V p h => is_walk _ _ (by decide) (by decide) _ (by decide) p V h
  have H0 : Hid ((w.alloc (.cells #[.string strInt] 9)).cell? ⟨w.heap.size, 0, none⟩ = some (.string strInt)) := new_cells w _ _ rfl 0 _ rfl
  go_enter Tryz.func18, Tryz.ntmps18
  go_wp2_with (first
    | (go_at_call 37; with_reducible refine Calls.mono (H1.out _ _ H0.out) ?_; rintro e w1 ⟨rfl, hb1⟩; have HX1 := hide hb1; clear hb1))
  go_ret2
  exact ⟨rfl, below_trans (new_below w _ rfl) HX1.out⟩
end Go.Proofs.YtoekdeoekcmpgabGreatDoor
