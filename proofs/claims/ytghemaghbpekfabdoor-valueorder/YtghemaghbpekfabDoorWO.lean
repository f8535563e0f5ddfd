/- The walk of ValueOrder. -/
import Derived.Test.YtghemaghbpekfabDoorVC
import Derived.Test.YtghemaghbpekfabDoorVD
namespace Go.Proofs.YtghemaghbpekfabDoor
open Go.ChangeShapes Go.WideShapes Go.ChangeAt Go.RowKit
set_option linter.unusedVariables false

abbrev vc (k n : Int) (t : ByteArray) : Obj := .cells #[.int .i64 k, .int .i64 n, .string t] 24
theorem nine_later (w : World) (k1 n1 : Int) (t1 : ByteArray) (k2 n2 : Int) (t2 : ByteArray) (k3 n3 : Int) (t3 : ByteArray) (V : World) (h : Below (((w.alloc (vc k1 n1 t1)).alloc (vc k2 n2 t2)).alloc (vc k3 n3 t3)).heap.size (((w.alloc (vc k1 n1 t1)).alloc (vc k2 n2 t2)).alloc (vc k3 n3 t3)) V) :
    (V.cell? ⟨w.heap.size, 0, none⟩ = some (.int .i64 k1) ∧ V.cell? ⟨w.heap.size, 1, none⟩ = some (.int .i64 n1) ∧ V.cell? ⟨w.heap.size, 2, none⟩ = some (.string t1)) ∧ (V.cell? ⟨w.heap.size + 1, 0, none⟩ = some (.int .i64 k2) ∧ V.cell? ⟨w.heap.size + 1, 1, none⟩ = some (.int .i64 n2) ∧ V.cell? ⟨w.heap.size + 1, 2, none⟩ = some (.string t2)) ∧ (V.cell? ⟨w.heap.size + 1 + 1, 0, none⟩ = some (.int .i64 k3) ∧ V.cell? ⟨w.heap.size + 1 + 1, 1, none⟩ = some (.int .i64 n3) ∧ V.cell? ⟨w.heap.size + 1 + 1, 2, none⟩ = some (.string t3)) := by
  obtain ⟨p, q, _⟩ := two_later w (.int .i64 k1) (.int .i64 n1) (.string t1) (.int .i64 k2) (.int .i64 n2) (.string t2) 24 V (below_trans (new_below _ _ rfl) h)
  obtain ⟨_, r, _⟩ := two_later (w.alloc (vc k1 n1 t1)) (.int .i64 k2) (.int .i64 n2) (.string t2) (.int .i64 k3) (.int .i64 n3) (.string t3) 24 V h
  have e : (w.alloc (vc k1 n1 t1)).heap.size = w.heap.size + 1 := by show (w.heap.push _).size = _; simp
  rw [e] at r
  exact ⟨p, q, r⟩
theorem three_below (w : World) (A B C : Obj) {V : World} (h : Below (((w.alloc A).alloc B).alloc C).heap.size (((w.alloc A).alloc B).alloc C) V) : Below w.heap.size w V :=
  below_trans (below_trans (below_trans (new_below w _ rfl) (new_below _ _ rfl)) (new_below _ _ rfl)) h

theorem cmpV_same {k1 n1 : Int} {t1 : List UInt8} {k2 n2 : Int} {t2 : List UInt8} (h1 : MayL k1 n1 t1) (h2 : MayL k2 n2 t2) (h : cmpV k1 n1 t1 k2 n2 t2 0 = 0) : k1 = k2 ∧ n1 = n2 ∧ t1 = t2 := by
  unfold cmpV at h
  by_cases hk : k1 = k2
  · subst hk
    rw [if_pos rfl] at h
    unfold MayL at h1 h2
    by_cases d2 : k1 = 2
    · rw [if_pos d2] at h
      have := cmpL_zero _ _ h
      unfold foldL at this
      rw [if_neg (by omega), if_neg (by omega), if_neg (by omega), if_neg (by omega)] at this
      exact ⟨rfl, by omega, this⟩
    · rw [if_neg d2] at h
      by_cases d3 : k1 = 3
      · rw [if_pos d3] at h
        exact ⟨rfl, by omega, cmpL_zero _ _ h⟩
      · rw [if_neg d3, cmpI_zero] at h
        refine ⟨rfl, h, ?_⟩
        have e1 : t1 = [] := by rcases h1 with h1 | h1 | h1; exact h1.2.2; exact h1.2; omega
        have e2 : t2 = [] := by rcases h2 with h2 | h2 | h2; exact h2.2.2; exact h2.2; omega
        rw [e1, e2]
  · rw [if_neg hk, cmpI_zero] at h
    exact absurd h hk

set_option maxHeartbeats 1000000 in
set_option maxRecDepth 10000 in
theorem order_noa (k1 n1 : Int) (t1 : ByteArray) (k2 n2 : Int) (t2 : ByteArray) (k3 n3 : Int) (t3 : ByteArray) (c : Int) (hm1 : mayB k1 n1 t1 = false) (w : World) (hE : Env w) : Calls Tryd.prog 3 #[val k1 n1 t1, val k2 n2 t2, val k3 n3 t3, .int .i64 c] w fun e w' => e = .returned (.bool true) ∧ Below w.heap.size w w' := by
  have HM1 : Hid (∀ V, Calls Tryd.prog 5 #[.agg #[.int .i64 k1, .int .i64 n1, .string t1]] V fun e w' => e = .returned (.bool false) ∧ Below V.heap.size V w') := fun V => by have := may_walk k1 n1 t1 V; rw [hm1] at this; exact this
  have HW : Hid (∀ V, Below (((w.alloc (vc k1 n1 t1)).alloc (vc k2 n2 t2)).alloc (vc k3 n3 t3)).heap.size (((w.alloc (vc k1 n1 t1)).alloc (vc k2 n2 t2)).alloc (vc k3 n3 t3)) V → (V.cell? ⟨w.heap.size, 0, none⟩ = some (.int .i64 k1) ∧ V.cell? ⟨w.heap.size, 1, none⟩ = some (.int .i64 n1) ∧ V.cell? ⟨w.heap.size, 2, none⟩ = some (.string t1)) ∧ (V.cell? ⟨w.heap.size + 1, 0, none⟩ = some (.int .i64 k2) ∧ V.cell? ⟨w.heap.size + 1, 1, none⟩ = some (.int .i64 n2) ∧ V.cell? ⟨w.heap.size + 1, 2, none⟩ = some (.string t2)) ∧ (V.cell? ⟨w.heap.size + 1 + 1, 0, none⟩ = some (.int .i64 k3) ∧ V.cell? ⟨w.heap.size + 1 + 1, 1, none⟩ = some (.int .i64 n3) ∧ V.cell? ⟨w.heap.size + 1 + 1, 2, none⟩ = some (.string t3))) := nine_later w k1 n1 t1 k2 n2 t2 k3 n3 t3
  have HB : Hid (∀ V, Below (((w.alloc (vc k1 n1 t1)).alloc (vc k2 n2 t2)).alloc (vc k3 n3 t3)).heap.size (((w.alloc (vc k1 n1 t1)).alloc (vc k2 n2 t2)).alloc (vc k3 n3 t3)) V → Below w.heap.size w V) := fun V h => three_below w _ _ _ h
  have HE0 : Hid (Env (((w.alloc (vc k1 n1 t1)).alloc (vc k2 n2 t2)).alloc (vc k3 n3 t3))) := hE.below (three_below w _ _ _ (Below.refl _ _))
  clear hE
  go_enter Tryd.func3, Tryd.ntmps3
  go_wp2_with (first
    | (go_at_call 4; with_reducible refine Calls.mono (head_walk _ HE0.out) ?_; rintro e w1 ⟨rfl, hb1⟩; have HX1 := hide hb1; obtain ⟨⟨a0, a1, a2⟩, ⟨b0, b1, b2⟩, c0, c1, c2⟩ := HW.out _ hb1; clear hb1)
    | (go_at_call 5; with_reducible refine Calls.mono (HM1.out _) ?_; rintro e w2 ⟨rfl, hb2⟩; have HX2 := hide (below_trans HX1.out hb2); obtain ⟨⟨a0, a1, a2⟩, ⟨b0, b1, b2⟩, c0, c1, c2⟩ := HW.out _ HX2.out; clear hb2))
  go_ret
  exact ⟨rfl, HB.out _ HX2.out⟩

set_option maxHeartbeats 1000000 in
set_option maxRecDepth 10000 in
theorem order_nob (k1 n1 : Int) (t1 : ByteArray) (k2 n2 : Int) (t2 : ByteArray) (k3 n3 : Int) (t3 : ByteArray) (c : Int) (hm1 : mayB k1 n1 t1 = true) (hm2 : mayB k2 n2 t2 = false) (w : World) (hE : Env w) : Calls Tryd.prog 3 #[val k1 n1 t1, val k2 n2 t2, val k3 n3 t3, .int .i64 c] w fun e w' => e = .returned (.bool true) ∧ Below w.heap.size w w' := by
  have HM1 : Hid (∀ V, Calls Tryd.prog 5 #[.agg #[.int .i64 k1, .int .i64 n1, .string t1]] V fun e w' => e = .returned (.bool true) ∧ Below V.heap.size V w') := fun V => by have := may_walk k1 n1 t1 V; rw [hm1] at this; exact this
  have HM2 : Hid (∀ V, Calls Tryd.prog 5 #[.agg #[.int .i64 k2, .int .i64 n2, .string t2]] V fun e w' => e = .returned (.bool false) ∧ Below V.heap.size V w') := fun V => by have := may_walk k2 n2 t2 V; rw [hm2] at this; exact this
  have HW : Hid (∀ V, Below (((w.alloc (vc k1 n1 t1)).alloc (vc k2 n2 t2)).alloc (vc k3 n3 t3)).heap.size (((w.alloc (vc k1 n1 t1)).alloc (vc k2 n2 t2)).alloc (vc k3 n3 t3)) V → (V.cell? ⟨w.heap.size, 0, none⟩ = some (.int .i64 k1) ∧ V.cell? ⟨w.heap.size, 1, none⟩ = some (.int .i64 n1) ∧ V.cell? ⟨w.heap.size, 2, none⟩ = some (.string t1)) ∧ (V.cell? ⟨w.heap.size + 1, 0, none⟩ = some (.int .i64 k2) ∧ V.cell? ⟨w.heap.size + 1, 1, none⟩ = some (.int .i64 n2) ∧ V.cell? ⟨w.heap.size + 1, 2, none⟩ = some (.string t2)) ∧ (V.cell? ⟨w.heap.size + 1 + 1, 0, none⟩ = some (.int .i64 k3) ∧ V.cell? ⟨w.heap.size + 1 + 1, 1, none⟩ = some (.int .i64 n3) ∧ V.cell? ⟨w.heap.size + 1 + 1, 2, none⟩ = some (.string t3))) := nine_later w k1 n1 t1 k2 n2 t2 k3 n3 t3
  have HB : Hid (∀ V, Below (((w.alloc (vc k1 n1 t1)).alloc (vc k2 n2 t2)).alloc (vc k3 n3 t3)).heap.size (((w.alloc (vc k1 n1 t1)).alloc (vc k2 n2 t2)).alloc (vc k3 n3 t3)) V → Below w.heap.size w V) := fun V h => three_below w _ _ _ h
  have HE0 : Hid (Env (((w.alloc (vc k1 n1 t1)).alloc (vc k2 n2 t2)).alloc (vc k3 n3 t3))) := hE.below (three_below w _ _ _ (Below.refl _ _))
  clear hE
  go_enter Tryd.func3, Tryd.ntmps3
  go_wp2_with (first
    | (go_at_call 4; with_reducible refine Calls.mono (head_walk _ HE0.out) ?_; rintro e w1 ⟨rfl, hb1⟩; have HX1 := hide hb1; obtain ⟨⟨a0, a1, a2⟩, ⟨b0, b1, b2⟩, c0, c1, c2⟩ := HW.out _ hb1; clear hb1)
    | (go_at_call 5; with_reducible refine Calls.mono (HM1.out _) ?_; rintro e w2 ⟨rfl, hb2⟩; have HX2 := hide (below_trans HX1.out hb2); obtain ⟨⟨a0, a1, a2⟩, ⟨b0, b1, b2⟩, c0, c1, c2⟩ := HW.out _ HX2.out; clear hb2)
    | (go_at_call 5; with_reducible refine Calls.mono (HM2.out _) ?_; rintro e w3 ⟨rfl, hb3⟩; have HX3 := hide (below_trans HX2.out hb3); obtain ⟨⟨a0, a1, a2⟩, ⟨b0, b1, b2⟩, c0, c1, c2⟩ := HW.out _ HX3.out; clear hb3))
  go_ret
  exact ⟨rfl, HB.out _ HX3.out⟩

set_option maxHeartbeats 1000000 in
set_option maxRecDepth 10000 in
theorem order_noc (k1 n1 : Int) (t1 : ByteArray) (k2 n2 : Int) (t2 : ByteArray) (k3 n3 : Int) (t3 : ByteArray) (c : Int) (hm1 : mayB k1 n1 t1 = true) (hm2 : mayB k2 n2 t2 = true) (hm3 : mayB k3 n3 t3 = false) (w : World) (hE : Env w) : Calls Tryd.prog 3 #[val k1 n1 t1, val k2 n2 t2, val k3 n3 t3, .int .i64 c] w fun e w' => e = .returned (.bool true) ∧ Below w.heap.size w w' := by
  have HM1 : Hid (∀ V, Calls Tryd.prog 5 #[.agg #[.int .i64 k1, .int .i64 n1, .string t1]] V fun e w' => e = .returned (.bool true) ∧ Below V.heap.size V w') := fun V => by have := may_walk k1 n1 t1 V; rw [hm1] at this; exact this
  have HM2 : Hid (∀ V, Calls Tryd.prog 5 #[.agg #[.int .i64 k2, .int .i64 n2, .string t2]] V fun e w' => e = .returned (.bool true) ∧ Below V.heap.size V w') := fun V => by have := may_walk k2 n2 t2 V; rw [hm2] at this; exact this
  have HM3 : Hid (∀ V, Calls Tryd.prog 5 #[.agg #[.int .i64 k3, .int .i64 n3, .string t3]] V fun e w' => e = .returned (.bool false) ∧ Below V.heap.size V w') := fun V => by have := may_walk k3 n3 t3 V; rw [hm3] at this; exact this
  have HW : Hid (∀ V, Below (((w.alloc (vc k1 n1 t1)).alloc (vc k2 n2 t2)).alloc (vc k3 n3 t3)).heap.size (((w.alloc (vc k1 n1 t1)).alloc (vc k2 n2 t2)).alloc (vc k3 n3 t3)) V → (V.cell? ⟨w.heap.size, 0, none⟩ = some (.int .i64 k1) ∧ V.cell? ⟨w.heap.size, 1, none⟩ = some (.int .i64 n1) ∧ V.cell? ⟨w.heap.size, 2, none⟩ = some (.string t1)) ∧ (V.cell? ⟨w.heap.size + 1, 0, none⟩ = some (.int .i64 k2) ∧ V.cell? ⟨w.heap.size + 1, 1, none⟩ = some (.int .i64 n2) ∧ V.cell? ⟨w.heap.size + 1, 2, none⟩ = some (.string t2)) ∧ (V.cell? ⟨w.heap.size + 1 + 1, 0, none⟩ = some (.int .i64 k3) ∧ V.cell? ⟨w.heap.size + 1 + 1, 1, none⟩ = some (.int .i64 n3) ∧ V.cell? ⟨w.heap.size + 1 + 1, 2, none⟩ = some (.string t3))) := nine_later w k1 n1 t1 k2 n2 t2 k3 n3 t3
  have HB : Hid (∀ V, Below (((w.alloc (vc k1 n1 t1)).alloc (vc k2 n2 t2)).alloc (vc k3 n3 t3)).heap.size (((w.alloc (vc k1 n1 t1)).alloc (vc k2 n2 t2)).alloc (vc k3 n3 t3)) V → Below w.heap.size w V) := fun V h => three_below w _ _ _ h
  have HE0 : Hid (Env (((w.alloc (vc k1 n1 t1)).alloc (vc k2 n2 t2)).alloc (vc k3 n3 t3))) := hE.below (three_below w _ _ _ (Below.refl _ _))
  clear hE
  go_enter Tryd.func3, Tryd.ntmps3
  go_wp2_with (first
    | (go_at_call 4; with_reducible refine Calls.mono (head_walk _ HE0.out) ?_; rintro e w1 ⟨rfl, hb1⟩; have HX1 := hide hb1; obtain ⟨⟨a0, a1, a2⟩, ⟨b0, b1, b2⟩, c0, c1, c2⟩ := HW.out _ hb1; clear hb1)
    | (go_at_call 5; with_reducible refine Calls.mono (HM1.out _) ?_; rintro e w2 ⟨rfl, hb2⟩; have HX2 := hide (below_trans HX1.out hb2); obtain ⟨⟨a0, a1, a2⟩, ⟨b0, b1, b2⟩, c0, c1, c2⟩ := HW.out _ HX2.out; clear hb2)
    | (go_at_call 5; with_reducible refine Calls.mono (HM2.out _) ?_; rintro e w3 ⟨rfl, hb3⟩; have HX3 := hide (below_trans HX2.out hb3); obtain ⟨⟨a0, a1, a2⟩, ⟨b0, b1, b2⟩, c0, c1, c2⟩ := HW.out _ HX3.out; clear hb3)
    | (go_at_call 5; with_reducible refine Calls.mono (HM3.out _) ?_; rintro e w4 ⟨rfl, hb4⟩; have HX4 := hide (below_trans HX3.out hb4); obtain ⟨⟨a0, a1, a2⟩, ⟨b0, b1, b2⟩, c0, c1, c2⟩ := HW.out _ HX4.out; clear hb4))
  go_ret
  exact ⟨rfl, HB.out _ HX4.out⟩

end Go.Proofs.YtghemaghbpekfabDoor
