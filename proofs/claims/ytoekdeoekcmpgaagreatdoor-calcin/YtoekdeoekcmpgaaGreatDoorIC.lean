/- The program's In over any list. -/
import Derived.Test.YtoekdeoekcmpgaaGreatDoorIB
namespace Go.Proofs.YtoekdeoekcmpgaaGreatDoor
open Go.ChangeShapes Go.WideShapes Go.ChangeAt Go.RowKit
set_option linter.unusedVariables false

theorem apart3 {X : World} {b1 b2 : Nat} {o : Obj} (h : X.heap[b2]? = some o) (hne : b1 ≠ b2) (v0 v1 v2 : Value) : (((X.setCell ⟨b1, 0, none⟩ v0).setCell ⟨b1, 1, none⟩ v1).setCell ⟨b1, 2, none⟩ v2).heap[b2]? = some o := by
  rw [Below.heap_setCell _ _ _ _ (Ne.symm hne), Below.heap_setCell _ _ _ _ (Ne.symm hne), Below.heap_setCell _ _ _ _ (Ne.symm hne)]
  exact h

set_option maxHeartbeats 1000000 in
theorem in_bad (c k n : Int) (t : ByteArray) (hm : mayB k n t = false) (v : Value) (w : World) :
    Calls Tryz.prog 20 #[val k n t, v, .int .i64 c] w fun e w' => e = .returned (tv none) ∧ Below w.heap.size w w' := by
  have HM1 : Hid (∀ V, Calls Tryz.prog 32 #[.agg #[.int .i64 k, .int .i64 n, .string t]] V fun e w' => e = .returned (.bool false) ∧ Below V.heap.size V w') := fun V => by have := may_walk k n t V; rw [hm] at this; exact this
  have HW : Hid (∀ V, _ → _) := pr_later w k n t
  clear hm
  go_enter Tryz.func20, Tryz.ntmps20
  go_wp2_with (first
    | (go_at_call 32; with_reducible refine Calls.mono (HM1.out _) ?_; rintro e w1 ⟨rfl, hb1⟩; have HX1 := hide hb1; obtain ⟨⟨p0, p1, p2⟩, q0, q1, q2, ⟨d0, d1, d2, f0, f1, f2⟩, HK1, HB1⟩ := HW.out _ HX1.out; clear hb1))
  exact ret_valg Tryz.results20 rfl HK1.out ⟨rfl, below_set3g HB1.out (Nat.le_succ _) _ _ _⟩

set_option maxHeartbeats 8000000 in
set_option maxRecDepth 10000 in
theorem in_walk (c k n : Int) (t : ByteArray) (hm : mayB k n t = true) (b o len cap : Nat) (K N : Nat → Int) (T : Nat → ByteArray) (hlen : len ≤ 140737488355328) (w : World) (hE : Env w) (h : RowAt w b o len K N T) :
    Calls Tryz.prog 20 #[val k n t, .slice (some ⟨b, o, none⟩) len cap, .int .i64 c] w fun e w' => e = .returned (tv (inX c k n t len K N T)) ∧ Below w.heap.size w w' := by
  have HM1 : Hid (∀ V, Calls Tryz.prog 32 #[.agg #[.int .i64 k, .int .i64 n, .string t]] V fun e w' => e = .returned (.bool true) ∧ Below V.heap.size V w') := fun V => by have := may_walk k n t V; rw [hm] at this; exact this
  have HM : Hid (∀ k n t V, Calls Tryz.prog 32 #[.agg #[.int .i64 k, .int .i64 n, .string t]] V fun e w' => e = .returned (.bool (mayB k n t)) ∧ Below V.heap.size V w') := fun k n t V => may_walk k n t V
  have HTr : Hid (∀ V, Calls Tryz.prog 52 #[.bool false] V fun e w' => e = .returned (val 1 0 ⟨#[]⟩) ∧ Below V.heap.size V w') := fun V => ktruth_walk false V
  have HE : Hid (∀ V, Below w.heap.size w V → Env V) := fun V h => hE.below h
  have HW : Hid (∀ V, _ → _) := pr_later w k n t
  have HR := hide h
  have HMx := hide hm
  clear hm hE h
  go_enter Tryz.func20, Tryz.ntmps20
  go_wp2_with (first
    | (go_at_call 32; with_reducible refine Calls.mono (HM1.out _) ?_; rintro e w1 ⟨rfl, hb1⟩; have HX1 := hide hb1; obtain ⟨⟨p0, p1, p2⟩, q0, q1, q2, ⟨d0, d1, d2, f0, f1, f2⟩, HK1, HB1⟩ := HW.out _ HX1.out; clear hb1)
    | (go_at_call 46; with_reducible refine Calls.mono (ofTwo_eq c _) ?_; rintro e w2 ⟨p, pv, rfl, hA2, hS2, hb2⟩; have HX2 := hide (below_trans HX1.out hb2); have HA2 := hide (eqfn_mk hA2 hS2); obtain ⟨⟨p0, p1, p2⟩, q0, q1, q2, ⟨d0, d1, d2, f0, f1, f2⟩, HK2, HB2⟩ := HW.out _ HX2.out; clear hb2 hA2 hS2)
    | (go_at_call 46; with_reducible refine Calls.mono (ofTwo_or c _) ?_; rintro e w3 ⟨po, rfl, hA3, hb3⟩; have HX3 := hide (below_trans HX2.out hb3); have HA3 := hide (EqFn.later HA2.out hb3); have HO3 := hide hA3; obtain ⟨⟨p0, p1, p2⟩, q0, q1, q2, ⟨d0, d1, d2, f0, f1, f2⟩, HK3, HB3⟩ := HW.out _ HX3.out; clear hb3 hA3)
    | (go_at_call 52; with_reducible refine Calls.mono (HTr.out _) ?_; rintro e w4 ⟨rfl, hb4⟩; have HX4 := hide (below_trans HX3.out hb4); have HA4 := hide (EqFn.later HA3.out hb4); have HO4 := hide (cell_later hb4 HO3.out); obtain ⟨⟨p0, p1, p2⟩, q0, q1, q2, ⟨d0, d1, d2, f0, f1, f2⟩, HK4, HB4⟩ := HW.out _ HX4.out; clear hb4))
  have HR4 := hide (HR.out.later HB4.out)
  have HG4 : Hid (w.heap.size + 1 < w4.heap.size) := (Array.getElem?_eq_some_iff.1 HK4.out).1
  clear p0 p1 p2 q0 q1 q2 d0 d1 d2 f0 f1 f2
  go_loopw [23] (fun iv wr => ∃ j : Nat, j ≤ len ∧ iv = .int .i64 (j : Int) ∧ (∀ i, i < j → mayB (K i) (N i) (T i) = true) ∧ wr.heap[w4.heap.size]? = some (vcells (vk (orX c k n t K N T j)) (vn (orX c k n t K N T j)) ⟨#[]⟩) ∧ Below w4.heap.size w4 wr) (fun i _ => len - (intOf i).toNat)
  case atStart => exact ⟨0, Nat.zero_le _, rfl, fun i h => by omega, heap_alloc_new w4 _, new_below w4 _ rfl⟩
  case round =>
    obtain ⟨j, hj, rfl, hall, hblk, hbel⟩ := hrel
    have HA := hide hall
    have HB := hide hbel
    have HBk := hide hblk
    clear hall hbel hblk
    by_cases hlt : j < len
    · have l1 : (j : Int) < (len : Int) := by omega
      have l0 : (0 : Int) ≤ (j : Int) := by omega
      have hw1 : IntKind.i64.wrap ((j : Int) + 1) = (j : Int) + 1 := by rw [IntKind.wrap_i64]; omega
      obtain ⟨c0, c1, c2⟩ := (HR4.out.later HB.out) j hlt
      cases hmj : mayB (K j) (N j) (T j)
      · have HMj : Hid (∀ V, Calls Tryz.prog 32 #[.agg #[.int .i64 (K j), .int .i64 (N j), .string (T j)]] V fun e w' => e = .returned (.bool false) ∧ Below V.heap.size V w') := fun V => by have := HM.out (K j) (N j) (T j) V; rw [hmj] at this; exact this
        have HIn := hide (inX_row (c := c) (k := k) (n := n) (t := t) hlt hmj)
        clear hmj
        go_wp2_with (first
          | (go_at_call 32; with_reducible refine Calls.mono (HMj.out _) ?_; rintro e w7 ⟨rfl, hb7⟩; have HX7 := hide (below_trans HX4.out (below_trans HB.out (below_trans (new_below _ _ rfl) hb7))); obtain ⟨-, -, -, -, ⟨d0, d1, d2, f0, f1, f2⟩, HK7, HB7⟩ := HW.out _ HX7.out; clear hb7))
        rw [HIn.out]
        exact ret_valg Tryz.results20 rfl HK7.out ⟨rfl, below_set3g HB7.out (Nat.le_succ _) _ _ _⟩
      · have HMj : Hid (∀ V, Calls Tryz.prog 32 #[.agg #[.int .i64 (K j), .int .i64 (N j), .string (T j)]] V fun e w' => e = .returned (.bool true) ∧ Below V.heap.size V w') := fun V => by have := HM.out (K j) (N j) (T j) V; rw [hmj] at this; exact this
        have HMj' := hide hmj
        clear hmj
        go_wp2_with (first
          | (go_at_call 32; with_reducible refine Calls.mono (HMj.out _) ?_; rintro e w7 ⟨rfl, hb7⟩; have HY7 := hide hb7; have HX7 := hide (below_trans HX4.out (below_trans HB.out (below_trans (new_below _ _ rfl) hb7))); obtain ⟨⟨p0, p1, p2⟩, q0, q1, q2, ⟨d0, d1, d2, f0, f1, f2⟩, HK7, HB7⟩ := HW.out _ HX7.out; clear hb7))
        have HZ7 : Hid (∀ V, Below w7.drew.heap.size w7.drew V → Below (wr.alloc (vcells (K j) (N j) (T j))).heap.size (wr.alloc (vcells (K j) (N j) (T j))) V) := fun V h => below_trans HY7.out (below_trans (Below.refl _ _).drew h)
        have HE7 : Hid (∀ V, Below w7.drew.heap.size w7.drew V → Env V) := fun V h => HE.out _ (below_trans HB7.out (below_trans (Below.refl _ _).drew h))
        have HA7 : Hid (∀ V, Below w7.drew.heap.size w7.drew V → EqFn c V p) := fun V h => EqFn.later HA4.out (below_trans HB.out (below_trans (new_below _ _ rfl) (HZ7.out _ h)))
        have HO7 : Hid (∀ V, Below w7.drew.heap.size w7.drew V → V.cell? ⟨po, 0, none⟩ = some (.bool true)) := fun V h => cell_later (below_trans HB.out (below_trans (new_below _ _ rfl) (HZ7.out _ h))) HO4.out
        have HC : Hid (∀ V p, EqFn c V p → _) := eq_fn c k n t (K j) (N j) (T j)
        have HO : Hid (∀ V p, Env V → _) := or_fn (orX c k n t K N T j) (eqX c k n t (K j) (N j) (T j))
        obtain ⟨⟨p0, p1, p2⟩, -⟩ := HW.out w7.drew (below_trans HX7.out (Below.refl _ _).drew)
        obtain ⟨⟨i0, i1, i2⟩, ⟨v0, v1, v2⟩, -⟩ := two_laterg HBk.out (.int .i64 (K j)) (.int .i64 (N j)) (.string (T j)) w7.drew (below_trans HY7.out (Below.refl _ _).drew)
        have HX7d := hide (below_trans HX7.out (Below.refl _ _).drew)
        go_region_with (first
          | (go_at_call 112; with_reducible refine Calls.mono (HC.out _ _ (HA7.out _ (Below.refl _ _))) ?_; rintro e w8 ⟨rfl, hb8⟩; have HX8 := hide hb8; obtain ⟨⟨j0, j1, j2⟩, -, ⟨k0, k1, kk2⟩, -, -⟩ := two_laterg HBk.out (.int .i64 (K j)) (.int .i64 (N j)) (.string (T j)) _ (HZ7.out _ HX8.out); clear hb8)
          | (go_at_call 116; with_reducible refine Calls.mono (HO.out _ _ (HE7.out _ HX8.out) (HO7.out _ HX8.out)) ?_; rintro e w9 ⟨rfl, hb9⟩; have HX9 := hide (below_trans HX8.out hb9); obtain ⟨⟨j0, j1, j2⟩, -, ⟨k0, k1, kk2⟩, HBk9, -⟩ := two_laterg HBk.out (.int .i64 (K j)) (.int .i64 (N j)) (.string (T j)) _ (HZ7.out _ HX9.out); clear hb9))
        all_goals
          have HBY := hide (below_set3g (below_trans HB.out (below_trans (new_below _ _ rfl) (HZ7.out _ HX9.out))) (Nat.le_refl _) (.int .i64 (vk (setT true (orX c k n t K N T j) (eqX c k n t (K j) (N j) (T j))))) (.int .i64 (vn (setT true (orX c k n t K N T j) (eqX c k n t (K j) (N j) (T j))))) (.string ⟨#[]⟩))
          have HKY := hide (set3_block HBk9.out (.int .i64 (vk (setT true (orX c k n t K N T j) (eqX c k n t (K j) (N j) (T j))))) (.int .i64 (vn (setT true (orX c k n t K N T j) (eqX c k n t (K j) (N j) (T j))))) (.string ⟨#[]⟩))
          go_wp2_with fail
          refine ⟨⟨j + 1, hlt, rfl, fun i hi => ?_, HKY.out, HBY.out⟩, ?_⟩
          · by_cases e : i = j
            · subst e; exact HMj'.out
            · exact HA.out i (by omega)
          · simp only [intOf]
            omega
    · have l1 : ¬ (j : Int) < (len : Int) := by omega
      obtain rfl : j = len := by omega
      obtain ⟨i0, i1, i2, -, -, -⟩ := res_facts HBk.out
      obtain ⟨-, -, -, -, ⟨d0, d1, d2, f0, f1, f2⟩, HK7, HB7⟩ := HW.out _ (below_trans HX4.out HB.out)
      go_wp2_with fail
      rw [inX_ok HMx.out HA.out]
      exact ret_valg Tryz.results20 rfl HK7.out ⟨rfl, below_set3g HB7.out (Nat.le_succ _) _ _ _⟩
end Go.Proofs.YtoekdeoekcmpgaaGreatDoor
