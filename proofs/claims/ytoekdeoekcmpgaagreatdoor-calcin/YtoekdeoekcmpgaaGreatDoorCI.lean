/- The document's Binary at texts. -/
/- What both make of two values at every operator; the walk of CalcBinary. -/
import Derived.Test.YtoekdeoekcmpgaaGreatDoorCD
import Derived.Test.YtoekdeoekcmpgaaGreatDoorBX
import Derived.Test.YtoekdeoekcmpgaaGreatDoorBY
namespace Go.Proofs.YtoekdeoekcmpgaaGreatDoor
open Go.ChangeShapes Go.WideShapes Go.ChangeAt Go.RowKit
set_option linter.unusedVariables false

theorem showV_null (n : Int) (t : ByteArray) : showV 0 n t = val 0 0 ⟨#[]⟩ := by
  unfold showV
  split
  · rw [if_neg (by decide), if_neg (by decide)]
  · rfl

theorem showV_text (k n : Int) (t : ByteArray) (h0 : -9223372036854775808 ≤ n) (h1 : n ≤ 9223372036854775807) (hm : mayB k n t = true) (hk : k ≠ 0) : showV k n t = val 2 0 (showT k n t) := by
  have hM : MayL k n t.data.toList := by simpa [mayB] using hm
  unfold showV showT
  rw [if_pos hM]
  by_cases k1 : k = 1
  · subst k1
    rw [if_pos rfl, if_pos rfl]
    unfold textV
    rw [if_pos]
    have := itoa_length n h0 h1
    show (Lib.itoa n).toArray.size ≤ 400
    rw [List.size_toArray]; omega
  · rw [if_neg k1, if_neg k1]
    unfold MayL at hM
    unfold textV
    by_cases k2 : k = 2 ∨ k = 3
    · rw [if_pos k2, if_pos]
      have hz : t.data.toList.length = t.size := by rw [Array.length_toList]; rfl
      rcases k2 with rfl | rfl
      · simp at hM; omega
      · simp at hM; omega
    · exfalso
      simp [hk, k1] at hM
      omega

set_option maxHeartbeats 1000000 in
set_option maxRecDepth 10000 in
theorem rbin_con_none1 (c k n : Int) (t : ByteArray) (k2 n2 : Int) (t2 : ByteArray) (hm1 : mayB k n t = true) (hm2 : mayB k2 n2 t2 = true) (e1 e2 : Int) (e3 : ByteArray) (Hs : ∀ V, Env V → Calls Tryz.prog 15 #[.agg #[.int .i64 k, .int .i64 n, .string t]] V fun e w' => e = .returned (.agg #[.int .i64 0, .int .i64 0, .string ⟨#[]⟩]) ∧ Below V.heap.size V w') (Hu : ∀ V, Env V → Calls Tryz.prog 15 #[.agg #[.int .i64 k2, .int .i64 n2, .string t2]] V fun e w' => e = .returned (.agg #[.int .i64 e1, .int .i64 e2, .string e3]) ∧ Below V.heap.size V w') (w : World) (hE : Env w) :
    Calls Tryz.prog 19 #[.int .i64 12, val k n t, val k2 n2 t2, .int .i64 c] w fun e w' => e = .returned (.tuple #[val 0 0 ⟨#[]⟩, .int .i64 0]) ∧ Below w.heap.size w w' := by
  have HM1 : Hid (∀ V, Calls Tryz.prog 36 #[.agg #[.int .i64 k, .int .i64 n, .string t]] V fun e w' => e = .returned (.bool true) ∧ Below V.heap.size V w') := fun V => by have := rmay_walk k n t V; rw [hm1] at this; exact this
  have HM2 : Hid (∀ V, Calls Tryz.prog 36 #[.agg #[.int .i64 k2, .int .i64 n2, .string t2]] V fun e w' => e = .returned (.bool true) ∧ Below V.heap.size V w') := fun V => by have := rmay_walk k2 n2 t2 V; rw [hm2] at this; exact this
  have HW : Hid (∀ V, _ → _) := pr2_later w k n t k2 n2 t2
  have HE : Hid (∀ V, Below (((w.alloc (vcells k n t)).alloc (vcells k2 n2 t2)).alloc nilcells).heap.size (((w.alloc (vcells k n t)).alloc (vcells k2 n2 t2)).alloc nilcells) V → Env V) := fun V h => (((hE.below (new_below w _ rfl)).below (new_below _ _ rfl)).below (new_below _ _ rfl)).below h
  have HS1 := hide Hs
  have HS2 := hide Hu
  clear hm1 hm2 hE Hs Hu
  go_enter Tryz.func19, Tryz.ntmps19
  go_wp2_with (first
    | (go_at_call 36; with_reducible refine Calls.mono (HM1.out _) ?_; rintro e w1 ⟨rfl, hb1⟩; have HX1 := hide hb1; obtain ⟨⟨p0, p1, p2⟩, ⟨q0, q1, q2⟩, ⟨d0, d1, d2, f0, f1, f2⟩, HK1, HB1⟩ := HW.out _ HX1.out; clear hb1)
    | (go_at_call 36; with_reducible refine Calls.mono (HM2.out _) ?_; rintro e w2 ⟨rfl, hb2⟩; have HX2 := hide (below_trans HX1.out hb2); obtain ⟨⟨p0, p1, p2⟩, ⟨q0, q1, q2⟩, ⟨d0, d1, d2, f0, f1, f2⟩, HK2, HB2⟩ := HW.out _ HX2.out; clear hb2)
    | (go_at_call 15; with_reducible refine Calls.mono (HS1.out _ (HE.out _ HX2.out)) ?_; rintro e w3 ⟨rfl, hb3⟩; have HX3 := hide (below_trans HX2.out (below_trans hb3 (new_below w3 (.cells #[.int .i64 0, .int .i64 0, .string ⟨#[]⟩] 24) rfl))); obtain ⟨⟨p0, p1, p2⟩, ⟨q0, q1, q2⟩, ⟨d0, d1, d2, f0, f1, f2⟩, HK3, HB3⟩ := HW.out _ HX3.out; clear hb3)
    | (go_at_call 15; with_reducible refine Calls.mono (HS2.out _ (HE.out _ HX3.out)) ?_; rintro e w4 ⟨rfl, hb4⟩; have HX4 := hide (below_trans HX3.out (below_trans hb4 (new_below w4 (.cells #[.int .i64 e1, .int .i64 e2, .string e3] 24) rfl))); obtain ⟨a0, aa, ab, b0, b1, b2⟩ := later_block w3 (.int .i64 0) (.int .i64 0) (.string ⟨#[]⟩) 24 _ (below_trans hb4 (new_below w4 (.cells #[.int .i64 e1, .int .i64 e2, .string e3] 24) rfl)); clear hb4)
    | (go_at_call 37; with_reducible refine Calls.mono (rnull_walk _) ?_; rintro e w9 ⟨rfl, hb9⟩; have HX9 := hide (below_trans HX4.out hb9); obtain ⟨⟨p0, p1, p2⟩, ⟨q0, q1, q2⟩, ⟨d0, d1, d2, f0, f1, f2⟩, HK9, HB9⟩ := HW.out _ HX9.out; clear hb9))
  exact ret_val2g Tryz.results19 rfl rfl HK9.out ⟨rfl, below_set3g HB9.out (Nat.le_succ_of_le (Nat.le_succ _)) _ _ _⟩

set_option maxHeartbeats 1000000 in
set_option maxRecDepth 10000 in
theorem rbin_con_none2 (c k n : Int) (t : ByteArray) (k2 n2 : Int) (t2 : ByteArray) (hm1 : mayB k n t = true) (hm2 : mayB k2 n2 t2 = true) (s : ByteArray) (Hs : ∀ V, Env V → Calls Tryz.prog 15 #[.agg #[.int .i64 k, .int .i64 n, .string t]] V fun e w' => e = .returned (.agg #[.int .i64 2, .int .i64 0, .string s]) ∧ Below V.heap.size V w') (Hu : ∀ V, Env V → Calls Tryz.prog 15 #[.agg #[.int .i64 k2, .int .i64 n2, .string t2]] V fun e w' => e = .returned (.agg #[.int .i64 0, .int .i64 0, .string ⟨#[]⟩]) ∧ Below V.heap.size V w') (w : World) (hE : Env w) :
    Calls Tryz.prog 19 #[.int .i64 12, val k n t, val k2 n2 t2, .int .i64 c] w fun e w' => e = .returned (.tuple #[val 0 0 ⟨#[]⟩, .int .i64 0]) ∧ Below w.heap.size w w' := by
  have HM1 : Hid (∀ V, Calls Tryz.prog 36 #[.agg #[.int .i64 k, .int .i64 n, .string t]] V fun e w' => e = .returned (.bool true) ∧ Below V.heap.size V w') := fun V => by have := rmay_walk k n t V; rw [hm1] at this; exact this
  have HM2 : Hid (∀ V, Calls Tryz.prog 36 #[.agg #[.int .i64 k2, .int .i64 n2, .string t2]] V fun e w' => e = .returned (.bool true) ∧ Below V.heap.size V w') := fun V => by have := rmay_walk k2 n2 t2 V; rw [hm2] at this; exact this
  have HW : Hid (∀ V, _ → _) := pr2_later w k n t k2 n2 t2
  have HE : Hid (∀ V, Below (((w.alloc (vcells k n t)).alloc (vcells k2 n2 t2)).alloc nilcells).heap.size (((w.alloc (vcells k n t)).alloc (vcells k2 n2 t2)).alloc nilcells) V → Env V) := fun V h => (((hE.below (new_below w _ rfl)).below (new_below _ _ rfl)).below (new_below _ _ rfl)).below h
  have HS1 := hide Hs
  have HS2 := hide Hu
  clear hm1 hm2 hE Hs Hu
  go_enter Tryz.func19, Tryz.ntmps19
  go_wp2_with (first
    | (go_at_call 36; with_reducible refine Calls.mono (HM1.out _) ?_; rintro e w1 ⟨rfl, hb1⟩; have HX1 := hide hb1; obtain ⟨⟨p0, p1, p2⟩, ⟨q0, q1, q2⟩, ⟨d0, d1, d2, f0, f1, f2⟩, HK1, HB1⟩ := HW.out _ HX1.out; clear hb1)
    | (go_at_call 36; with_reducible refine Calls.mono (HM2.out _) ?_; rintro e w2 ⟨rfl, hb2⟩; have HX2 := hide (below_trans HX1.out hb2); obtain ⟨⟨p0, p1, p2⟩, ⟨q0, q1, q2⟩, ⟨d0, d1, d2, f0, f1, f2⟩, HK2, HB2⟩ := HW.out _ HX2.out; clear hb2)
    | (go_at_call 15; with_reducible refine Calls.mono (HS1.out _ (HE.out _ HX2.out)) ?_; rintro e w3 ⟨rfl, hb3⟩; have HX3 := hide (below_trans HX2.out (below_trans hb3 (new_below w3 (.cells #[.int .i64 2, .int .i64 0, .string s] 24) rfl))); obtain ⟨⟨p0, p1, p2⟩, ⟨q0, q1, q2⟩, ⟨d0, d1, d2, f0, f1, f2⟩, HK3, HB3⟩ := HW.out _ HX3.out; clear hb3)
    | (go_at_call 15; with_reducible refine Calls.mono (HS2.out _ (HE.out _ HX3.out)) ?_; rintro e w4 ⟨rfl, hb4⟩; have HX4 := hide (below_trans HX3.out (below_trans hb4 (new_below w4 (.cells #[.int .i64 0, .int .i64 0, .string ⟨#[]⟩] 24) rfl))); obtain ⟨a0, aa, ab, b0, b1, b2⟩ := later_block w3 (.int .i64 2) (.int .i64 0) (.string s) 24 _ (below_trans hb4 (new_below w4 (.cells #[.int .i64 0, .int .i64 0, .string ⟨#[]⟩] 24) rfl)); clear hb4)
    | (go_at_call 37; with_reducible refine Calls.mono (rnull_walk _) ?_; rintro e w9 ⟨rfl, hb9⟩; have HX9 := hide (below_trans HX4.out hb9); obtain ⟨⟨p0, p1, p2⟩, ⟨q0, q1, q2⟩, ⟨d0, d1, d2, f0, f1, f2⟩, HK9, HB9⟩ := HW.out _ HX9.out; clear hb9))
  exact ret_val2g Tryz.results19 rfl rfl HK9.out ⟨rfl, below_set3g HB9.out (Nat.le_succ_of_le (Nat.le_succ _)) _ _ _⟩

set_option maxHeartbeats 1000000 in
set_option maxRecDepth 10000 in
theorem rbin_con_ok (c k n : Int) (t : ByteArray) (k2 n2 : Int) (t2 : ByteArray) (hm1 : mayB k n t = true) (hm2 : mayB k2 n2 t2 = true) (s u : ByteArray) (c1 c2 : Int) (c3 : ByteArray) (hc : textV (s ++ u) = val c1 c2 c3) (hz : ¬ 9223372036854775807 < s.size + u.size) (Hs : ∀ V, Env V → Calls Tryz.prog 15 #[.agg #[.int .i64 k, .int .i64 n, .string t]] V fun e w' => e = .returned (.agg #[.int .i64 2, .int .i64 0, .string s]) ∧ Below V.heap.size V w') (Hu : ∀ V, Env V → Calls Tryz.prog 15 #[.agg #[.int .i64 k2, .int .i64 n2, .string t2]] V fun e w' => e = .returned (.agg #[.int .i64 2, .int .i64 0, .string u]) ∧ Below V.heap.size V w') (w : World) (hE : Env w) :
    Calls Tryz.prog 19 #[.int .i64 12, val k n t, val k2 n2 t2, .int .i64 c] w fun e w' => e = .returned (.tuple #[val c1 c2 c3, .int .i64 0]) ∧ Below w.heap.size w w' := by
  have HM1 : Hid (∀ V, Calls Tryz.prog 36 #[.agg #[.int .i64 k, .int .i64 n, .string t]] V fun e w' => e = .returned (.bool true) ∧ Below V.heap.size V w') := fun V => by have := rmay_walk k n t V; rw [hm1] at this; exact this
  have HM2 : Hid (∀ V, Calls Tryz.prog 36 #[.agg #[.int .i64 k2, .int .i64 n2, .string t2]] V fun e w' => e = .returned (.bool true) ∧ Below V.heap.size V w') := fun V => by have := rmay_walk k2 n2 t2 V; rw [hm2] at this; exact this
  have HW : Hid (∀ V, _ → _) := pr2_later w k n t k2 n2 t2
  have HE : Hid (∀ V, Below (((w.alloc (vcells k n t)).alloc (vcells k2 n2 t2)).alloc nilcells).heap.size (((w.alloc (vcells k n t)).alloc (vcells k2 n2 t2)).alloc nilcells) V → Env V) := fun V h => (((hE.below (new_below w _ rfl)).below (new_below _ _ rfl)).below (new_below _ _ rfl)).below h
  have HS1 := hide Hs
  have HS2 := hide Hu
  have HT : Hid (∀ V, Calls Tryz.prog 43 #[.string (s ++ u)] V fun e w' => e = .returned (val c1 c2 c3) ∧ Below V.heap.size V w') := fun V => by rw [← hc]; exact rtext_walk (s ++ u) V
  clear hc
  clear hm1 hm2 hE Hs Hu
  go_enter Tryz.func19, Tryz.ntmps19
  go_wp2_with (first
    | (go_at_call 36; with_reducible refine Calls.mono (HM1.out _) ?_; rintro e w1 ⟨rfl, hb1⟩; have HX1 := hide hb1; obtain ⟨⟨p0, p1, p2⟩, ⟨q0, q1, q2⟩, ⟨d0, d1, d2, f0, f1, f2⟩, HK1, HB1⟩ := HW.out _ HX1.out; clear hb1)
    | (go_at_call 36; with_reducible refine Calls.mono (HM2.out _) ?_; rintro e w2 ⟨rfl, hb2⟩; have HX2 := hide (below_trans HX1.out hb2); obtain ⟨⟨p0, p1, p2⟩, ⟨q0, q1, q2⟩, ⟨d0, d1, d2, f0, f1, f2⟩, HK2, HB2⟩ := HW.out _ HX2.out; clear hb2)
    | (go_at_call 15; with_reducible refine Calls.mono (HS1.out _ (HE.out _ HX2.out)) ?_; rintro e w3 ⟨rfl, hb3⟩; have HX3 := hide (below_trans HX2.out (below_trans hb3 (new_below w3 (.cells #[.int .i64 2, .int .i64 0, .string s] 24) rfl))); obtain ⟨⟨p0, p1, p2⟩, ⟨q0, q1, q2⟩, ⟨d0, d1, d2, f0, f1, f2⟩, HK3, HB3⟩ := HW.out _ HX3.out; clear hb3)
    | (go_at_call 15; with_reducible refine Calls.mono (HS2.out _ (HE.out _ HX3.out)) ?_; rintro e w4 ⟨rfl, hb4⟩; have HX4 := hide (below_trans HX3.out (below_trans hb4 (new_below w4 (.cells #[.int .i64 2, .int .i64 0, .string u] 24) rfl))); obtain ⟨a0, aa, ab, b0, b1, b2⟩ := later_block w3 (.int .i64 2) (.int .i64 0) (.string s) 24 _ (below_trans hb4 (new_below w4 (.cells #[.int .i64 2, .int .i64 0, .string u] 24) rfl)); clear hb4)
    | (go_at_call 43; with_reducible refine Calls.mono (HT.out _) ?_; rintro e w9 ⟨rfl, hb9⟩; have HX9 := hide (below_trans HX4.out hb9); obtain ⟨⟨p0, p1, p2⟩, ⟨q0, q1, q2⟩, ⟨d0, d1, d2, f0, f1, f2⟩, HK9, HB9⟩ := HW.out _ HX9.out; clear hb9))
  exact ret_val2g Tryz.results19 rfl rfl HK9.out ⟨rfl, below_set3g HB9.out (Nat.le_succ_of_le (Nat.le_succ _)) _ _ _⟩

theorem rbin_concat (c k n : Int) (t : ByteArray) (k2 n2 : Int) (t2 : ByteArray) (hm1 : mayB k n t = true) (hm2 : mayB k2 n2 t2 = true) (h0 : -9223372036854775808 ≤ n) (h1 : n ≤ 9223372036854775807) (g0 : -9223372036854775808 ≤ n2) (g1 : n2 ≤ 9223372036854775807) (w : World) (hE : Env w) :
    Calls Tryz.prog 19 #[.int .i64 12, val k n t, val k2 n2 t2, .int .i64 c] w fun e w' => e = .returned (.tuple #[nulV k k2 (textV (showT k n t ++ showT k2 n2 t2)), .int .i64 0]) ∧ Below w.heap.size w w' := by
  have A : ∀ V, Env V → _ := fun V hV => rshow_walk k n t h0 h1 V hV
  have B : ∀ V, Env V → _ := fun V hV => rshow_walk k2 n2 t2 g0 g1 V hV
  unfold nulV
  by_cases hk : k = 0
  · subst hk
    rw [if_pos (.inl rfl)]
    rw [showV_null] at A
    by_cases hk2 : k2 = 0
    · subst hk2
      rw [showV_null] at B
      exact rbin_con_none1 c 0 n t 0 n2 t2 hm1 hm2 0 0 ⟨#[]⟩ A B w hE
    · rw [showV_text k2 n2 t2 g0 g1 hm2 hk2] at B
      exact rbin_con_none1 c 0 n t k2 n2 t2 hm1 hm2 2 0 _ A B w hE
  rw [showV_text k n t h0 h1 hm1 hk] at A
  by_cases hk2 : k2 = 0
  · subst hk2
    rw [if_pos (.inr rfl)]
    rw [showV_null] at B
    exact rbin_con_none2 c k n t 0 n2 t2 hm1 hm2 _ A B w hE
  rw [if_neg (by omega)]
  rw [showV_text k2 n2 t2 g0 g1 hm2 hk2] at B
  obtain ⟨c1, c2, c3, hc⟩ := textV_val (showT k n t ++ showT k2 n2 t2)
  rw [hc]
  exact rbin_con_ok c k n t k2 n2 t2 hm1 hm2 _ _ c1 c2 c3 hc (by have := (show_some h0 h1 hm1 hk).2; have := (show_some g0 g1 hm2 hk2).2; omega) A B w hE
end Go.Proofs.YtoekdeoekcmpgaaGreatDoor

namespace Go.Proofs.YtoekdeoekcmpgaaGreatDoor
open Go.ChangeShapes Go.WideShapes Go.ChangeAt Go.RowKit
set_option linter.unusedVariables false

/-- Both answer the same. -/
def Both (op c k n : Int) (t : ByteArray) (k2 n2 : Int) (t2 : ByteArray) : Prop :=
  ∃ a1 a2 a3 er, (∀ V, Env V → Calls Tryz.prog 18 #[.int .i64 op, val k n t, val k2 n2 t2, .int .i64 c] V fun e w' => e = .returned (.tuple #[val a1 a2 a3, .int .i64 er]) ∧ Below V.heap.size V w') ∧
    (∀ V, Env V → Calls Tryz.prog 19 #[.int .i64 op, val k n t, val k2 n2 t2, .int .i64 c] V fun e w' => e = .returned (.tuple #[val a1 a2 a3, .int .i64 er]) ∧ Below V.heap.size V w')

theorem both_of (op c k n : Int) (t : ByteArray) (k2 n2 : Int) (t2 : ByteArray) (v : Value) (hv : ∃ a1 a2 a3, v = val a1 a2 a3) (er : Int)
    (h1 : ∀ V, Env V → Calls Tryz.prog 18 #[.int .i64 op, val k n t, val k2 n2 t2, .int .i64 c] V fun e w' => e = .returned (.tuple #[v, .int .i64 er]) ∧ Below V.heap.size V w')
    (h2 : ∀ V, Env V → Calls Tryz.prog 19 #[.int .i64 op, val k n t, val k2 n2 t2, .int .i64 c] V fun e w' => e = .returned (.tuple #[v, .int .i64 er]) ∧ Below V.heap.size V w') : Both op c k n t k2 n2 t2 := by
  obtain ⟨a1, a2, a3, rfl⟩ := hv
  exact ⟨a1, a2, a3, er, h1, h2⟩

theorem nulV_val (k k2 : Int) (v : Value) (hv : ∃ a1 a2 a3, v = val a1 a2 a3) : ∃ a1 a2 a3, nulV k k2 v = val a1 a2 a3 := by
  unfold nulV
  split
  · exact ⟨_, _, _, rfl⟩
  · exact hv

theorem truth_both (o : Option Int) : truthB o = .tuple #[.bool (truthI o == 1), .bool (decide (0 ≤ truthI o))] := by
  cases o with
  | none => rfl
  | some m => by_cases h : m = 0 <;> simp [truthB, truthI, h]

theorem both_add (c k n : Int) (t : ByteArray) (k2 n2 : Int) (t2 : ByteArray) (hm1 : mayB k n t = true) (hm2 : mayB k2 n2 t2 = true) (h0 : -9223372036854775808 ≤ n) (h1 : n ≤ 9223372036854775807) (g0 : -9223372036854775808 ≤ n2) (g1 : n2 ≤ 9223372036854775807) : Both 7 c k n t k2 n2 t2 :=
  both_of _ _ _ _ _ _ _ _ _ (optV_val _) 0 (fun V hV => bin_add c k n t k2 n2 t2 h0 h1 g0 g1 hm1 hm2 V hV) (fun V _ => rbin_ar 7 c k n t k2 n2 t2 (by decide) (by decide) (by decide) hm1 hm2 h0 h1 g0 g1 sumO (fun x y hx hy U => rarith_add x y hx hy U) V)
theorem both_sub (c k n : Int) (t : ByteArray) (k2 n2 : Int) (t2 : ByteArray) (hm1 : mayB k n t = true) (hm2 : mayB k2 n2 t2 = true) (h0 : -9223372036854775808 ≤ n) (h1 : n ≤ 9223372036854775807) (g0 : -9223372036854775808 ≤ n2) (g1 : n2 ≤ 9223372036854775807) : Both 8 c k n t k2 n2 t2 :=
  both_of _ _ _ _ _ _ _ _ _ (optV_val _) 0 (fun V hV => bin_sub c k n t k2 n2 t2 h0 h1 g0 g1 hm1 hm2 V hV) (fun V _ => rbin_ar 8 c k n t k2 n2 t2 (by decide) (by decide) (by decide) hm1 hm2 h0 h1 g0 g1 difO (fun x y hx hy U => rarith_sub x y hx hy U) V)
theorem both_mul (c k n : Int) (t : ByteArray) (k2 n2 : Int) (t2 : ByteArray) (hm1 : mayB k n t = true) (hm2 : mayB k2 n2 t2 = true) (h0 : -9223372036854775808 ≤ n) (h1 : n ≤ 9223372036854775807) (g0 : -9223372036854775808 ≤ n2) (g1 : n2 ≤ 9223372036854775807) : Both 9 c k n t k2 n2 t2 :=
  both_of _ _ _ _ _ _ _ _ _ (optV_val _) 0 (fun V hV => bin_mul c k n t k2 n2 t2 h0 h1 g0 g1 hm1 hm2 V hV) (fun V _ => rbin_ar 9 c k n t k2 n2 t2 (by decide) (by decide) (by decide) hm1 hm2 h0 h1 g0 g1 mulO (fun x y hx hy U => rarith_mul x y hx hy U) V)
theorem both_div (c k n : Int) (t : ByteArray) (k2 n2 : Int) (t2 : ByteArray) (hm1 : mayB k n t = true) (hm2 : mayB k2 n2 t2 = true) (h0 : -9223372036854775808 ≤ n) (h1 : n ≤ 9223372036854775807) (g0 : -9223372036854775808 ≤ n2) (g1 : n2 ≤ 9223372036854775807) : Both 10 c k n t k2 n2 t2 :=
  both_of _ _ _ _ _ _ _ _ _ (optV_val _) 0 (fun V hV => bin_div c k n t k2 n2 t2 h0 h1 g0 g1 hm1 hm2 V hV) (fun V _ => rbin_ar 10 c k n t k2 n2 t2 (by decide) (by decide) (by decide) hm1 hm2 h0 h1 g0 g1 quoO (fun x y hx hy U => rarith_div x y hx hy U) V)
theorem both_rem (c k n : Int) (t : ByteArray) (k2 n2 : Int) (t2 : ByteArray) (hm1 : mayB k n t = true) (hm2 : mayB k2 n2 t2 = true) (h0 : -9223372036854775808 ≤ n) (h1 : n ≤ 9223372036854775807) (g0 : -9223372036854775808 ≤ n2) (g1 : n2 ≤ 9223372036854775807) : Both 11 c k n t k2 n2 t2 :=
  both_of _ _ _ _ _ _ _ _ _ (optV_val _) 0 (fun V hV => bin_rem c k n t k2 n2 t2 h0 h1 g0 g1 hm1 hm2 V hV) (fun V _ => rbin_ar 11 c k n t k2 n2 t2 (by decide) (by decide) (by decide) hm1 hm2 h0 h1 g0 g1 remO (fun x y hx hy U => rarith_rem x y hx hy U) V)
theorem both_concat (c k n : Int) (t : ByteArray) (k2 n2 : Int) (t2 : ByteArray) (hm1 : mayB k n t = true) (hm2 : mayB k2 n2 t2 = true) (h0 : -9223372036854775808 ≤ n) (h1 : n ≤ 9223372036854775807) (g0 : -9223372036854775808 ≤ n2) (g1 : n2 ≤ 9223372036854775807) : Both 12 c k n t k2 n2 t2 :=
  both_of _ _ _ _ _ _ _ _ _ (nulV_val _ _ _ (textV_val _)) 0 (fun V hV => bin_concat c k n t k2 n2 t2 h0 h1 g0 g1 hm1 hm2 V hV) (fun V hV => rbin_concat c k n t k2 n2 t2 hm1 hm2 h0 h1 g0 g1 V hV)
theorem both_eq (c k n : Int) (t : ByteArray) (k2 n2 : Int) (t2 : ByteArray) (hm1 : mayB k n t = true) (hm2 : mayB k2 n2 t2 = true) : Both 13 c k n t k2 n2 t2 := by
  refine both_of _ _ _ _ _ _ _ _ _ (nulV_val _ _ _ ⟨_, _, _, rfl⟩) 0 (fun V hV => bin_eq c k n t k2 n2 t2 hm1 hm2 V hV) (fun V _ => ?_)
  unfold nulV
  by_cases hk : k = 0
  · subst hk
    rw [if_pos (.inl rfl)]
    exact rbinA_13 c n t n2 t2 k2 hm1 hm2 V
  by_cases hk2 : k2 = 0
  · subst hk2
    rw [if_pos (.inr rfl)]
    exact rbinB_13 c n t n2 t2 k (by simpa using hk) hm1 hm2 V
  rw [if_neg (by omega)]
  exact rbin_eq c k n t k2 n2 t2 hm1 hm2 (by simpa using hk) (by simpa using hk2) V
theorem both_ne (c k n : Int) (t : ByteArray) (k2 n2 : Int) (t2 : ByteArray) (hm1 : mayB k n t = true) (hm2 : mayB k2 n2 t2 = true) : Both 14 c k n t k2 n2 t2 := by
  refine both_of _ _ _ _ _ _ _ _ _ (nulV_val _ _ _ ⟨_, _, _, rfl⟩) 0 (fun V hV => bin_ne c k n t k2 n2 t2 hm1 hm2 V hV) (fun V _ => ?_)
  unfold nulV
  by_cases hk : k = 0
  · subst hk
    rw [if_pos (.inl rfl)]
    exact rbinA_14 c n t n2 t2 k2 hm1 hm2 V
  by_cases hk2 : k2 = 0
  · subst hk2
    rw [if_pos (.inr rfl)]
    exact rbinB_14 c n t n2 t2 k (by simpa using hk) hm1 hm2 V
  rw [if_neg (by omega)]
  exact rbin_ne c k n t k2 n2 t2 hm1 hm2 (by simpa using hk) (by simpa using hk2) V
theorem both_lt (c k n : Int) (t : ByteArray) (k2 n2 : Int) (t2 : ByteArray) (hm1 : mayB k n t = true) (hm2 : mayB k2 n2 t2 = true) : Both 15 c k n t k2 n2 t2 := by
  refine both_of _ _ _ _ _ _ _ _ _ (nulV_val _ _ _ ⟨_, _, _, rfl⟩) 0 (fun V hV => bin_lt c k n t k2 n2 t2 hm1 hm2 V hV) (fun V _ => ?_)
  unfold nulV
  by_cases hk : k = 0
  · subst hk
    rw [if_pos (.inl rfl)]
    exact rbinA_15 c n t n2 t2 k2 hm1 hm2 V
  by_cases hk2 : k2 = 0
  · subst hk2
    rw [if_pos (.inr rfl)]
    exact rbinB_15 c n t n2 t2 k (by simpa using hk) hm1 hm2 V
  rw [if_neg (by omega)]
  exact rbin_lt c k n t k2 n2 t2 hm1 hm2 (by simpa using hk) (by simpa using hk2) V
theorem both_le (c k n : Int) (t : ByteArray) (k2 n2 : Int) (t2 : ByteArray) (hm1 : mayB k n t = true) (hm2 : mayB k2 n2 t2 = true) : Both 16 c k n t k2 n2 t2 := by
  refine both_of _ _ _ _ _ _ _ _ _ (nulV_val _ _ _ ⟨_, _, _, rfl⟩) 0 (fun V hV => bin_le c k n t k2 n2 t2 hm1 hm2 V hV) (fun V _ => ?_)
  unfold nulV
  by_cases hk : k = 0
  · subst hk
    rw [if_pos (.inl rfl)]
    exact rbinA_16 c n t n2 t2 k2 hm1 hm2 V
  by_cases hk2 : k2 = 0
  · subst hk2
    rw [if_pos (.inr rfl)]
    exact rbinB_16 c n t n2 t2 k (by simpa using hk) hm1 hm2 V
  rw [if_neg (by omega)]
  exact rbin_le c k n t k2 n2 t2 hm1 hm2 (by simpa using hk) (by simpa using hk2) V
theorem both_gt (c k n : Int) (t : ByteArray) (k2 n2 : Int) (t2 : ByteArray) (hm1 : mayB k n t = true) (hm2 : mayB k2 n2 t2 = true) : Both 17 c k n t k2 n2 t2 := by
  refine both_of _ _ _ _ _ _ _ _ _ (nulV_val _ _ _ ⟨_, _, _, rfl⟩) 0 (fun V hV => bin_gt c k n t k2 n2 t2 hm1 hm2 V hV) (fun V _ => ?_)
  unfold nulV
  by_cases hk : k = 0
  · subst hk
    rw [if_pos (.inl rfl)]
    exact rbinA_17 c n t n2 t2 k2 hm1 hm2 V
  by_cases hk2 : k2 = 0
  · subst hk2
    rw [if_pos (.inr rfl)]
    exact rbinB_17 c n t n2 t2 k (by simpa using hk) hm1 hm2 V
  rw [if_neg (by omega)]
  exact rbin_gt c k n t k2 n2 t2 hm1 hm2 (by simpa using hk) (by simpa using hk2) V
theorem both_ge (c k n : Int) (t : ByteArray) (k2 n2 : Int) (t2 : ByteArray) (hm1 : mayB k n t = true) (hm2 : mayB k2 n2 t2 = true) : Both 18 c k n t k2 n2 t2 := by
  refine both_of _ _ _ _ _ _ _ _ _ (nulV_val _ _ _ ⟨_, _, _, rfl⟩) 0 (fun V hV => bin_ge c k n t k2 n2 t2 hm1 hm2 V hV) (fun V _ => ?_)
  unfold nulV
  by_cases hk : k = 0
  · subst hk
    rw [if_pos (.inl rfl)]
    exact rbinA_18 c n t n2 t2 k2 hm1 hm2 V
  by_cases hk2 : k2 = 0
  · subst hk2
    rw [if_pos (.inr rfl)]
    exact rbinB_18 c n t n2 t2 k (by simpa using hk) hm1 hm2 V
  rw [if_neg (by omega)]
  exact rbin_ge c k n t k2 n2 t2 hm1 hm2 (by simpa using hk) (by simpa using hk2) V
theorem both_is (c k n : Int) (t : ByteArray) (k2 n2 : Int) (t2 : ByteArray) (hm1 : mayB k n t = true) (hm2 : mayB k2 n2 t2 = true) : Both 19 c k n t k2 n2 t2 :=
  both_of _ _ _ _ _ _ _ _ _ ⟨_, _, _, rfl⟩ 0 (fun V hV => bin_is c k n t k2 n2 t2 hm1 hm2 V hV) (fun V _ => rbin_is c k n t k2 n2 t2 hm1 hm2 V)
theorem both_isnot (c k n : Int) (t : ByteArray) (k2 n2 : Int) (t2 : ByteArray) (hm1 : mayB k n t = true) (hm2 : mayB k2 n2 t2 = true) : Both 20 c k n t k2 n2 t2 :=
  both_of _ _ _ _ _ _ _ _ _ ⟨_, _, _, rfl⟩ 0 (fun V hV => bin_isnot c k n t k2 n2 t2 hm1 hm2 V hV) (fun V _ => rbin_isnot c k n t k2 n2 t2 hm1 hm2 V)
theorem both_and (c k n : Int) (t : ByteArray) (k2 n2 : Int) (t2 : ByteArray) (hm1 : mayB k n t = true) (hm2 : mayB k2 n2 t2 = true) : Both 21 c k n t k2 n2 t2 :=
  both_of _ _ _ _ _ _ _ _ _ (setB_val _ _ _ _ _) 0 (fun V hV => bin_and c k n t k2 n2 t2 _ _ _ _ (truth_both _) (truth_both _) hm1 hm2 V hV) (fun V _ => rbin_and c k n t k2 n2 t2 hm1 hm2 _ _ rfl rfl V)
theorem both_or (c k n : Int) (t : ByteArray) (k2 n2 : Int) (t2 : ByteArray) (hm1 : mayB k n t = true) (hm2 : mayB k2 n2 t2 = true) : Both 22 c k n t k2 n2 t2 :=
  both_of _ _ _ _ _ _ _ _ _ (setB_val _ _ _ _ _) 0 (fun V hV => bin_or c k n t k2 n2 t2 _ _ _ _ (truth_both _) (truth_both _) hm1 hm2 V hV) (fun V _ => rbin_or c k n t k2 n2 t2 hm1 hm2 _ _ rfl rfl V)

theorem both_walk (op c k n : Int) (t : ByteArray) (k2 n2 : Int) (t2 : ByteArray) (h0 : -9223372036854775808 ≤ n) (h1 : n ≤ 9223372036854775807) (g0 : -9223372036854775808 ≤ n2) (g1 : n2 ≤ 9223372036854775807) : Both op c k n t k2 n2 t2 := by
  by_cases ho : op < 7 ∨ 22 < op
  · exact ⟨0, 0, ⟨#[]⟩, 130, fun V _ => binary_no op c ho k n t k2 n2 t2 V, fun V _ => rbinary_no op c ho k n t k2 n2 t2 V⟩
  have o0 : ¬ op < 7 := fun h => ho (.inl h)
  have o1 : ¬ 22 < op := fun h => ho (.inr h)
  cases hm1 : mayB k n t with
  | false => exact ⟨0, 0, ⟨#[]⟩, 2, fun V _ => binary_bad1 op c (by omega) (by omega) k n t k2 n2 t2 hm1 V, fun V _ => rbinary_bad1 op c o0 o1 k n t k2 n2 t2 hm1 V⟩
  | true =>
  cases hm2 : mayB k2 n2 t2 with
  | false => exact ⟨0, 0, ⟨#[]⟩, 2, fun V _ => binary_bad2 op c (by omega) (by omega) k n t k2 n2 t2 hm1 hm2 V, fun V _ => rbinary_bad2 op c o0 o1 k n t k2 n2 t2 hm1 hm2 V⟩
  | true =>
  have hs : op = 7 ∨ op = 8 ∨ op = 9 ∨ op = 10 ∨ op = 11 ∨ op = 12 ∨ op = 13 ∨ op = 14 ∨ op = 15 ∨ op = 16 ∨ op = 17 ∨ op = 18 ∨ op = 19 ∨ op = 20 ∨ op = 21 ∨ op = 22 := by omega
  rcases hs with rfl | rfl | rfl | rfl | rfl | rfl | rfl | rfl | rfl | rfl | rfl | rfl | rfl | rfl | rfl | rfl
  · exact both_add c k n t k2 n2 t2 hm1 hm2 h0 h1 g0 g1
  · exact both_sub c k n t k2 n2 t2 hm1 hm2 h0 h1 g0 g1
  · exact both_mul c k n t k2 n2 t2 hm1 hm2 h0 h1 g0 g1
  · exact both_div c k n t k2 n2 t2 hm1 hm2 h0 h1 g0 g1
  · exact both_rem c k n t k2 n2 t2 hm1 hm2 h0 h1 g0 g1
  · exact both_concat c k n t k2 n2 t2 hm1 hm2 h0 h1 g0 g1
  · exact both_eq c k n t k2 n2 t2 hm1 hm2
  · exact both_ne c k n t k2 n2 t2 hm1 hm2
  · exact both_lt c k n t k2 n2 t2 hm1 hm2
  · exact both_le c k n t k2 n2 t2 hm1 hm2
  · exact both_gt c k n t k2 n2 t2 hm1 hm2
  · exact both_ge c k n t k2 n2 t2 hm1 hm2
  · exact both_is c k n t k2 n2 t2 hm1 hm2
  · exact both_isnot c k n t k2 n2 t2 hm1 hm2
  · exact both_and c k n t k2 n2 t2 hm1 hm2
  · exact both_or c k n t k2 n2 t2 hm1 hm2

set_option maxHeartbeats 1000000 in
set_option maxRecDepth 10000 in
theorem cbinary_walk (op k n : Int) (t : ByteArray) (k2 n2 : Int) (t2 : ByteArray) (c : Int) (_ : -9223372036854775808 ≤ op) (_ : op ≤ 9223372036854775807) (h0 : -9223372036854775808 ≤ n) (h1 : n ≤ 9223372036854775807) (g0 : -9223372036854775808 ≤ n2) (g1 : n2 ≤ 9223372036854775807) (_ : -9223372036854775808 ≤ c) (_ : c ≤ 9223372036854775807) (w : World) (hE : Env w) :
    Calls Tryz.prog 5 #[.int .i64 op, val k n t, val k2 n2 t2, .int .i64 c] w fun e w' => e = .returned (.bool true) ∧ Below w.heap.size w w' := by
  obtain ⟨a1, a2, a3, er, hU, hR⟩ := both_walk op c k n t k2 n2 t2 h0 h1 g0 g1
  have HU : Hid (∀ V, Env V → Calls Tryz.prog 18 #[.int .i64 op, .agg #[.int .i64 k, .int .i64 n, .string t], .agg #[.int .i64 k2, .int .i64 n2, .string t2], .int .i64 c] V fun e w' => e = .returned (.tuple #[.agg #[.int .i64 a1, .int .i64 a2, .string a3], .int .i64 er]) ∧ Below V.heap.size V w') := hU
  have HR : Hid (∀ V, Env V → Calls Tryz.prog 19 #[.int .i64 op, .agg #[.int .i64 k, .int .i64 n, .string t], .agg #[.int .i64 k2, .int .i64 n2, .string t2], .int .i64 c] V fun e w' => e = .returned (.tuple #[.agg #[.int .i64 a1, .int .i64 a2, .string a3], .int .i64 er]) ∧ Below V.heap.size V w') := hR
  have HW : Hid (∀ V, Below ((w.alloc (vcells k n t)).alloc (vcells k2 n2 t2)).heap.size ((w.alloc (vcells k n t)).alloc (vcells k2 n2 t2)) V → _) := two_later w (.int .i64 k) (.int .i64 n) (.string t) (.int .i64 k2) (.int .i64 n2) (.string t2) 24
  have HE : Hid (∀ V, Below w.heap.size w V → Env V) := fun V h => hE.below h
  have HE0 : Hid (Env ((w.alloc (vcells k n t)).alloc (vcells k2 n2 t2))) := hE.below (below_trans (new_below w _ rfl) (new_below _ _ rfl))
  have HB : Hid (∀ V, Below ((w.alloc (vcells k n t)).alloc (vcells k2 n2 t2)).heap.size ((w.alloc (vcells k n t)).alloc (vcells k2 n2 t2)) V → Below w.heap.size w V) := fun V h => below_trans (below_trans (new_below w _ rfl) (new_below _ _ rfl)) h
  clear hU hR hE
  go_enter Tryz.func5, Tryz.ntmps5
  go_wp2_with (first
    | (go_at_call 18; with_reducible refine Calls.mono (HU.out _ HE0.out) ?_; rintro e w1 ⟨rfl, hb1⟩; have HX1 := hide hb1; obtain ⟨⟨p0, p1, p2⟩, ⟨q0, q1, q2⟩, HB1⟩ := HW.out _ (below_trans HX1.out (new_below w1 (vcells a1 a2 a3) rfl)); clear hb1)
    | (go_at_call 19; with_reducible refine Calls.mono (HR.out _ (HE.out _ HB1.out)) ?_; rintro e w2 ⟨rfl, hb2⟩; have HY2 := hide hb2; have HX2 := hide (below_trans HX1.out (below_trans (new_below w1 (vcells a1 a2 a3) rfl) hb2)); clear hb2)
    | (go_at_call 11; with_reducible refine Calls.mono (head3_walk _ ((HE.out _ (HB.out _ HX2.out)).below (new_below w2 _ rfl))) ?_; rintro e w3 ⟨rfl, hb3⟩; obtain ⟨u0, u1, u2, x0, x1, x2⟩ := later_block w2 (.int .i64 a1) (.int .i64 a2) (.string a3) 24 _ hb3; obtain ⟨y0, y1, y2, z0, z1, z2⟩ := later_block w1 (.int .i64 a1) (.int .i64 a2) (.string a3) 24 _ (below_trans HY2.out (below_trans (new_below w2 _ rfl) hb3)); have HX3 := hide (below_trans HX2.out (below_trans (new_below w2 _ rfl) hb3)); clear hb3))
  go_ret
  exact ⟨by simp, HB.out _ HX3.out⟩
end Go.Proofs.YtoekdeoekcmpgaaGreatDoor
