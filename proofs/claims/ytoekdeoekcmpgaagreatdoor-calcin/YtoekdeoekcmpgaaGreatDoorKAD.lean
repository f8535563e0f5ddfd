/- Package calc: Cast, and the document's. -/
import Derived.Test.YtoekdeoekcmpgaaGreatDoorKAC
namespace Go.Proofs.YtoekdeoekcmpgaaGreatDoor
open Go.ChangeShapes Go.WideShapes Go.ChangeAt Go.RowKit
set_option linter.unusedVariables false

set_option maxHeartbeats 1000000 in
set_option maxRecDepth 10000 in
theorem vblob_walk (s : ByteArray) (hs : s.size ≤ 400) (w : World) : Calls Tryz.prog 59 #[.string s] w fun e w' => e = .returned (.tuple #[val 3 0 s, .int .i64 0]) ∧ Below w.heap.size w w' := by
  have HM : Hid (∀ V, Calls Tryz.prog 96 #[.int .i64 3, .string s] V fun e w' => e = .returned (.tuple #[val 3 0 s, .int .i64 0]) ∧ Below V.heap.size V w') := fun V => by have := made_walk 3 s V; unfold madeV at this; rw [if_pos hs] at this; exact this
  have HW : Hid (∀ V, _ → _) := res_later w
  go_enter Tryz.func59, Tryz.ntmps59
  go_wp2_with (first
    | (go_at_call 96; with_reducible refine Calls.mono (HM.out _) ?_; rintro e w1 ⟨rfl, hb1⟩; obtain ⟨d0, d1, d2, f0, f1, f2, a0, a1, a2, b0, b1, b2, HK1, HB1, HL1⟩ := HW.out _ hb1; clear hb1))
  exact ret_val2 Tryz.results59 rfl rfl HK1.out ⟨rfl, below_set3 HB1.out _ _ _⟩

/-- The bytes of a value that is not NULL, as a text. -/
def showT (k n : Int) (t : ByteArray) : ByteArray := if k = 1 then ⟨(Lib.itoa n).toArray⟩ else t
theorem ba_nil {t : ByteArray} (h : t.data.toList = []) : t = ⟨#[]⟩ := by rw [← ba_eq t, h]
theorem show_some {k n : Int} {t : ByteArray} (h0 : -9223372036854775808 ≤ n) (h1 : n ≤ 9223372036854775807) (hm : mayB k n t = true) (hk : k ≠ 0) : showV k n t = val 2 0 (showT k n t) ∧ (showT k n t).size ≤ 400 := by
  have h := of_decide_eq_true hm
  have hl : t.data.toList.length = t.size := by simp
  unfold showV showT
  rw [if_pos h]
  unfold MayL at h
  by_cases k1 : k = 1
  · rw [if_pos k1, if_pos k1]
    have hs : (⟨(Lib.itoa n).toArray⟩ : ByteArray).size ≤ 400 := by rw [ba_size]; have := itoa_length n h0 h1; omega
    exact ⟨if_pos hs, hs⟩
  · have hs : t.size ≤ 400 := by omega
    rw [if_neg k1, if_neg k1, if_pos (by omega)]
    exact ⟨if_pos hs, hs⟩

set_option maxHeartbeats 1000000 in
set_option maxRecDepth 10000 in
theorem cast_none (k n : Int) (t a : ByteArray) (h0 : -9223372036854775808 ≤ n) (h1 : n ≤ 9223372036854775807) (f : Int) (HA : Hid (∀ w, Calls Tryz.prog 27 #[.string a] w fun e w' => e = .returned (.tuple #[.int .i64 f, .bool false]) ∧ Below w.heap.size w w')) (w : World) (hE : Env w) :
    Calls Tryz.prog 29 #[val k n t, .string a] w fun e w' => e = .returned (.tuple #[val 0 0 ⟨#[]⟩, .int .i64 131]) ∧ Below w.heap.size w w' := by
  have HW : Hid (∀ V, _ → _) := pr_later w k n t
  have HE : Hid (∀ V, Below w.heap.size w V → Env V) := fun V h => hE.below h
  clear hE
  go_enter Tryz.func29, Tryz.ntmps29
  go_wp2_with (first
    | (go_at_call 27; with_reducible refine Calls.mono (HA.out _) ?_; rintro e w1 ⟨rfl, hb1⟩; have HX1 := hide hb1; obtain ⟨⟨p0, p1, p2⟩, q0, q1, q2, ⟨d0, d1, d2, f0, f1, f2⟩, HK1, HB1⟩ := HW.out _ HX1.out; clear hb1)
)
  exact ret_val2g Tryz.results29 rfl rfl HK1.out ⟨rfl, below_set3g HB1.out (Nat.le_succ _) _ _ _⟩

set_option maxHeartbeats 1000000 in
set_option maxRecDepth 10000 in
theorem cast_bad (k n : Int) (t a : ByteArray) (h0 : -9223372036854775808 ≤ n) (h1 : n ≤ 9223372036854775807) (f : Int) (hm : mayB k n t = false) (HA : Hid (∀ w, Calls Tryz.prog 27 #[.string a] w fun e w' => e = .returned (.tuple #[.int .i64 f, .bool true]) ∧ Below w.heap.size w w')) (w : World) (hE : Env w) :
    Calls Tryz.prog 29 #[val k n t, .string a] w fun e w' => e = .returned (.tuple #[val 0 0 ⟨#[]⟩, .int .i64 2]) ∧ Below w.heap.size w w' := by
  have HW : Hid (∀ V, _ → _) := pr_later w k n t
  have HE : Hid (∀ V, Below w.heap.size w V → Env V) := fun V h => hE.below h
  have HM : Hid (∀ V, Calls Tryz.prog 32 #[.agg #[.int .i64 k, .int .i64 n, .string t]] V fun e w' => e = .returned (.bool false) ∧ Below V.heap.size V w') := fun V => by have := may_walk k n t V; rw [hm] at this; exact this
  clear hE hm
  go_enter Tryz.func29, Tryz.ntmps29
  go_wp2_with (first
    | (go_at_call 27; with_reducible refine Calls.mono (HA.out _) ?_; rintro e w1 ⟨rfl, hb1⟩; have HX1 := hide hb1; obtain ⟨⟨p0, p1, p2⟩, q0, q1, q2, ⟨d0, d1, d2, f0, f1, f2⟩, HK1, HB1⟩ := HW.out _ HX1.out; clear hb1)
    | (go_at_call 32; with_reducible refine Calls.mono (HM.out _) ?_; rintro e w2 ⟨rfl, hb2⟩; have HX2 := hide (below_trans HX1.out hb2); obtain ⟨⟨p0, p1, p2⟩, q0, q1, q2, ⟨d0, d1, d2, f0, f1, f2⟩, HK2, HB2⟩ := HW.out _ HX2.out; clear hb2))
  exact ret_val2g Tryz.results29 rfl rfl HK2.out ⟨rfl, below_set3g HB2.out (Nat.le_succ _) _ _ _⟩

set_option maxHeartbeats 1000000 in
set_option maxRecDepth 10000 in
theorem cast_int (k n : Int) (t a : ByteArray) (h0 : -9223372036854775808 ≤ n) (h1 : n ≤ 9223372036854775807) (hm : mayB k n t = true) (HA : Hid (∀ w, Calls Tryz.prog 27 #[.string a] w fun e w' => e = .returned (.tuple #[.int .i64 1, .bool true]) ∧ Below w.heap.size w w')) (w : World) (hE : Env w) :
    Calls Tryz.prog 29 #[val k n t, .string a] w fun e w' => e = .returned (.tuple #[optV (numO k n t.data.toList), .int .i64 0]) ∧ Below w.heap.size w w' := by
  have HW : Hid (∀ V, _ → _) := pr_later w k n t
  have HE : Hid (∀ V, Below w.heap.size w V → Env V) := fun V h => hE.below h
  have HM : Hid (∀ V, Calls Tryz.prog 32 #[.agg #[.int .i64 k, .int .i64 n, .string t]] V fun e w' => e = .returned (.bool true) ∧ Below V.heap.size V w') := fun V => by have := may_walk k n t V; rw [hm] at this; exact this
  obtain ⟨c1, c2, c3, hc⟩ := optV_val (numO k n t.data.toList)
  have HN : Hid (∀ V, Env V → Calls Tryz.prog 12 #[.agg #[.int .i64 k, .int .i64 n, .string t]] V fun e w' => e = .returned (val c1 c2 c3) ∧ Below V.heap.size V w') := fun V hV => by rw [← hc]; exact num_walk k n t V hV
  rw [hc]
  clear hE hm hc
  go_enter Tryz.func29, Tryz.ntmps29
  go_wp2_with (first
    | (go_at_call 27; with_reducible refine Calls.mono (HA.out _) ?_; rintro e w1 ⟨rfl, hb1⟩; have HX1 := hide hb1; obtain ⟨⟨p0, p1, p2⟩, q0, q1, q2, ⟨d0, d1, d2, f0, f1, f2⟩, HK1, HB1⟩ := HW.out _ HX1.out; clear hb1)
    | (go_at_call 32; with_reducible refine Calls.mono (HM.out _) ?_; rintro e w2 ⟨rfl, hb2⟩; have HX2 := hide (below_trans HX1.out hb2); obtain ⟨⟨p0, p1, p2⟩, q0, q1, q2, ⟨d0, d1, d2, f0, f1, f2⟩, HK2, HB2⟩ := HW.out _ HX2.out; clear hb2)
    | (go_at_call 12; with_reducible refine Calls.mono (HN.out _ (HE.out _ HB2.out)) ?_; rintro e w3 ⟨rfl, hb3⟩; have HX3 := hide (below_trans HX2.out hb3); obtain ⟨⟨p0, p1, p2⟩, q0, q1, q2, ⟨d0, d1, d2, f0, f1, f2⟩, HK3, HB3⟩ := HW.out _ HX3.out; clear hb3))
  exact ret_val2g Tryz.results29 rfl rfl HK3.out ⟨rfl, below_set3g HB3.out (Nat.le_succ _) _ _ _⟩

set_option maxHeartbeats 1000000 in
set_option maxRecDepth 10000 in
theorem cast_text (k n : Int) (t a : ByteArray) (h0 : -9223372036854775808 ≤ n) (h1 : n ≤ 9223372036854775807) (hm : mayB k n t = true) (HA : Hid (∀ w, Calls Tryz.prog 27 #[.string a] w fun e w' => e = .returned (.tuple #[.int .i64 2, .bool true]) ∧ Below w.heap.size w w')) (w : World) (hE : Env w) :
    Calls Tryz.prog 29 #[val k n t, .string a] w fun e w' => e = .returned (.tuple #[showV k n t, .int .i64 0]) ∧ Below w.heap.size w w' := by
  have HW : Hid (∀ V, _ → _) := pr_later w k n t
  have HE : Hid (∀ V, Below w.heap.size w V → Env V) := fun V h => hE.below h
  have HM : Hid (∀ V, Calls Tryz.prog 32 #[.agg #[.int .i64 k, .int .i64 n, .string t]] V fun e w' => e = .returned (.bool true) ∧ Below V.heap.size V w') := fun V => by have := may_walk k n t V; rw [hm] at this; exact this
  obtain ⟨c1, c2, c3, hc⟩ : ∃ a b c, showV k n t = val a b c := by
    by_cases hk0 : k = 0
    · subst hk0; exact ⟨0, 0, ⟨#[]⟩, by unfold showV; rw [if_pos (of_decide_eq_true hm)]; rfl⟩
    · exact ⟨_, _, _, (show_some h0 h1 hm hk0).1⟩
  have HN : Hid (∀ V, Env V → Calls Tryz.prog 14 #[.agg #[.int .i64 k, .int .i64 n, .string t]] V fun e w' => e = .returned (val c1 c2 c3) ∧ Below V.heap.size V w') := fun V hV => by rw [← hc]; exact show_walk k n t h0 h1 V hV
  rw [hc]
  clear hE hm hc
  go_enter Tryz.func29, Tryz.ntmps29
  go_wp2_with (first
    | (go_at_call 27; with_reducible refine Calls.mono (HA.out _) ?_; rintro e w1 ⟨rfl, hb1⟩; have HX1 := hide hb1; obtain ⟨⟨p0, p1, p2⟩, q0, q1, q2, ⟨d0, d1, d2, f0, f1, f2⟩, HK1, HB1⟩ := HW.out _ HX1.out; clear hb1)
    | (go_at_call 32; with_reducible refine Calls.mono (HM.out _) ?_; rintro e w2 ⟨rfl, hb2⟩; have HX2 := hide (below_trans HX1.out hb2); obtain ⟨⟨p0, p1, p2⟩, q0, q1, q2, ⟨d0, d1, d2, f0, f1, f2⟩, HK2, HB2⟩ := HW.out _ HX2.out; clear hb2)
    | (go_at_call 14; with_reducible refine Calls.mono (HN.out _ (HE.out _ HB2.out)) ?_; rintro e w3 ⟨rfl, hb3⟩; have HX3 := hide (below_trans HX2.out hb3); obtain ⟨⟨p0, p1, p2⟩, q0, q1, q2, ⟨d0, d1, d2, f0, f1, f2⟩, HK3, HB3⟩ := HW.out _ HX3.out; clear hb3))
  exact ret_val2g Tryz.results29 rfl rfl HK3.out ⟨rfl, below_set3g HB3.out (Nat.le_succ _) _ _ _⟩

set_option maxHeartbeats 1000000 in
set_option maxRecDepth 10000 in
theorem cast_stay (k n : Int) (t a : ByteArray) (h0 : -9223372036854775808 ≤ n) (h1 : n ≤ 9223372036854775807) (hm : mayB k n t = true) (hn : a.data.toList = []) (HA : Hid (∀ w, Calls Tryz.prog 27 #[.string a] w fun e w' => e = .returned (.tuple #[.int .i64 0, .bool true]) ∧ Below w.heap.size w w')) (w : World) (hE : Env w) :
    Calls Tryz.prog 29 #[val k n t, .string a] w fun e w' => e = .returned (.tuple #[val k n t, .int .i64 0]) ∧ Below w.heap.size w w' := by
  have HW : Hid (∀ V, _ → _) := pr_later w k n t
  have HE : Hid (∀ V, Below w.heap.size w V → Env V) := fun V h => hE.below h
  have HM : Hid (∀ V, Calls Tryz.prog 32 #[.agg #[.int .i64 k, .int .i64 n, .string t]] V fun e w' => e = .returned (.bool true) ∧ Below V.heap.size V w') := fun V => by have := may_walk k n t V; rw [hm] at this; exact this
  have ea : (a.toList == []) = true := by rw [ByteArray.toList_eq, hn]; rfl
  clear hE hm hn
  go_enter Tryz.func29, Tryz.ntmps29
  go_wp2_with (first
    | (go_at_call 27; with_reducible refine Calls.mono (HA.out _) ?_; rintro e w1 ⟨rfl, hb1⟩; have HX1 := hide hb1; obtain ⟨⟨p0, p1, p2⟩, q0, q1, q2, ⟨d0, d1, d2, f0, f1, f2⟩, HK1, HB1⟩ := HW.out _ HX1.out; clear hb1)
    | (go_at_call 32; with_reducible refine Calls.mono (HM.out _) ?_; rintro e w2 ⟨rfl, hb2⟩; have HX2 := hide (below_trans HX1.out hb2); obtain ⟨⟨p0, p1, p2⟩, q0, q1, q2, ⟨d0, d1, d2, f0, f1, f2⟩, HK2, HB2⟩ := HW.out _ HX2.out; clear hb2))
  exact ret_val2g Tryz.results29 rfl rfl HK2.out ⟨rfl, below_set3g HB2.out (Nat.le_succ _) _ _ _⟩

set_option maxHeartbeats 1000000 in
set_option maxRecDepth 10000 in
theorem cast_null (k n : Int) (t a : ByteArray) (h0 : -9223372036854775808 ≤ n) (h1 : n ≤ 9223372036854775807) (hm : mayB k n t = true) (hn : a.data.toList ≠ []) (hk : k = 0) (HA : Hid (∀ w, Calls Tryz.prog 27 #[.string a] w fun e w' => e = .returned (.tuple #[.int .i64 0, .bool true]) ∧ Below w.heap.size w w')) (w : World) (hE : Env w) :
    Calls Tryz.prog 29 #[val k n t, .string a] w fun e w' => e = .returned (.tuple #[val k n t, .int .i64 0]) ∧ Below w.heap.size w w' := by
  have HW : Hid (∀ V, _ → _) := pr_later w k n t
  have HE : Hid (∀ V, Below w.heap.size w V → Env V) := fun V h => hE.below h
  have HM : Hid (∀ V, Calls Tryz.prog 32 #[.agg #[.int .i64 k, .int .i64 n, .string t]] V fun e w' => e = .returned (.bool true) ∧ Below V.heap.size V w') := fun V => by have := may_walk k n t V; rw [hm] at this; exact this
  have ea : (a.toList == []) = false := by rw [ByteArray.toList_eq]; simpa using hn
  have ek : (k == 0) = true := by simpa using hk
  clear hE hm hn hk
  go_enter Tryz.func29, Tryz.ntmps29
  go_wp2_with (first
    | (go_at_call 27; with_reducible refine Calls.mono (HA.out _) ?_; rintro e w1 ⟨rfl, hb1⟩; have HX1 := hide hb1; obtain ⟨⟨p0, p1, p2⟩, q0, q1, q2, ⟨d0, d1, d2, f0, f1, f2⟩, HK1, HB1⟩ := HW.out _ HX1.out; clear hb1)
    | (go_at_call 32; with_reducible refine Calls.mono (HM.out _) ?_; rintro e w2 ⟨rfl, hb2⟩; have HX2 := hide (below_trans HX1.out hb2); obtain ⟨⟨p0, p1, p2⟩, q0, q1, q2, ⟨d0, d1, d2, f0, f1, f2⟩, HK2, HB2⟩ := HW.out _ HX2.out; clear hb2))
  exact ret_val2g Tryz.results29 rfl rfl HK2.out ⟨rfl, below_set3g HB2.out (Nat.le_succ _) _ _ _⟩

set_option maxHeartbeats 1000000 in
set_option maxRecDepth 10000 in
theorem cast_blob (k n : Int) (t a : ByteArray) (h0 : -9223372036854775808 ≤ n) (h1 : n ≤ 9223372036854775807) (hm : mayB k n t = true) (hn : a.data.toList ≠ []) (hk : k ≠ 0) (HA : Hid (∀ w, Calls Tryz.prog 27 #[.string a] w fun e w' => e = .returned (.tuple #[.int .i64 0, .bool true]) ∧ Below w.heap.size w w')) (w : World) (hE : Env w) :
    Calls Tryz.prog 29 #[val k n t, .string a] w fun e w' => e = .returned (.tuple #[val 3 0 (showT k n t), .int .i64 0]) ∧ Below w.heap.size w w' := by
  have HW : Hid (∀ V, _ → _) := pr_later w k n t
  have HE : Hid (∀ V, Below w.heap.size w V → Env V) := fun V h => hE.below h
  have HM : Hid (∀ V, Calls Tryz.prog 32 #[.agg #[.int .i64 k, .int .i64 n, .string t]] V fun e w' => e = .returned (.bool true) ∧ Below V.heap.size V w') := fun V => by have := may_walk k n t V; rw [hm] at this; exact this
  obtain ⟨hs1, hs2⟩ := show_some h0 h1 hm hk
  obtain ⟨T, hT⟩ : ∃ T, showT k n t = T := ⟨_, rfl⟩
  rw [hT] at hs1 hs2 ⊢
  have HN : Hid (∀ V, Env V → Calls Tryz.prog 14 #[.agg #[.int .i64 k, .int .i64 n, .string t]] V fun e w' => e = .returned (.agg #[.int .i64 2, .int .i64 0, .string T]) ∧ Below V.heap.size V w') := fun V hV => by have := show_walk k n t h0 h1 V hV; rw [hs1] at this; exact this
  have hfl : ∀ V, (Instr.field 24 (.agg #[.int .i64 2, .int .i64 0, .string T]) 2).run Tryz.prog V = .ok (.string T) V := fun V => by kernel_rfl
  have ek : (k == 0) = false := by simpa using hk
  have ea : (a.toList == []) = false := by rw [ByteArray.toList_eq]; simpa using hn
  have HBl : Hid (∀ V, Calls Tryz.prog 59 #[.string T] V fun e w' => e = .returned (.tuple #[.agg #[.int .i64 3, .int .i64 0, .string T], .int .i64 0]) ∧ Below V.heap.size V w') := fun V => vblob_walk T hs2 V
  clear hE hm hn hk hs1 hs2 hT
  go_enter Tryz.func29, Tryz.ntmps29
  go_wp2_with (first
    | (go_at_call 27; with_reducible refine Calls.mono (HA.out _) ?_; rintro e w1 ⟨rfl, hb1⟩; have HX1 := hide hb1; obtain ⟨⟨p0, p1, p2⟩, q0, q1, q2, ⟨d0, d1, d2, f0, f1, f2⟩, HK1, HB1⟩ := HW.out _ HX1.out; clear hb1)
    | (go_at_call 32; with_reducible refine Calls.mono (HM.out _) ?_; rintro e w2 ⟨rfl, hb2⟩; have HX2 := hide (below_trans HX1.out hb2); obtain ⟨⟨p0, p1, p2⟩, q0, q1, q2, ⟨d0, d1, d2, f0, f1, f2⟩, HK2, HB2⟩ := HW.out _ HX2.out; clear hb2)
    | (go_at_call 14; with_reducible refine Calls.mono (HN.out _ (HE.out _ HB2.out)) ?_; rintro e w3 ⟨rfl, hb3⟩; have HX3 := hide (below_trans HX2.out hb3); obtain ⟨⟨p0, p1, p2⟩, q0, q1, q2, ⟨d0, d1, d2, f0, f1, f2⟩, HK3, HB3⟩ := HW.out _ HX3.out; clear hb3)
    | (go_at_call 59; with_reducible refine Calls.mono (HBl.out _) ?_; rintro e w4 ⟨rfl, hb4⟩; have HX4 := hide (below_trans HX3.out hb4); obtain ⟨⟨p0, p1, p2⟩, q0, q1, q2, ⟨d0, d1, d2, f0, f1, f2⟩, HK4, HB4⟩ := HW.out _ HX4.out; clear hb4))
  exact ret_val2g Tryz.results29 rfl rfl HK4.out ⟨rfl, below_set3g HB4.out (Nat.le_succ _) _ _ _⟩

set_option maxHeartbeats 1000000 in
set_option maxRecDepth 10000 in
theorem rcast_none (k n : Int) (t a : ByteArray) (h0 : -9223372036854775808 ≤ n) (h1 : n ≤ 9223372036854775807) (f : Int) (HA : Hid (∀ w, Calls Tryz.prog 28 #[.string a] w fun e w' => e = .returned (.tuple #[.int .i64 f, .bool false]) ∧ Below w.heap.size w w')) (w : World) (hE : Env w) :
    Calls Tryz.prog 30 #[val k n t, .string a] w fun e w' => e = .returned (.tuple #[val 0 0 ⟨#[]⟩, .int .i64 131]) ∧ Below w.heap.size w w' := by
  have HW : Hid (∀ V, _ → _) := pr_later w k n t
  have HE : Hid (∀ V, Below w.heap.size w V → Env V) := fun V h => hE.below h
  clear hE
  go_enter Tryz.func30, Tryz.ntmps30
  go_wp2_with (first
    | (go_at_call 28; with_reducible refine Calls.mono (HA.out _) ?_; rintro e w1 ⟨rfl, hb1⟩; have HX1 := hide hb1; obtain ⟨⟨p0, p1, p2⟩, q0, q1, q2, ⟨d0, d1, d2, f0, f1, f2⟩, HK1, HB1⟩ := HW.out _ HX1.out; clear hb1)
    | (go_at_call 37; with_reducible refine Calls.mono (rnull_walk _) ?_; rintro e w9 ⟨rfl, hb9⟩; have HX9 := hide (below_trans HX1.out hb9); obtain ⟨⟨p0, p1, p2⟩, q0, q1, q2, ⟨d0, d1, d2, f0, f1, f2⟩, HK9, HB9⟩ := HW.out _ HX9.out; clear hb9))
  exact ret_val2g Tryz.results30 rfl rfl HK9.out ⟨rfl, below_set3g HB9.out (Nat.le_succ _) _ _ _⟩

set_option maxHeartbeats 1000000 in
set_option maxRecDepth 10000 in
theorem rcast_bad (k n : Int) (t a : ByteArray) (h0 : -9223372036854775808 ≤ n) (h1 : n ≤ 9223372036854775807) (f : Int) (hm : mayB k n t = false) (HA : Hid (∀ w, Calls Tryz.prog 28 #[.string a] w fun e w' => e = .returned (.tuple #[.int .i64 f, .bool true]) ∧ Below w.heap.size w w')) (w : World) (hE : Env w) :
    Calls Tryz.prog 30 #[val k n t, .string a] w fun e w' => e = .returned (.tuple #[val 0 0 ⟨#[]⟩, .int .i64 2]) ∧ Below w.heap.size w w' := by
  have HW : Hid (∀ V, _ → _) := pr_later w k n t
  have HE : Hid (∀ V, Below w.heap.size w V → Env V) := fun V h => hE.below h
  have HM : Hid (∀ V, Calls Tryz.prog 36 #[.agg #[.int .i64 k, .int .i64 n, .string t]] V fun e w' => e = .returned (.bool false) ∧ Below V.heap.size V w') := fun V => by have := rmay_walk k n t V; rw [hm] at this; exact this
  clear hE hm
  go_enter Tryz.func30, Tryz.ntmps30
  go_wp2_with (first
    | (go_at_call 28; with_reducible refine Calls.mono (HA.out _) ?_; rintro e w1 ⟨rfl, hb1⟩; have HX1 := hide hb1; obtain ⟨⟨p0, p1, p2⟩, q0, q1, q2, ⟨d0, d1, d2, f0, f1, f2⟩, HK1, HB1⟩ := HW.out _ HX1.out; clear hb1)
    | (go_at_call 36; with_reducible refine Calls.mono (HM.out _) ?_; rintro e w2 ⟨rfl, hb2⟩; have HX2 := hide (below_trans HX1.out hb2); obtain ⟨⟨p0, p1, p2⟩, q0, q1, q2, ⟨d0, d1, d2, f0, f1, f2⟩, HK2, HB2⟩ := HW.out _ HX2.out; clear hb2)
    | (go_at_call 37; with_reducible refine Calls.mono (rnull_walk _) ?_; rintro e w9 ⟨rfl, hb9⟩; have HX9 := hide (below_trans HX2.out hb9); obtain ⟨⟨p0, p1, p2⟩, q0, q1, q2, ⟨d0, d1, d2, f0, f1, f2⟩, HK9, HB9⟩ := HW.out _ HX9.out; clear hb9))
  exact ret_val2g Tryz.results30 rfl rfl HK9.out ⟨rfl, below_set3g HB9.out (Nat.le_succ _) _ _ _⟩

set_option maxHeartbeats 1000000 in
set_option maxRecDepth 10000 in
theorem rcast_int (k n : Int) (t a : ByteArray) (h0 : -9223372036854775808 ≤ n) (h1 : n ≤ 9223372036854775807) (hm : mayB k n t = true) (hk : k ≠ 0) (hn : a.data.toList ≠ []) (HA : Hid (∀ w, Calls Tryz.prog 28 #[.string a] w fun e w' => e = .returned (.tuple #[.int .i64 1, .bool true]) ∧ Below w.heap.size w w')) (w : World) (hE : Env w) :
    Calls Tryz.prog 30 #[val k n t, .string a] w fun e w' => e = .returned (.tuple #[optV (numO k n t.data.toList), .int .i64 0]) ∧ Below w.heap.size w w' := by
  have HW : Hid (∀ V, _ → _) := pr_later w k n t
  have HE : Hid (∀ V, Below w.heap.size w V → Env V) := fun V h => hE.below h
  have HM : Hid (∀ V, Calls Tryz.prog 36 #[.agg #[.int .i64 k, .int .i64 n, .string t]] V fun e w' => e = .returned (.bool true) ∧ Below V.heap.size V w') := fun V => by have := rmay_walk k n t V; rw [hm] at this; exact this
  obtain ⟨c1, c2, c3, hc⟩ := optV_val (numO k n t.data.toList)
  have HN : Hid (∀ V, Env V → Calls Tryz.prog 13 #[.agg #[.int .i64 k, .int .i64 n, .string t]] V fun e w' => e = .returned (val c1 c2 c3) ∧ Below V.heap.size V w') := fun V hV => by rw [← hc]; exact rnum_walk k n t V
  rw [hc]
  have ek : (k == 0) = false := by simpa using hk
  have ea : (a.toList == []) = false := by rw [ByteArray.toList_eq]; simpa using hn
  clear hk hn
  clear hE hm hc
  go_enter Tryz.func30, Tryz.ntmps30
  go_wp2_with (first
    | (go_at_call 28; with_reducible refine Calls.mono (HA.out _) ?_; rintro e w1 ⟨rfl, hb1⟩; have HX1 := hide hb1; obtain ⟨⟨p0, p1, p2⟩, q0, q1, q2, ⟨d0, d1, d2, f0, f1, f2⟩, HK1, HB1⟩ := HW.out _ HX1.out; clear hb1)
    | (go_at_call 36; with_reducible refine Calls.mono (HM.out _) ?_; rintro e w2 ⟨rfl, hb2⟩; have HX2 := hide (below_trans HX1.out hb2); obtain ⟨⟨p0, p1, p2⟩, q0, q1, q2, ⟨d0, d1, d2, f0, f1, f2⟩, HK2, HB2⟩ := HW.out _ HX2.out; clear hb2)
    | (go_at_call 13; with_reducible refine Calls.mono (HN.out _ (HE.out _ HB2.out)) ?_; rintro e w3 ⟨rfl, hb3⟩; have HX3 := hide (below_trans HX2.out hb3); obtain ⟨⟨p0, p1, p2⟩, q0, q1, q2, ⟨d0, d1, d2, f0, f1, f2⟩, HK3, HB3⟩ := HW.out _ HX3.out; clear hb3))
  exact ret_val2g Tryz.results30 rfl rfl HK3.out ⟨rfl, below_set3g HB3.out (Nat.le_succ _) _ _ _⟩

set_option maxHeartbeats 1000000 in
set_option maxRecDepth 10000 in
theorem rcast_text (k n : Int) (t a : ByteArray) (h0 : -9223372036854775808 ≤ n) (h1 : n ≤ 9223372036854775807) (hm : mayB k n t = true) (hk : k ≠ 0) (hn : a.data.toList ≠ []) (HA : Hid (∀ w, Calls Tryz.prog 28 #[.string a] w fun e w' => e = .returned (.tuple #[.int .i64 2, .bool true]) ∧ Below w.heap.size w w')) (w : World) (hE : Env w) :
    Calls Tryz.prog 30 #[val k n t, .string a] w fun e w' => e = .returned (.tuple #[showV k n t, .int .i64 0]) ∧ Below w.heap.size w w' := by
  have HW : Hid (∀ V, _ → _) := pr_later w k n t
  have HE : Hid (∀ V, Below w.heap.size w V → Env V) := fun V h => hE.below h
  have HM : Hid (∀ V, Calls Tryz.prog 36 #[.agg #[.int .i64 k, .int .i64 n, .string t]] V fun e w' => e = .returned (.bool true) ∧ Below V.heap.size V w') := fun V => by have := rmay_walk k n t V; rw [hm] at this; exact this
  obtain ⟨c1, c2, c3, hc⟩ : ∃ a b c, showV k n t = val a b c := by
    by_cases hk0 : k = 0
    · subst hk0; exact ⟨0, 0, ⟨#[]⟩, by unfold showV; rw [if_pos (of_decide_eq_true hm)]; rfl⟩
    · exact ⟨_, _, _, (show_some h0 h1 hm hk0).1⟩
  have HN : Hid (∀ V, Env V → Calls Tryz.prog 15 #[.agg #[.int .i64 k, .int .i64 n, .string t]] V fun e w' => e = .returned (val c1 c2 c3) ∧ Below V.heap.size V w') := fun V hV => by rw [← hc]; exact rshow_walk k n t h0 h1 V hV
  rw [hc]
  have ek : (k == 0) = false := by simpa using hk
  have ea : (a.toList == []) = false := by rw [ByteArray.toList_eq]; simpa using hn
  clear hk hn
  clear hE hm hc
  go_enter Tryz.func30, Tryz.ntmps30
  go_wp2_with (first
    | (go_at_call 28; with_reducible refine Calls.mono (HA.out _) ?_; rintro e w1 ⟨rfl, hb1⟩; have HX1 := hide hb1; obtain ⟨⟨p0, p1, p2⟩, q0, q1, q2, ⟨d0, d1, d2, f0, f1, f2⟩, HK1, HB1⟩ := HW.out _ HX1.out; clear hb1)
    | (go_at_call 36; with_reducible refine Calls.mono (HM.out _) ?_; rintro e w2 ⟨rfl, hb2⟩; have HX2 := hide (below_trans HX1.out hb2); obtain ⟨⟨p0, p1, p2⟩, q0, q1, q2, ⟨d0, d1, d2, f0, f1, f2⟩, HK2, HB2⟩ := HW.out _ HX2.out; clear hb2)
    | (go_at_call 15; with_reducible refine Calls.mono (HN.out _ (HE.out _ HB2.out)) ?_; rintro e w3 ⟨rfl, hb3⟩; have HX3 := hide (below_trans HX2.out hb3); obtain ⟨⟨p0, p1, p2⟩, q0, q1, q2, ⟨d0, d1, d2, f0, f1, f2⟩, HK3, HB3⟩ := HW.out _ HX3.out; clear hb3))
  exact ret_val2g Tryz.results30 rfl rfl HK3.out ⟨rfl, below_set3g HB3.out (Nat.le_succ _) _ _ _⟩

set_option maxHeartbeats 1000000 in
set_option maxRecDepth 10000 in
theorem rcast_null (k n : Int) (t a : ByteArray) (h0 : -9223372036854775808 ≤ n) (h1 : n ≤ 9223372036854775807) (f : Int) (hm : mayB k n t = true) (hk : k = 0) (HA : Hid (∀ w, Calls Tryz.prog 28 #[.string a] w fun e w' => e = .returned (.tuple #[.int .i64 f, .bool true]) ∧ Below w.heap.size w w')) (w : World) (hE : Env w) :
    Calls Tryz.prog 30 #[val k n t, .string a] w fun e w' => e = .returned (.tuple #[val k n t, .int .i64 0]) ∧ Below w.heap.size w w' := by
  have HW : Hid (∀ V, _ → _) := pr_later w k n t
  have HE : Hid (∀ V, Below w.heap.size w V → Env V) := fun V h => hE.below h
  have HM : Hid (∀ V, Calls Tryz.prog 36 #[.agg #[.int .i64 k, .int .i64 n, .string t]] V fun e w' => e = .returned (.bool true) ∧ Below V.heap.size V w') := fun V => by have := rmay_walk k n t V; rw [hm] at this; exact this
  have ek : (k == 0) = true := by simpa using hk
  clear hE hm hk
  go_enter Tryz.func30, Tryz.ntmps30
  go_wp2_with (first
    | (go_at_call 28; with_reducible refine Calls.mono (HA.out _) ?_; rintro e w1 ⟨rfl, hb1⟩; have HX1 := hide hb1; obtain ⟨⟨p0, p1, p2⟩, q0, q1, q2, ⟨d0, d1, d2, f0, f1, f2⟩, HK1, HB1⟩ := HW.out _ HX1.out; clear hb1)
    | (go_at_call 36; with_reducible refine Calls.mono (HM.out _) ?_; rintro e w2 ⟨rfl, hb2⟩; have HX2 := hide (below_trans HX1.out hb2); obtain ⟨⟨p0, p1, p2⟩, q0, q1, q2, ⟨d0, d1, d2, f0, f1, f2⟩, HK2, HB2⟩ := HW.out _ HX2.out; clear hb2))
  exact ret_val2g Tryz.results30 rfl rfl HK2.out ⟨rfl, below_set3g HB2.out (Nat.le_succ _) _ _ _⟩

set_option maxHeartbeats 1000000 in
set_option maxRecDepth 10000 in
theorem rcast_stay (k n : Int) (t a : ByteArray) (h0 : -9223372036854775808 ≤ n) (h1 : n ≤ 9223372036854775807) (f : Int) (hm : mayB k n t = true) (hk : k ≠ 0) (hn : a.data.toList = []) (HA : Hid (∀ w, Calls Tryz.prog 28 #[.string a] w fun e w' => e = .returned (.tuple #[.int .i64 f, .bool true]) ∧ Below w.heap.size w w')) (w : World) (hE : Env w) :
    Calls Tryz.prog 30 #[val k n t, .string a] w fun e w' => e = .returned (.tuple #[val k n t, .int .i64 0]) ∧ Below w.heap.size w w' := by
  have HW : Hid (∀ V, _ → _) := pr_later w k n t
  have HE : Hid (∀ V, Below w.heap.size w V → Env V) := fun V h => hE.below h
  have HM : Hid (∀ V, Calls Tryz.prog 36 #[.agg #[.int .i64 k, .int .i64 n, .string t]] V fun e w' => e = .returned (.bool true) ∧ Below V.heap.size V w') := fun V => by have := rmay_walk k n t V; rw [hm] at this; exact this
  have ea : (a.toList == []) = true := by rw [ByteArray.toList_eq, hn]; rfl
  have ek : (k == 0) = false := by simpa using hk
  clear hE hm hn hk
  go_enter Tryz.func30, Tryz.ntmps30
  go_wp2_with (first
    | (go_at_call 28; with_reducible refine Calls.mono (HA.out _) ?_; rintro e w1 ⟨rfl, hb1⟩; have HX1 := hide hb1; obtain ⟨⟨p0, p1, p2⟩, q0, q1, q2, ⟨d0, d1, d2, f0, f1, f2⟩, HK1, HB1⟩ := HW.out _ HX1.out; clear hb1)
    | (go_at_call 36; with_reducible refine Calls.mono (HM.out _) ?_; rintro e w2 ⟨rfl, hb2⟩; have HX2 := hide (below_trans HX1.out hb2); obtain ⟨⟨p0, p1, p2⟩, q0, q1, q2, ⟨d0, d1, d2, f0, f1, f2⟩, HK2, HB2⟩ := HW.out _ HX2.out; clear hb2))
  exact ret_val2g Tryz.results30 rfl rfl HK2.out ⟨rfl, below_set3g HB2.out (Nat.le_succ _) _ _ _⟩

set_option maxHeartbeats 1000000 in
set_option maxRecDepth 10000 in
theorem rcast_blob (k n : Int) (t a : ByteArray) (h0 : -9223372036854775808 ≤ n) (h1 : n ≤ 9223372036854775807) (hm : mayB k n t = true) (hn : a.data.toList ≠ []) (hk : k ≠ 0) (HA : Hid (∀ w, Calls Tryz.prog 28 #[.string a] w fun e w' => e = .returned (.tuple #[.int .i64 0, .bool true]) ∧ Below w.heap.size w w')) (w : World) (hE : Env w) :
    Calls Tryz.prog 30 #[val k n t, .string a] w fun e w' => e = .returned (.tuple #[val 3 0 (showT k n t), .int .i64 0]) ∧ Below w.heap.size w w' := by
  have HW : Hid (∀ V, _ → _) := pr_later w k n t
  have HE : Hid (∀ V, Below w.heap.size w V → Env V) := fun V h => hE.below h
  have HM : Hid (∀ V, Calls Tryz.prog 36 #[.agg #[.int .i64 k, .int .i64 n, .string t]] V fun e w' => e = .returned (.bool true) ∧ Below V.heap.size V w') := fun V => by have := rmay_walk k n t V; rw [hm] at this; exact this
  obtain ⟨hs1, hs2⟩ := show_some h0 h1 hm hk
  obtain ⟨T, hT⟩ : ∃ T, showT k n t = T := ⟨_, rfl⟩
  rw [hT] at hs1 hs2 ⊢
  have HN : Hid (∀ V, Env V → Calls Tryz.prog 15 #[.agg #[.int .i64 k, .int .i64 n, .string t]] V fun e w' => e = .returned (.agg #[.int .i64 2, .int .i64 0, .string T]) ∧ Below V.heap.size V w') := fun V hV => by have := rshow_walk k n t h0 h1 V hV; rw [hs1] at this; exact this
  have hfl : ∀ V, (Instr.field 24 (.agg #[.int .i64 2, .int .i64 0, .string T]) 2).run Tryz.prog V = .ok (.string T) V := fun V => by kernel_rfl
  have ek : (k == 0) = false := by simpa using hk
  have ea : (a.toList == []) = false := by rw [ByteArray.toList_eq]; simpa using hn
  clear hE hm hn hk hs1 hs2 hT
  go_enter Tryz.func30, Tryz.ntmps30
  go_wp2_with (first
    | (go_at_call 28; with_reducible refine Calls.mono (HA.out _) ?_; rintro e w1 ⟨rfl, hb1⟩; have HX1 := hide hb1; obtain ⟨⟨p0, p1, p2⟩, q0, q1, q2, ⟨d0, d1, d2, f0, f1, f2⟩, HK1, HB1⟩ := HW.out _ HX1.out; clear hb1)
    | (go_at_call 36; with_reducible refine Calls.mono (HM.out _) ?_; rintro e w2 ⟨rfl, hb2⟩; have HX2 := hide (below_trans HX1.out hb2); obtain ⟨⟨p0, p1, p2⟩, q0, q1, q2, ⟨d0, d1, d2, f0, f1, f2⟩, HK2, HB2⟩ := HW.out _ HX2.out; clear hb2)
    | (go_at_call 15; with_reducible refine Calls.mono (HN.out _ (HE.out _ HB2.out)) ?_; rintro e w3 ⟨rfl, hb3⟩; have HX3 := hide (below_trans HX2.out hb3); obtain ⟨⟨p0, p1, p2⟩, q0, q1, q2, ⟨d0, d1, d2, f0, f1, f2⟩, HK3, HB3⟩ := HW.out _ HX3.out; clear hb3))
  exact ret_val2g Tryz.results30 rfl rfl HK3.out ⟨rfl, below_set3g HB3.out (Nat.le_succ _) _ _ _⟩

end Go.Proofs.YtoekdeoekcmpgaaGreatDoor
