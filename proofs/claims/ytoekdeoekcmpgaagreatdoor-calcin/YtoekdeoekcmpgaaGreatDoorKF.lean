/- Package calc: text, Show, Truth, truth. -/
import Derived.Test.YtoekdeoekcmpgaaGreatDoorKD
namespace Go.Proofs.YtoekdeoekcmpgaaGreatDoor
open Go.ChangeShapes Go.WideShapes Go.ChangeAt Go.RowKit
set_option linter.unusedVariables false

/-- Text and Blob: a value and an error. -/
def madeV (k : Int) (s : ByteArray) : Value := if s.size ≤ 400 then .tuple #[val k 0 s, .int .i64 0] else .tuple #[val 0 0 ⟨#[]⟩, .int .i64 3]

set_option maxHeartbeats 1000000 in
set_option maxRecDepth 10000 in
theorem made_walk (k : Int) (s : ByteArray) (w : World) : Calls Tryz.prog 96 #[.int .i64 k, .string s] w fun e w' => e = .returned (madeV k s) ∧ Below w.heap.size w w' := by
  unfold madeV
  by_cases h : s.size ≤ 400
  · rw [if_pos h]
    have h1 : ¬ (400 : Int) < (s.size : Int) := by omega
    go_enter Tryz.func96, Tryz.ntmps96
    go_wp2
    go_returns
    exact ⟨rfl, by go_grown⟩
  · rw [if_neg h]
    have h1 : (400 : Int) < (s.size : Int) := by omega
    go_enter Tryz.func96, Tryz.ntmps96
    go_wp2
    go_returns
    exact ⟨rfl, by go_grown⟩
set_option maxHeartbeats 1000000 in
set_option maxRecDepth 10000 in
theorem vtext_walk (s : ByteArray) (hs : s.size ≤ 400) (w : World) : Calls Tryz.prog 70 #[.string s] w fun e w' => e = .returned (.tuple #[val 2 0 s, .int .i64 0]) ∧ Below w.heap.size w w' := by
  have HM : Hid (∀ V, Calls Tryz.prog 96 #[.int .i64 2, .string s] V fun e w' => e = .returned (.tuple #[val 2 0 s, .int .i64 0]) ∧ Below V.heap.size V w') := fun V => by have := made_walk 2 s V; unfold madeV at this; rw [if_pos hs] at this; exact this
  have HW : Hid (∀ V, _ → _) := res_later w
  go_enter Tryz.func70, Tryz.ntmps70
  go_wp2_with (first
    | (go_at_call 96; with_reducible refine Calls.mono (HM.out _) ?_; rintro e w1 ⟨rfl, hb1⟩; obtain ⟨d0, d1, d2, f0, f1, f2, a0, a1, a2, b0, b1, b2, HK1, HB1, HL1⟩ := HW.out _ hb1; clear hb1))
  exact ret_val2 Tryz.results70 rfl rfl HK1.out ⟨rfl, below_set3 HB1.out _ _ _⟩
set_option maxHeartbeats 1000000 in
set_option maxRecDepth 10000 in
theorem vtext_long (s : ByteArray) (hs : ¬ s.size ≤ 400) (w : World) : Calls Tryz.prog 70 #[.string s] w fun e w' => e = .returned (.tuple #[val 0 0 ⟨#[]⟩, .int .i64 3]) ∧ Below w.heap.size w w' := by
  have HM : Hid (∀ V, Calls Tryz.prog 96 #[.int .i64 2, .string s] V fun e w' => e = .returned (.tuple #[val 0 0 ⟨#[]⟩, .int .i64 3]) ∧ Below V.heap.size V w') := fun V => by have := made_walk 2 s V; unfold madeV at this; rw [if_neg hs] at this; exact this
  have HW : Hid (∀ V, _ → _) := res_later w
  go_enter Tryz.func70, Tryz.ntmps70
  go_wp2_with (first
    | (go_at_call 96; with_reducible refine Calls.mono (HM.out _) ?_; rintro e w1 ⟨rfl, hb1⟩; obtain ⟨d0, d1, d2, f0, f1, f2, a0, a1, a2, b0, b1, b2, HK1, HB1, HL1⟩ := HW.out _ hb1; clear hb1))
  exact ret_val2 Tryz.results70 rfl rfl HK1.out ⟨rfl, below_set3 HB1.out _ _ _⟩

/-- A text, or NULL. -/
def textV (s : ByteArray) : Value := if s.size ≤ 400 then val 2 0 s else val 0 0 ⟨#[]⟩

set_option maxHeartbeats 1000000 in
set_option maxRecDepth 10000 in
theorem ktext_walk (s : ByteArray) (w : World) : Calls Tryz.prog 41 #[.string s] w fun e w' => e = .returned (textV s) ∧ Below w.heap.size w w' := by
  unfold textV
  have HW : Hid (∀ V, _ → _) := res_later w
  by_cases h : s.size ≤ 400
  · rw [if_pos h]
    go_enter Tryz.func41, Tryz.ntmps41
    go_wp2_with (first
      | (go_at_call 70; with_reducible refine Calls.mono (vtext_walk s h _) ?_; rintro e w1 ⟨rfl, hb1⟩; obtain ⟨d0, d1, d2, f0, f1, f2, a0, a1, a2, b0, b1, b2, HK1, HB1, HL1⟩ := HW.out _ hb1; clear hb1))
    exact ret_val Tryz.results41 rfl (blk_alloc HK1.out _) ⟨rfl, below_set3 (HB1.out.alloc HB1.out.size _) _ _ _⟩
  · rw [if_neg h]
    go_enter Tryz.func41, Tryz.ntmps41
    go_wp2_with (first
      | (go_at_call 70; with_reducible refine Calls.mono (vtext_long s h _) ?_; rintro e w1 ⟨rfl, hb1⟩; obtain ⟨d0, d1, d2, f0, f1, f2, a0, a1, a2, b0, b1, b2, HK1, HB1, HL1⟩ := HW.out _ hb1; clear hb1))
    exact ret_val Tryz.results41 rfl (blk_alloc HK1.out _) ⟨rfl, below_set3 (HB1.out.alloc HB1.out.size _) _ _ _⟩

/-- A value as a text. -/
def showV (k n : Int) (t : ByteArray) : Value := if MayL k n t.data.toList then (if k = 1 then textV ⟨(Lib.itoa n).toArray⟩ else if k = 2 ∨ k = 3 then textV t else val 0 0 ⟨#[]⟩) else val 0 0 ⟨#[]⟩
theorem textV_val (s : ByteArray) : ∃ k n t, textV s = val k n t := by
  unfold textV
  split
  · exact ⟨_, _, _, rfl⟩
  · exact ⟨_, _, _, rfl⟩

set_option maxHeartbeats 1000000 in
set_option maxRecDepth 10000 in
theorem show_no (k n : Int) (t : ByteArray) (hm : mayB k n t = false) (w : World) : Calls Tryz.prog 14 #[val k n t] w fun e w' => e = .returned (val 0 0 ⟨#[]⟩) ∧ Below w.heap.size w w' := by
  have HM : Hid (∀ V, Calls Tryz.prog 32 #[.agg #[.int .i64 k, .int .i64 n, .string t]] V fun e w' => e = .returned (.bool false) ∧ Below V.heap.size V w') := fun V => by have := may_walk k n t V; rw [hm] at this; exact this
  have HW : Hid (∀ V, _ → _) := pr_later w k n t
  clear hm
  go_enter Tryz.func14, Tryz.ntmps14
  go_wp2_with (first
    | (go_at_call 32; with_reducible refine Calls.mono (HM.out _) ?_; rintro e w1 ⟨rfl, hb1⟩; obtain ⟨⟨p0, p1, p2⟩, q0, q1, q2, ⟨d0, d1, d2, f0, f1, f2⟩, HK1, HB1⟩ := HW.out _ hb1; clear hb1))
  exact ret_val Tryz.results14 rfl HK1.out ⟨rfl, below_set3g HB1.out (Nat.le_succ _) _ _ _⟩

set_option maxHeartbeats 1000000 in
set_option maxRecDepth 10000 in
theorem show_null (w : World) : Calls Tryz.prog 14 #[val 0 0 ⟨#[]⟩] w fun e w' => e = .returned (val 0 0 ⟨#[]⟩) ∧ Below w.heap.size w w' := by
  have HM : Hid (∀ V, Calls Tryz.prog 32 #[.agg #[.int .i64 0, .int .i64 0, .string ⟨#[]⟩]] V fun e w' => e = .returned (.bool true) ∧ Below V.heap.size V w') := fun V => may_walk 0 0 ⟨#[]⟩ V
  have HW : Hid (∀ V, _ → _) := pr_later w 0 0 ⟨#[]⟩
  go_enter Tryz.func14, Tryz.ntmps14
  go_wp2_with (first
    | (go_at_call 32; with_reducible refine Calls.mono (HM.out _) ?_; rintro e w1 ⟨rfl, hb1⟩; obtain ⟨⟨p0, p1, p2⟩, q0, q1, q2, ⟨d0, d1, d2, f0, f1, f2⟩, HK1, HB1⟩ := HW.out _ hb1; clear hb1))
  exact ret_val Tryz.results14 rfl HK1.out ⟨rfl, below_set3g HB1.out (Nat.le_succ _) _ _ _⟩

set_option maxHeartbeats 1000000 in
set_option maxRecDepth 10000 in
theorem show_int (n : Int) (h0 : -9223372036854775808 ≤ n) (h1 : n ≤ 9223372036854775807) (w : World) (hE : Env w) : Calls Tryz.prog 14 #[val 1 n ⟨#[]⟩] w fun e w' => e = .returned (textV ⟨(Lib.itoa n).toArray⟩) ∧ Below w.heap.size w w' := by
  have HM : Hid (∀ V, Calls Tryz.prog 32 #[.agg #[.int .i64 1, .int .i64 n, .string ⟨#[]⟩]] V fun e w' => e = .returned (.bool true) ∧ Below V.heap.size V w') := fun V => may_walk 1 n ⟨#[]⟩ V
  have HW : Hid (∀ V, _ → _) := pr_later w 1 n ⟨#[]⟩
  obtain ⟨x, hx⟩ : ∃ x : ByteArray, x = ⟨(Lib.itoa n).toArray⟩ := ⟨_, rfl⟩
  have HF : Hid (∀ V, Env V → Calls Tryz.prog 42 #[.int .i64 n, .int .i64 10] V fun e w' => e = .returned (.string x) ∧ Below V.heap.size V w') := fun V hV => by rw [hx]; exact fmt_walk n h0 h1 V hV
  rw [← hx]
  obtain ⟨k1, n1, t1, hv⟩ := textV_val x
  have HT : Hid (∀ V, Calls Tryz.prog 41 #[.string x] V fun e w' => e = .returned (val k1 n1 t1) ∧ Below V.heap.size V w') := fun V => by rw [← hv]; exact ktext_walk x V
  rw [hv]
  have HE : Hid (∀ V, Below w.heap.size w V → Env V) := fun V h => hE.below h
  clear hx hv hE
  go_enter Tryz.func14, Tryz.ntmps14
  go_wp2_with (first
    | (go_at_call 32; with_reducible refine Calls.mono (HM.out _) ?_; rintro e w1 ⟨rfl, hb1⟩; obtain ⟨⟨p0, p1, p2⟩, q0, q1, q2, ⟨d0, d1, d2, f0, f1, f2⟩, HK1, HB1⟩ := HW.out _ hb1; have HX1 := hide hb1; clear hb1)
    | (go_at_call 42; with_reducible refine Calls.mono (HF.out _ (HE.out _ HB1.out)) ?_; rintro e w2 ⟨rfl, hb2⟩; have HX2 := hide (below_trans HX1.out hb2); clear hb2)
    | (go_at_call 41; with_reducible refine Calls.mono (HT.out _) ?_; rintro e w3 ⟨rfl, hb3⟩; obtain ⟨⟨p0, p1, p2⟩, q0, q1, q2, ⟨d0, d1, d2, f0, f1, f2⟩, HK4, HB4⟩ := HW.out _ (below_trans HX2.out hb3); clear hb3))
  exact ret_val Tryz.results14 rfl HK4.out ⟨rfl, below_set3g HB4.out (Nat.le_succ _) _ _ _⟩

set_option maxHeartbeats 1000000 in
set_option maxRecDepth 10000 in
theorem show_text (k : Int) (hk : k = 2 ∨ k = 3) (t : ByteArray) (ht : t.size ≤ 400) (w : World) : Calls Tryz.prog 14 #[val k 0 t] w fun e w' => e = .returned (textV t) ∧ Below w.heap.size w w' := by
  have hm : mayB k 0 t = true := by rcases hk with rfl | rfl <;> (first | rw [may2] | rw [may3]) <;> simpa using ht
  have HM : Hid (∀ V, Calls Tryz.prog 32 #[.agg #[.int .i64 k, .int .i64 0, .string t]] V fun e w' => e = .returned (.bool true) ∧ Below V.heap.size V w') := fun V => by have := may_walk k 0 t V; rw [hm] at this; exact this
  have HW : Hid (∀ V, _ → _) := pr_later w k 0 t
  obtain ⟨k1, n1, t1, hv⟩ := textV_val t
  have HT : Hid (∀ V, Calls Tryz.prog 41 #[.string t] V fun e w' => e = .returned (val k1 n1 t1) ∧ Below V.heap.size V w') := fun V => by rw [← hv]; exact ktext_walk t V
  rw [hv]
  clear hm hv
  rcases hk with rfl | rfl
  all_goals
    go_enter Tryz.func14, Tryz.ntmps14
    go_wp2_with (first
      | (go_at_call 32; with_reducible refine Calls.mono (HM.out _) ?_; rintro e w1 ⟨rfl, hb1⟩; obtain ⟨⟨p0, p1, p2⟩, q0, q1, q2, ⟨d0, d1, d2, f0, f1, f2⟩, HK1, HB1⟩ := HW.out _ hb1; have HX1 := hide hb1; clear hb1)
      | (go_at_call 41; with_reducible refine Calls.mono (HT.out _) ?_; rintro e w3 ⟨rfl, hb3⟩; obtain ⟨⟨p0, p1, p2⟩, q0, q1, q2, ⟨d0, d1, d2, f0, f1, f2⟩, HK4, HB4⟩ := HW.out _ (below_trans HX1.out hb3); clear hb3))
    exact ret_val Tryz.results14 rfl HK4.out ⟨rfl, below_set3g HB4.out (Nat.le_succ _) _ _ _⟩

theorem show_walk (k n : Int) (t : ByteArray) (h0 : -9223372036854775808 ≤ n) (h1 : n ≤ 9223372036854775807) (w : World) (hE : Env w) : Calls Tryz.prog 14 #[val k n t] w fun e w' => e = .returned (showV k n t) ∧ Below w.heap.size w w' := by
  unfold showV
  by_cases hm : MayL k n t.data.toList
  · rw [if_pos hm]
    rcases hm with ⟨rfl, rfl, h⟩ | ⟨rfl, h⟩ | ⟨hk, rfl, h⟩
    · obtain rfl : t = ⟨#[]⟩ := by rw [← ba_eq t, h]
      exact show_null w
    · obtain rfl : t = ⟨#[]⟩ := by rw [← ba_eq t, h]
      exact show_int n h0 h1 w hE
    · rw [if_neg (by omega), if_pos hk]
      exact show_text k hk t (by simpa using h) w
  · rw [if_neg hm]
    exact show_no k n t (by simp [mayB, hm]) w

def truthB (o : Option Int) : Value := match o with | some m => .tuple #[.bool (decide (m ≠ 0)), .bool true] | none => .tuple #[.bool false, .bool false]

set_option maxHeartbeats 1000000 in
set_option maxRecDepth 10000 in
theorem truth2_walk (k n : Int) (t : ByteArray) (w : World) (hE : Env w) : Calls Tryz.prog 9 #[val k n t] w fun e w' => e = .returned (truthB (numO k n t.data.toList)) ∧ Below w.heap.size w w' := by
  have HN : Hid (∀ V, Env V → Calls Tryz.prog 12 #[.agg #[.int .i64 k, .int .i64 n, .string t]] V fun e w' => e = .returned (optV (numO k n t.data.toList)) ∧ Below V.heap.size V w') := fun V hV => num_walk k n t V hV
  have HE1 : Hid (Env (w.alloc (vcells k n t))) := hE.below (new_below w _ rfl)
  have HB : Hid (∀ V, Below (w.alloc (vcells k n t)).heap.size (w.alloc (vcells k n t)) V → Below w.heap.size w V) := fun V h => below_trans (new_below w _ rfl) h
  generalize numO k n t.data.toList = o at HN ⊢
  clear hE
  cases o with
  | none =>
    dsimp only [optV] at HN
    go_enter Tryz.func9, Tryz.ntmps9
    go_wp2_with (first
      | (go_at_call 12; with_reducible refine Calls.mono (HN.out _ HE1.out) ?_; rintro e w1 ⟨rfl, hb1⟩; have HB1 := hide hb1; clear hb1))
    go_region
    all_goals (try go_wp2)
    all_goals go_ret2
    all_goals exact ⟨rfl, (below_trans (HB.out _ HB1.out) (new_below w1 _ rfl)).drew⟩
  | some m =>
    dsimp only [optV] at HN
    go_enter Tryz.func9, Tryz.ntmps9
    go_wp2_with (first
      | (go_at_call 12; with_reducible refine Calls.mono (HN.out _ HE1.out) ?_; rintro e w1 ⟨rfl, hb1⟩; have HB1 := hide hb1; clear hb1))
    go_region
    all_goals (try go_wp2)
    all_goals go_ret2
    all_goals refine ⟨?_, (below_trans (HB.out _ HB1.out) (new_below w1 _ rfl)).drew⟩
    all_goals (simp [truthB]; rfl)

def truthV (b : Bool) : Value := val 1 (if b then 1 else 0) ⟨#[]⟩
set_option maxHeartbeats 1000000 in
theorem ktruth_walk (b : Bool) (w : World) : Calls Tryz.prog 52 #[.bool b] w fun e w' => e = .returned (truthV b) ∧ Below w.heap.size w w' := by
  have HW : Hid (∀ V, _ → _) := res_later w
  cases b
  all_goals
    go_enter Tryz.func52, Tryz.ntmps52
    go_wp2_with (first
      | (go_at_call 60; with_reducible refine Calls.mono (int_walk _ _) ?_; rintro e w1 ⟨rfl, hb1⟩; obtain ⟨d0, d1, d2, f0, f1, f2, a0, a1, a2, b0, b1, b2, HK1, HB1, HL1⟩ := HW.out _ hb1; clear hb1))
    exact ret_val Tryz.results52 rfl HK1.out ⟨rfl, below_set3 HB1.out _ _ _⟩
end Go.Proofs.YtoekdeoekcmpgaaGreatDoor
