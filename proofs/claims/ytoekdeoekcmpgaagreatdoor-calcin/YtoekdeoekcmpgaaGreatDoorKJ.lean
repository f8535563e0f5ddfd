/- The document's Text, Show, Truth. -/
import Derived.Test.YtoekdeoekcmpgaaGreatDoorKI
namespace Go.Proofs.YtoekdeoekcmpgaaGreatDoor
open Go.ChangeShapes Go.WideShapes Go.ChangeAt Go.RowKit
set_option linter.unusedVariables false

set_option maxHeartbeats 1000000 in
set_option maxRecDepth 10000 in
theorem rtext_walk (s : ByteArray) (w : World) : Calls Tryz.prog 43 #[.string s] w fun e w' => e = .returned (textV s) ∧ Below w.heap.size w w' := by
  unfold textV
  have HW : Hid (∀ V, _ → _) := res_later w
  by_cases h : s.size ≤ 400
  · rw [if_pos h]
    have h1 : ¬ (400 : Int) < (s.size : Int) := by omega
    go_enter Tryz.func43, Tryz.ntmps43
    go_wp2
    go_returns
    exact ⟨rfl, by go_grown⟩
  · rw [if_neg h]
    have h1 : (400 : Int) < (s.size : Int) := by omega
    go_enter Tryz.func43, Tryz.ntmps43
    go_wp2_with (first
      | (go_at_call 37; with_reducible refine Calls.mono (rnull_walk _) ?_; rintro e w1 ⟨rfl, hb1⟩; obtain ⟨d0, d1, d2, f0, f1, f2, a0, a1, a2, b0, b1, b2, HK1, HB1, HL1⟩ := HW.out _ hb1; clear hb1))
    exact ret_val Tryz.results43 rfl HK1.out ⟨rfl, below_set3 HB1.out _ _ _⟩

set_option maxHeartbeats 1000000 in
set_option maxRecDepth 10000 in
theorem rshow_no (k n : Int) (t : ByteArray) (hm : mayB k n t = false) (w : World) : Calls Tryz.prog 15 #[val k n t] w fun e w' => e = .returned (val 0 0 ⟨#[]⟩) ∧ Below w.heap.size w w' := by
  have HM : Hid (∀ V, Calls Tryz.prog 36 #[.agg #[.int .i64 k, .int .i64 n, .string t]] V fun e w' => e = .returned (.bool false) ∧ Below V.heap.size V w') := fun V => by have := rmay_walk k n t V; rw [hm] at this; exact this
  have HW : Hid (∀ V, _ → _) := pr_later w k n t
  clear hm
  go_enter Tryz.func15, Tryz.ntmps15
  go_wp2_with (first
    | (go_at_call 36; with_reducible refine Calls.mono (HM.out _) ?_; rintro e w1 ⟨rfl, hb1⟩; obtain ⟨⟨p0, p1, p2⟩, q0, q1, q2, ⟨d0, d1, d2, f0, f1, f2⟩, HK1, HB1⟩ := HW.out _ hb1; have HX1 := hide hb1; clear hb1)
    | (go_at_call 37; with_reducible refine Calls.mono (rnull_walk _) ?_; rintro e w2 ⟨rfl, hb2⟩; obtain ⟨⟨p0, p1, p2⟩, q0, q1, q2, ⟨d0, d1, d2, f0, f1, f2⟩, HK2, HB2⟩ := HW.out _ (below_trans HX1.out hb2); clear hb2))
  exact ret_val Tryz.results15 rfl HK2.out ⟨rfl, below_set3g HB2.out (Nat.le_succ _) _ _ _⟩

set_option maxHeartbeats 1000000 in
set_option maxRecDepth 10000 in
theorem rshow_null (w : World) : Calls Tryz.prog 15 #[val 0 0 ⟨#[]⟩] w fun e w' => e = .returned (val 0 0 ⟨#[]⟩) ∧ Below w.heap.size w w' := by
  have HM : Hid (∀ V, Calls Tryz.prog 36 #[.agg #[.int .i64 0, .int .i64 0, .string ⟨#[]⟩]] V fun e w' => e = .returned (.bool true) ∧ Below V.heap.size V w') := fun V => rmay_walk 0 0 ⟨#[]⟩ V
  have HW : Hid (∀ V, _ → _) := pr_later w 0 0 ⟨#[]⟩
  go_enter Tryz.func15, Tryz.ntmps15
  go_wp2_with (first
    | (go_at_call 36; with_reducible refine Calls.mono (HM.out _) ?_; rintro e w1 ⟨rfl, hb1⟩; obtain ⟨⟨p0, p1, p2⟩, q0, q1, q2, ⟨d0, d1, d2, f0, f1, f2⟩, HK1, HB1⟩ := HW.out _ hb1; have HX1 := hide hb1; clear hb1)
    | (go_at_call 37; with_reducible refine Calls.mono (rnull_walk _) ?_; rintro e w2 ⟨rfl, hb2⟩; obtain ⟨⟨p0, p1, p2⟩, q0, q1, q2, ⟨d0, d1, d2, f0, f1, f2⟩, HK2, HB2⟩ := HW.out _ (below_trans HX1.out hb2); clear hb2))
  exact ret_val Tryz.results15 rfl HK2.out ⟨rfl, below_set3g HB2.out (Nat.le_succ _) _ _ _⟩

set_option maxHeartbeats 1000000 in
set_option maxRecDepth 10000 in
theorem rshow_int (n : Int) (h0 : -9223372036854775808 ≤ n) (h1 : n ≤ 9223372036854775807) (w : World) (hE : Env w) : Calls Tryz.prog 15 #[val 1 n ⟨#[]⟩] w fun e w' => e = .returned (textV ⟨(Lib.itoa n).toArray⟩) ∧ Below w.heap.size w w' := by
  have HM : Hid (∀ V, Calls Tryz.prog 36 #[.agg #[.int .i64 1, .int .i64 n, .string ⟨#[]⟩]] V fun e w' => e = .returned (.bool true) ∧ Below V.heap.size V w') := fun V => rmay_walk 1 n ⟨#[]⟩ V
  have HW : Hid (∀ V, _ → _) := pr_later w 1 n ⟨#[]⟩
  obtain ⟨x, hx⟩ : ∃ x : ByteArray, x = ⟨(Lib.itoa n).toArray⟩ := ⟨_, rfl⟩
  have HF : Hid (∀ V, Env V → Calls Tryz.prog 42 #[.int .i64 n, .int .i64 10] V fun e w' => e = .returned (.string x) ∧ Below V.heap.size V w') := fun V hV => by rw [hx]; exact fmt_walk n h0 h1 V hV
  rw [← hx]
  obtain ⟨k1, n1, t1, hv⟩ := textV_val x
  have HT : Hid (∀ V, Calls Tryz.prog 43 #[.string x] V fun e w' => e = .returned (val k1 n1 t1) ∧ Below V.heap.size V w') := fun V => by rw [← hv]; exact rtext_walk x V
  rw [hv]
  have HE : Hid (∀ V, Below w.heap.size w V → Env V) := fun V h => hE.below h
  clear hx hv hE
  go_enter Tryz.func15, Tryz.ntmps15
  go_wp2_with (first
    | (go_at_call 36; with_reducible refine Calls.mono (HM.out _) ?_; rintro e w1 ⟨rfl, hb1⟩; obtain ⟨⟨p0, p1, p2⟩, q0, q1, q2, ⟨d0, d1, d2, f0, f1, f2⟩, HK1, HB1⟩ := HW.out _ hb1; have HX1 := hide hb1; clear hb1)
    | (go_at_call 42; with_reducible refine Calls.mono (HF.out _ (HE.out _ HB1.out)) ?_; rintro e w2 ⟨rfl, hb2⟩; have HX2 := hide (below_trans HX1.out hb2); clear hb2)
    | (go_at_call 43; with_reducible refine Calls.mono (HT.out _) ?_; rintro e w3 ⟨rfl, hb3⟩; obtain ⟨⟨p0, p1, p2⟩, q0, q1, q2, ⟨d0, d1, d2, f0, f1, f2⟩, HK4, HB4⟩ := HW.out _ (below_trans HX2.out hb3); clear hb3))
  exact ret_val Tryz.results15 rfl HK4.out ⟨rfl, below_set3g HB4.out (Nat.le_succ _) _ _ _⟩

set_option maxHeartbeats 1000000 in
set_option maxRecDepth 10000 in
theorem rshow_text (k : Int) (hk : k = 2 ∨ k = 3) (t : ByteArray) (ht : t.size ≤ 400) (w : World) : Calls Tryz.prog 15 #[val k 0 t] w fun e w' => e = .returned (textV t) ∧ Below w.heap.size w w' := by
  have hm : mayB k 0 t = true := by rcases hk with rfl | rfl <;> (first | rw [may2] | rw [may3]) <;> simpa using ht
  have HM : Hid (∀ V, Calls Tryz.prog 36 #[.agg #[.int .i64 k, .int .i64 0, .string t]] V fun e w' => e = .returned (.bool true) ∧ Below V.heap.size V w') := fun V => by have := rmay_walk k 0 t V; rw [hm] at this; exact this
  have HW : Hid (∀ V, _ → _) := pr_later w k 0 t
  obtain ⟨k1, n1, t1, hv⟩ := textV_val t
  have HT : Hid (∀ V, Calls Tryz.prog 43 #[.string t] V fun e w' => e = .returned (val k1 n1 t1) ∧ Below V.heap.size V w') := fun V => by rw [← hv]; exact rtext_walk t V
  rw [hv]
  clear hm hv
  rcases hk with rfl | rfl
  all_goals
    go_enter Tryz.func15, Tryz.ntmps15
    go_wp2_with (first
      | (go_at_call 36; with_reducible refine Calls.mono (HM.out _) ?_; rintro e w1 ⟨rfl, hb1⟩; obtain ⟨⟨p0, p1, p2⟩, q0, q1, q2, ⟨d0, d1, d2, f0, f1, f2⟩, HK1, HB1⟩ := HW.out _ hb1; have HX1 := hide hb1; clear hb1)
      | (go_at_call 43; with_reducible refine Calls.mono (HT.out _) ?_; rintro e w3 ⟨rfl, hb3⟩; obtain ⟨⟨p0, p1, p2⟩, q0, q1, q2, ⟨d0, d1, d2, f0, f1, f2⟩, HK4, HB4⟩ := HW.out _ (below_trans HX1.out hb3); clear hb3))
    exact ret_val Tryz.results15 rfl HK4.out ⟨rfl, below_set3g HB4.out (Nat.le_succ _) _ _ _⟩

theorem rshow_walk (k n : Int) (t : ByteArray) (h0 : -9223372036854775808 ≤ n) (h1 : n ≤ 9223372036854775807) (w : World) (hE : Env w) : Calls Tryz.prog 15 #[val k n t] w fun e w' => e = .returned (showV k n t) ∧ Below w.heap.size w w' := by
  unfold showV
  by_cases hm : MayL k n t.data.toList
  · rw [if_pos hm]
    rcases hm with ⟨rfl, rfl, h⟩ | ⟨rfl, h⟩ | ⟨hk, rfl, h⟩
    · obtain rfl : t = ⟨#[]⟩ := by rw [← ba_eq t, h]
      exact rshow_null w
    · obtain rfl : t = ⟨#[]⟩ := by rw [← ba_eq t, h]
      exact rshow_int n h0 h1 w hE
    · rw [if_neg (by omega), if_pos hk]
      exact rshow_text k hk t (by simpa using h) w
  · rw [if_neg hm]
    exact rshow_no k n t (by simp [mayB, hm]) w

def truthI (o : Option Int) : Int := match o with | some m => if m = 0 then 0 else 1 | none => -1

set_option maxHeartbeats 1000000 in
set_option maxRecDepth 10000 in
theorem rtruth_walk (k n : Int) (t : ByteArray) (w : World) : Calls Tryz.prog 10 #[val k n t] w fun e w' => e = .returned (.int .i64 (truthI (numO k n t.data.toList))) ∧ Below w.heap.size w w' := by
  have HN : Hid (∀ V, Calls Tryz.prog 13 #[.agg #[.int .i64 k, .int .i64 n, .string t]] V fun e w' => e = .returned (optV (numO k n t.data.toList)) ∧ Below V.heap.size V w') := fun V => rnum_walk k n t V
  have HB : Hid (∀ V, Below (w.alloc (vcells k n t)).heap.size (w.alloc (vcells k n t)) V → Below w.heap.size w V) := fun V h => below_trans (new_below w _ rfl) h
  generalize numO k n t.data.toList = o at HN ⊢
  cases o with
  | none =>
    dsimp only [optV] at HN
    go_enter Tryz.func10, Tryz.ntmps10
    go_wp2_with (first
      | (go_at_call 13; with_reducible refine Calls.mono (HN.out _) ?_; rintro e w1 ⟨rfl, hb1⟩; have HB1 := hide hb1; clear hb1))
    go_ret
    exact ⟨rfl, below_trans (HB.out _ HB1.out) (new_below w1 _ rfl)⟩
  | some m =>
    dsimp only [optV] at HN
    dsimp only [truthI]
    by_cases hm : m = 0
    · rw [if_pos hm]
      go_enter Tryz.func10, Tryz.ntmps10
      go_wp2_with (first
        | (go_at_call 13; with_reducible refine Calls.mono (HN.out _) ?_; rintro e w1 ⟨rfl, hb1⟩; have HB1 := hide hb1; clear hb1))
      go_ret
      exact ⟨rfl, below_trans (HB.out _ HB1.out) (new_below w1 _ rfl)⟩
    · rw [if_neg hm]
      have hm2 : (m != 0) = true := by simp [bne, hm]
      have hm3 : (m == 0) = false := by simp [hm]
      go_enter Tryz.func10, Tryz.ntmps10
      go_wp2_with (first
        | (go_at_call 13; with_reducible refine Calls.mono (HN.out _) ?_; rintro e w1 ⟨rfl, hb1⟩; have HB1 := hide hb1; clear hb1))
      go_ret
      exact ⟨rfl, below_trans (HB.out _ HB1.out) (new_below w1 _ rfl)⟩
end Go.Proofs.YtoekdeoekcmpgaaGreatDoor
