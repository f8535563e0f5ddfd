/- Package calc: Unary, and the document's. -/
/- The document's Three, Unary; the walk of CalcUnary. -/
import Derived.Test.YtoekdeoekcmpgaaGreatDoorKR
namespace Go.Proofs.YtoekdeoekcmpgaaGreatDoor
open Go.ChangeShapes Go.WideShapes Go.ChangeAt Go.RowKit
set_option linter.unusedVariables false

theorem valueOf_range {sg ds : List UInt8} {x : Int} (h : valueOf sg ds = some x) : inR x := by
  unfold valueOf at h
  unfold inR
  split at h
  · split at h
    · have := Option.some.inj h; omega
    · cases h
  · split at h
    · have := Option.some.inj h; omega
    · cases h
theorem numO_range {k n : Int} {t : List UInt8} (h0 : -9223372036854775808 ≤ n) (h1 : n ≤ 9223372036854775807) {x : Int} (h : numO k n t = some x) : inR x := by
  unfold numO at h
  split at h
  · split at h
    · have := Option.some.inj h; unfold inR; omega
    · split at h
      · unfold numT at h
        rw [intOf_firstN] at h
        split at h
        · have := Option.some.inj h; unfold inR; omega
        · rename_i hd
          rw [num3_value _ _ (digs_dig _) hd] at h
          exact valueOf_range h
      · cases h
  · cases h

/-- What Unary answers: a value. -/
def unV (op k n : Int) (t : ByteArray) : Value :=
  if (op = 4 ∨ op = 5 ∨ op = 6) ∧ mayB k n t = true then (if op = 4 then optV (negO (numO k n t.data.toList)) else if op = 5 then val k n t else optV (notO (numO k n t.data.toList))) else val 0 0 ⟨#[]⟩
/-- And an error. -/
def unE (op k n : Int) (t : ByteArray) : Int := if op = 4 ∨ op = 5 ∨ op = 6 then (if mayB k n t = true then 0 else 2) else 130
theorem unV_val (op k n : Int) (t : ByteArray) : ∃ a b c, unV op k n t = val a b c := by
  unfold unV
  split
  · split
    · exact optV_val _
    · split
      · exact ⟨_, _, _, rfl⟩
      · exact optV_val _
  · exact ⟨_, _, _, rfl⟩

set_option maxHeartbeats 1000000 in
set_option maxRecDepth 10000 in
theorem unary_neg (k n : Int) (t : ByteArray) (h0 : -9223372036854775808 ≤ n) (h1 : n ≤ 9223372036854775807) (hm : mayB k n t = true) (w : World) (hE : Env w) : Calls Tryz.prog 16 #[.int .i64 4, val k n t] w fun e w' => e = .returned (.tuple #[unV 4 k n t, .int .i64 0]) ∧ Below w.heap.size w w' := by
  have HM : Hid (∀ V, Calls Tryz.prog 32 #[.agg #[.int .i64 k, .int .i64 n, .string t]] V fun e w' => e = .returned (.bool true) ∧ Below V.heap.size V w') := fun V => by have := may_walk k n t V; rw [hm] at this; exact this
  have hnf := fn1_nil
  have HW : Hid (∀ V, _ → _) := pr_later w k n t
  have HE : Hid (∀ V, Below w.heap.size w V → Env V) := fun V h => hE.below h
  have hR : ∀ x, numO k n t.data.toList = some x → inR x := fun x h => numO_range h0 h1 h
  have e1 : unV 4 k n t = optV (negO (numO k n t.data.toList)) := by unfold unV; rw [if_pos ⟨.inl rfl, hm⟩, if_pos rfl]
  obtain ⟨c1, c2, c3, hc⟩ := optV_val (negO (numO k n t.data.toList))
  rw [e1, hc]
  have HC : Hid (∀ V p, Env V → NegFn V p → Calls Tryz.prog 74 #[.agg #[.int .i64 k, .int .i64 n, .string t], .pointer (some ⟨p, 0, none⟩)] V fun e w' => e = .returned (val c1 c2 c3) ∧ Below V.heap.size V w') := fun V p hV hN => by rw [← hc]; exact neg_walk k n t hR p V hV hN
  clear e1 hc
  clear hm hE hR
  go_enter Tryz.func16, Tryz.ntmps16
  go_wp2_with (first
    | (go_at_call 44; with_reducible refine Calls.mono (ofOne_neg _) ?_; rintro e w1 ⟨pf, rfl, hN, hb1⟩; have HX1 := hide hb1; have HN1 := hide hN; obtain ⟨⟨p0, p1, p2⟩, q0, q1, q2, ⟨d0, d1, d2, f0, f1, f2⟩, HK1, HB1⟩ := HW.out _ HX1.out; clear hb1 hN)
    | (go_at_call 32; with_reducible refine Calls.mono (HM.out _) ?_; rintro e w2 ⟨rfl, hb2⟩; have HX2 := hide (below_trans HX1.out hb2); have HN2 := hide (HN1.out.below hb2); obtain ⟨⟨p0, p1, p2⟩, q0, q1, q2, ⟨d0, d1, d2, f0, f1, f2⟩, HK2, HB2⟩ := HW.out _ HX2.out; clear hb2)
    | (go_at_call 74; with_reducible refine Calls.mono (HC.out _ _ (HE.out _ HB2.out) HN2.out) ?_; rintro e w3 ⟨rfl, hb3⟩; have HX3 := hide (below_trans HX2.out hb3); obtain ⟨⟨p0, p1, p2⟩, q0, q1, q2, ⟨d0, d1, d2, f0, f1, f2⟩, HK3, HB3⟩ := HW.out _ HX3.out; clear hb3))
  exact ret_val2g Tryz.results16 rfl rfl HK3.out ⟨rfl, below_set3g HB3.out (Nat.le_succ _) _ _ _⟩

set_option maxHeartbeats 1000000 in
set_option maxRecDepth 10000 in
theorem unary_plus (k n : Int) (t : ByteArray) (h0 : -9223372036854775808 ≤ n) (h1 : n ≤ 9223372036854775807) (hm : mayB k n t = true) (w : World) (hE : Env w) : Calls Tryz.prog 16 #[.int .i64 5, val k n t] w fun e w' => e = .returned (.tuple #[unV 5 k n t, .int .i64 0]) ∧ Below w.heap.size w w' := by
  have HM : Hid (∀ V, Calls Tryz.prog 32 #[.agg #[.int .i64 k, .int .i64 n, .string t]] V fun e w' => e = .returned (.bool true) ∧ Below V.heap.size V w') := fun V => by have := may_walk k n t V; rw [hm] at this; exact this
  have hnf := fn1_nil
  have HW : Hid (∀ V, _ → _) := pr_later w k n t
  have HE : Hid (∀ V, Below w.heap.size w V → Env V) := fun V h => hE.below h
  have hR : ∀ x, numO k n t.data.toList = some x → inR x := fun x h => numO_range h0 h1 h
  have e1 : unV 5 k n t = val k n t := by unfold unV; rw [if_pos ⟨.inr (.inl rfl), hm⟩, if_neg (by decide), if_pos rfl]
  rw [e1]
  have HX0 : Hid (Below ((w.alloc (vcells k n t)).alloc nilcells).heap.size ((w.alloc (vcells k n t)).alloc nilcells) ((w.alloc (vcells k n t)).alloc nilcells)) := Below.refl _ _
  clear e1
  clear hm hE hR
  go_enter Tryz.func16, Tryz.ntmps16
  go_wp2_with (first
    | (go_at_call 44; with_reducible refine Calls.mono (ofOne_plus _) ?_; rintro e w1 ⟨rfl, rfl⟩; have HX1 := HX0)
    | (go_at_call 32; with_reducible refine Calls.mono (HM.out _) ?_; rintro e w2 ⟨rfl, hb2⟩; have HX2 := hide (below_trans HX1.out hb2); obtain ⟨⟨p0, p1, p2⟩, q0, q1, q2, ⟨d0, d1, d2, f0, f1, f2⟩, HK2, HB2⟩ := HW.out _ HX2.out; clear hb2)
    | (go_at_call 75; with_reducible refine Calls.mono (plus_walk _ _ _ _) ?_; rintro e w3 ⟨rfl, hb3⟩; have HX3 := hide (below_trans HX2.out hb3); obtain ⟨⟨p0, p1, p2⟩, q0, q1, q2, ⟨d0, d1, d2, f0, f1, f2⟩, HK3, HB3⟩ := HW.out _ HX3.out; clear hb3))
  exact ret_val2g Tryz.results16 rfl rfl HK3.out ⟨rfl, below_set3g HB3.out (Nat.le_succ _) _ _ _⟩

set_option maxHeartbeats 1000000 in
set_option maxRecDepth 10000 in
theorem unary_not (k n : Int) (t : ByteArray) (h0 : -9223372036854775808 ≤ n) (h1 : n ≤ 9223372036854775807) (hm : mayB k n t = true) (w : World) (hE : Env w) : Calls Tryz.prog 16 #[.int .i64 6, val k n t] w fun e w' => e = .returned (.tuple #[unV 6 k n t, .int .i64 0]) ∧ Below w.heap.size w w' := by
  have HM : Hid (∀ V, Calls Tryz.prog 32 #[.agg #[.int .i64 k, .int .i64 n, .string t]] V fun e w' => e = .returned (.bool true) ∧ Below V.heap.size V w') := fun V => by have := may_walk k n t V; rw [hm] at this; exact this
  have hnf := fn1_nil
  have HW : Hid (∀ V, _ → _) := pr_later w k n t
  have HE : Hid (∀ V, Below w.heap.size w V → Env V) := fun V h => hE.below h
  have hR : ∀ x, numO k n t.data.toList = some x → inR x := fun x h => numO_range h0 h1 h
  have e1 : unV 6 k n t = optV (notO (numO k n t.data.toList)) := by unfold unV; rw [if_pos ⟨.inr (.inr rfl), hm⟩, if_neg (by decide), if_neg (by decide)]
  obtain ⟨c1, c2, c3, hc⟩ := optV_val (notO (numO k n t.data.toList))
  rw [e1, hc]
  have HX0 : Hid (Below ((w.alloc (vcells k n t)).alloc nilcells).heap.size ((w.alloc (vcells k n t)).alloc nilcells) ((w.alloc (vcells k n t)).alloc nilcells)) := Below.refl _ _
  have HC : Hid (∀ V, Env V → Calls Tryz.prog 76 #[.agg #[.int .i64 k, .int .i64 n, .string t]] V fun e w' => e = .returned (val c1 c2 c3) ∧ Below V.heap.size V w') := fun V hV => by rw [← hc]; exact not_walk k n t V hV
  clear e1 hc
  clear hm hE hR
  go_enter Tryz.func16, Tryz.ntmps16
  go_wp2_with (first
    | (go_at_call 44; with_reducible refine Calls.mono (ofOne_not _) ?_; rintro e w1 ⟨rfl, rfl⟩; have HX1 := HX0)
    | (go_at_call 32; with_reducible refine Calls.mono (HM.out _) ?_; rintro e w2 ⟨rfl, hb2⟩; have HX2 := hide (below_trans HX1.out hb2); obtain ⟨⟨p0, p1, p2⟩, q0, q1, q2, ⟨d0, d1, d2, f0, f1, f2⟩, HK2, HB2⟩ := HW.out _ HX2.out; clear hb2)
    | (go_at_call 76; with_reducible refine Calls.mono (HC.out _ (HE.out _ HB2.out)) ?_; rintro e w3 ⟨rfl, hb3⟩; have HX3 := hide (below_trans HX2.out hb3); obtain ⟨⟨p0, p1, p2⟩, q0, q1, q2, ⟨d0, d1, d2, f0, f1, f2⟩, HK3, HB3⟩ := HW.out _ HX3.out; clear hb3))
  exact ret_val2g Tryz.results16 rfl rfl HK3.out ⟨rfl, below_set3g HB3.out (Nat.le_succ _) _ _ _⟩

set_option maxHeartbeats 1000000 in
set_option maxRecDepth 10000 in
theorem unaryBad_neg (k n : Int) (t : ByteArray) (hm : mayB k n t = false) (w : World) : Calls Tryz.prog 16 #[.int .i64 4, val k n t] w fun e w' => e = .returned (.tuple #[val 0 0 ⟨#[]⟩, .int .i64 2]) ∧ Below w.heap.size w w' := by
  have HM : Hid (∀ V, Calls Tryz.prog 32 #[.agg #[.int .i64 k, .int .i64 n, .string t]] V fun e w' => e = .returned (.bool false) ∧ Below V.heap.size V w') := fun V => by have := may_walk k n t V; rw [hm] at this; exact this
  have hnf := fn1_nil
  have HW : Hid (∀ V, _ → _) := pr_later w k n t
  have HX0 : Hid (Below ((w.alloc (vcells k n t)).alloc nilcells).heap.size ((w.alloc (vcells k n t)).alloc nilcells) ((w.alloc (vcells k n t)).alloc nilcells)) := Below.refl _ _
  clear hm
  go_enter Tryz.func16, Tryz.ntmps16
  go_wp2_with (first
    | (go_at_call 44; with_reducible refine Calls.mono (ofOne_neg _) ?_; rintro e w1 ⟨pf, rfl, hN, hb1⟩; have HX1 := hide hb1; obtain ⟨⟨p0, p1, p2⟩, q0, q1, q2, ⟨d0, d1, d2, f0, f1, f2⟩, HK1, HB1⟩ := HW.out _ HX1.out; clear hb1 hN)
    | (go_at_call 32; with_reducible refine Calls.mono (HM.out _) ?_; rintro e w2 ⟨rfl, hb2⟩; have HX2 := hide (below_trans HX1.out hb2); obtain ⟨⟨p0, p1, p2⟩, q0, q1, q2, ⟨d0, d1, d2, f0, f1, f2⟩, HK2, HB2⟩ := HW.out _ HX2.out; clear hb2))
  exact ret_val2g Tryz.results16 rfl rfl HK2.out ⟨rfl, below_set3g HB2.out (Nat.le_succ _) _ _ _⟩

set_option maxHeartbeats 1000000 in
set_option maxRecDepth 10000 in
theorem unaryBad_plus (k n : Int) (t : ByteArray) (hm : mayB k n t = false) (w : World) : Calls Tryz.prog 16 #[.int .i64 5, val k n t] w fun e w' => e = .returned (.tuple #[val 0 0 ⟨#[]⟩, .int .i64 2]) ∧ Below w.heap.size w w' := by
  have HM : Hid (∀ V, Calls Tryz.prog 32 #[.agg #[.int .i64 k, .int .i64 n, .string t]] V fun e w' => e = .returned (.bool false) ∧ Below V.heap.size V w') := fun V => by have := may_walk k n t V; rw [hm] at this; exact this
  have hnf := fn1_nil
  have HW : Hid (∀ V, _ → _) := pr_later w k n t
  have HX0 : Hid (Below ((w.alloc (vcells k n t)).alloc nilcells).heap.size ((w.alloc (vcells k n t)).alloc nilcells) ((w.alloc (vcells k n t)).alloc nilcells)) := Below.refl _ _
  clear hm
  go_enter Tryz.func16, Tryz.ntmps16
  go_wp2_with (first
    | (go_at_call 44; with_reducible refine Calls.mono (ofOne_plus _) ?_; rintro e w1 ⟨rfl, rfl⟩; have HX1 := HX0)
    | (go_at_call 32; with_reducible refine Calls.mono (HM.out _) ?_; rintro e w2 ⟨rfl, hb2⟩; have HX2 := hide (below_trans HX1.out hb2); obtain ⟨⟨p0, p1, p2⟩, q0, q1, q2, ⟨d0, d1, d2, f0, f1, f2⟩, HK2, HB2⟩ := HW.out _ HX2.out; clear hb2))
  exact ret_val2g Tryz.results16 rfl rfl HK2.out ⟨rfl, below_set3g HB2.out (Nat.le_succ _) _ _ _⟩

set_option maxHeartbeats 1000000 in
set_option maxRecDepth 10000 in
theorem unaryBad_not (k n : Int) (t : ByteArray) (hm : mayB k n t = false) (w : World) : Calls Tryz.prog 16 #[.int .i64 6, val k n t] w fun e w' => e = .returned (.tuple #[val 0 0 ⟨#[]⟩, .int .i64 2]) ∧ Below w.heap.size w w' := by
  have HM : Hid (∀ V, Calls Tryz.prog 32 #[.agg #[.int .i64 k, .int .i64 n, .string t]] V fun e w' => e = .returned (.bool false) ∧ Below V.heap.size V w') := fun V => by have := may_walk k n t V; rw [hm] at this; exact this
  have hnf := fn1_nil
  have HW : Hid (∀ V, _ → _) := pr_later w k n t
  have HX0 : Hid (Below ((w.alloc (vcells k n t)).alloc nilcells).heap.size ((w.alloc (vcells k n t)).alloc nilcells) ((w.alloc (vcells k n t)).alloc nilcells)) := Below.refl _ _
  clear hm
  go_enter Tryz.func16, Tryz.ntmps16
  go_wp2_with (first
    | (go_at_call 44; with_reducible refine Calls.mono (ofOne_not _) ?_; rintro e w1 ⟨rfl, rfl⟩; have HX1 := HX0)
    | (go_at_call 32; with_reducible refine Calls.mono (HM.out _) ?_; rintro e w2 ⟨rfl, hb2⟩; have HX2 := hide (below_trans HX1.out hb2); obtain ⟨⟨p0, p1, p2⟩, q0, q1, q2, ⟨d0, d1, d2, f0, f1, f2⟩, HK2, HB2⟩ := HW.out _ HX2.out; clear hb2))
  exact ret_val2g Tryz.results16 rfl rfl HK2.out ⟨rfl, below_set3g HB2.out (Nat.le_succ _) _ _ _⟩

set_option maxHeartbeats 1000000 in
theorem unary_none (op k n : Int) (t : ByteArray) (h4 : op ≠ 4) (h5 : op ≠ 5) (h6 : op ≠ 6) (w : World) : Calls Tryz.prog 16 #[.int .i64 op, val k n t] w fun e w' => e = .returned (.tuple #[val 0 0 ⟨#[]⟩, .int .i64 130]) ∧ Below w.heap.size w w' := by
  have hnf := nil1_nil
  have HO : Hid (∀ V, Calls Tryz.prog 44 #[.int .i64 op] V fun e w' => e = .returned .nilFunc ∧ V = w') := fun V => ofOne_none op h4 h5 h6 V
  clear h4 h5 h6
  obtain ⟨⟨p0, p1, p2⟩, q0, q1, q2, ⟨d0, d1, d2, f0, f1, f2⟩, HK1, HB1⟩ := pr_later w k n t _ (Below.refl _ _)
  go_enter Tryz.func16, Tryz.ntmps16
  go_wp2_with (first
    | (go_at_call 44; with_reducible refine Calls.mono (HO.out _) ?_; rintro e w1 ⟨rfl, rfl⟩))
  exact ret_same2g Tryz.results16 rfl rfl HK1.out ⟨rfl, HB1.out⟩

theorem unary_walk (op k n : Int) (t : ByteArray) (h0 : -9223372036854775808 ≤ n) (h1 : n ≤ 9223372036854775807) (w : World) (hE : Env w) : Calls Tryz.prog 16 #[.int .i64 op, val k n t] w fun e w' => e = .returned (.tuple #[unV op k n t, .int .i64 (unE op k n t)]) ∧ Below w.heap.size w w' := by
  by_cases ho : op = 4 ∨ op = 5 ∨ op = 6
  · by_cases hm : mayB k n t = true
    · have e1 : unE op k n t = 0 := by unfold unE; rw [if_pos ho, if_pos hm]
      rw [e1]
      rcases ho with rfl | rfl | rfl
      · exact unary_neg k n t h0 h1 hm w hE
      · exact unary_plus k n t h0 h1 hm w hE
      · exact unary_not k n t h0 h1 hm w hE
    · have e1 : unE op k n t = 2 := by unfold unE; rw [if_pos ho, if_neg hm]
      have e2 : unV op k n t = val 0 0 ⟨#[]⟩ := by unfold unV; rw [if_neg (fun h => hm h.2)]
      have hm' : mayB k n t = false := by simpa using hm
      rw [e1, e2]
      rcases ho with rfl | rfl | rfl
      · exact unaryBad_neg k n t hm' w
      · exact unaryBad_plus k n t hm' w
      · exact unaryBad_not k n t hm' w
  · have e1 : unE op k n t = 130 := by unfold unE; rw [if_neg ho]
    have e2 : unV op k n t = val 0 0 ⟨#[]⟩ := by unfold unV; rw [if_neg (fun h => ho h.1)]
    rw [e1, e2]
    exact unary_none op k n t (fun h => ho (.inl h)) (fun h => ho (.inr (.inl h))) (fun h => ho (.inr (.inr h))) w
end Go.Proofs.YtoekdeoekcmpgaaGreatDoor

namespace Go.Proofs.YtoekdeoekcmpgaaGreatDoor
open Go.ChangeShapes Go.WideShapes Go.ChangeAt Go.RowKit
set_option linter.unusedVariables false

set_option maxHeartbeats 1000000 in
theorem three_no (m : Int) (h : m < 0) (w : World) : Calls Tryz.prog 45 #[.int .i64 m] w fun e w' => e = .returned (val 0 0 ⟨#[]⟩) ∧ Below w.heap.size w w' := by
  have HW : Hid (∀ V, _ → _) := res_later w
  go_enter Tryz.func45, Tryz.ntmps45
  go_wp2_with (first
    | (go_at_call 37; with_reducible refine Calls.mono (rnull_walk _) ?_; rintro e w1 ⟨rfl, hb1⟩; obtain ⟨d0, d1, d2, f0, f1, f2, a0, a1, a2, b0, b1, b2, HK1, HB1, HL1⟩ := HW.out _ hb1; clear hb1))
  exact ret_val Tryz.results45 rfl HK1.out ⟨rfl, below_set3 HB1.out _ _ _⟩
set_option maxHeartbeats 1000000 in
theorem three_yes (m : Int) (h : 0 ≤ m) (w : World) : Calls Tryz.prog 45 #[.int .i64 m] w fun e w' => e = .returned (val 1 m ⟨#[]⟩) ∧ Below w.heap.size w w' := by
  have HW : Hid (∀ V, _ → _) := res_later w
  have h' : ¬ m < 0 := by omega
  go_enter Tryz.func45, Tryz.ntmps45
  go_wp2_with (first
    | (go_at_call 31; with_reducible refine Calls.mono (rint_walk _ _) ?_; rintro e w1 ⟨rfl, hb1⟩; obtain ⟨d0, d1, d2, f0, f1, f2, a0, a1, a2, b0, b1, b2, HK1, HB1, HL1⟩ := HW.out _ hb1; clear hb1))
  exact ret_val Tryz.results45 rfl HK1.out ⟨rfl, below_set3 HB1.out _ _ _⟩

set_option maxHeartbeats 1000000 in
set_option maxRecDepth 10000 in
theorem runary_none (op k n : Int) (t : ByteArray) (h4 : op ≠ 4) (h5 : op ≠ 5) (h6 : op ≠ 6) (w : World) : Calls Tryz.prog 17 #[.int .i64 op, val k n t] w fun e w' => e = .returned (.tuple #[val 0 0 ⟨#[]⟩, .int .i64 130]) ∧ Below w.heap.size w w' := by
  have HW : Hid (∀ V, _ → _) := pr_later w k n t
  have e4 : (op != 4) = true := by simp [bne, h4]
  have e5 : (op != 5) = true := by simp [bne, h5]
  have e6 : (op != 6) = true := by simp [bne, h6]
  clear h4 h5 h6
  go_enter Tryz.func17, Tryz.ntmps17
  go_wp2_with (first
    | (go_at_call 37; with_reducible refine Calls.mono (rnull_walk _) ?_; rintro e w9 ⟨rfl, hb9⟩; have HX9 := hide (hb9); obtain ⟨⟨p0, p1, p2⟩, q0, q1, q2, ⟨d0, d1, d2, f0, f1, f2⟩, HK9, HB9⟩ := HW.out _ HX9.out; clear hb9))
  exact ret_val2g Tryz.results17 rfl rfl HK9.out ⟨rfl, below_set3g HB9.out (Nat.le_succ _) _ _ _⟩

set_option maxHeartbeats 1000000 in
set_option maxRecDepth 10000 in
theorem runary_bad_neg (k n : Int) (t : ByteArray) (hm : mayB k n t = false) (w : World) : Calls Tryz.prog 17 #[.int .i64 4, val k n t] w fun e w' => e = .returned (.tuple #[val 0 0 ⟨#[]⟩, .int .i64 2]) ∧ Below w.heap.size w w' := by
  have HW : Hid (∀ V, _ → _) := pr_later w k n t
  have HM : Hid (∀ V, Calls Tryz.prog 36 #[.agg #[.int .i64 k, .int .i64 n, .string t]] V fun e w' => e = .returned (.bool false) ∧ Below V.heap.size V w') := fun V => by have := rmay_walk k n t V; rw [hm] at this; exact this
  clear hm
  go_enter Tryz.func17, Tryz.ntmps17
  go_wp2_with (first
    | (go_at_call 36; with_reducible refine Calls.mono (HM.out _) ?_; rintro e w1 ⟨rfl, hb1⟩; have HX1 := hide hb1; obtain ⟨⟨p0, p1, p2⟩, q0, q1, q2, ⟨d0, d1, d2, f0, f1, f2⟩, HK1, HB1⟩ := HW.out _ HX1.out; clear hb1)
    | (go_at_call 37; with_reducible refine Calls.mono (rnull_walk _) ?_; rintro e w9 ⟨rfl, hb9⟩; have HX9 := hide (below_trans HX1.out hb9); obtain ⟨⟨p0, p1, p2⟩, q0, q1, q2, ⟨d0, d1, d2, f0, f1, f2⟩, HK9, HB9⟩ := HW.out _ HX9.out; clear hb9))
  exact ret_val2g Tryz.results17 rfl rfl HK9.out ⟨rfl, below_set3g HB9.out (Nat.le_succ _) _ _ _⟩

set_option maxHeartbeats 1000000 in
set_option maxRecDepth 10000 in
theorem runary_bad_plus (k n : Int) (t : ByteArray) (hm : mayB k n t = false) (w : World) : Calls Tryz.prog 17 #[.int .i64 5, val k n t] w fun e w' => e = .returned (.tuple #[val 0 0 ⟨#[]⟩, .int .i64 2]) ∧ Below w.heap.size w w' := by
  have HW : Hid (∀ V, _ → _) := pr_later w k n t
  have HM : Hid (∀ V, Calls Tryz.prog 36 #[.agg #[.int .i64 k, .int .i64 n, .string t]] V fun e w' => e = .returned (.bool false) ∧ Below V.heap.size V w') := fun V => by have := rmay_walk k n t V; rw [hm] at this; exact this
  clear hm
  go_enter Tryz.func17, Tryz.ntmps17
  go_wp2_with (first
    | (go_at_call 36; with_reducible refine Calls.mono (HM.out _) ?_; rintro e w1 ⟨rfl, hb1⟩; have HX1 := hide hb1; obtain ⟨⟨p0, p1, p2⟩, q0, q1, q2, ⟨d0, d1, d2, f0, f1, f2⟩, HK1, HB1⟩ := HW.out _ HX1.out; clear hb1)
    | (go_at_call 37; with_reducible refine Calls.mono (rnull_walk _) ?_; rintro e w9 ⟨rfl, hb9⟩; have HX9 := hide (below_trans HX1.out hb9); obtain ⟨⟨p0, p1, p2⟩, q0, q1, q2, ⟨d0, d1, d2, f0, f1, f2⟩, HK9, HB9⟩ := HW.out _ HX9.out; clear hb9))
  exact ret_val2g Tryz.results17 rfl rfl HK9.out ⟨rfl, below_set3g HB9.out (Nat.le_succ _) _ _ _⟩

set_option maxHeartbeats 1000000 in
set_option maxRecDepth 10000 in
theorem runary_bad_not (k n : Int) (t : ByteArray) (hm : mayB k n t = false) (w : World) : Calls Tryz.prog 17 #[.int .i64 6, val k n t] w fun e w' => e = .returned (.tuple #[val 0 0 ⟨#[]⟩, .int .i64 2]) ∧ Below w.heap.size w w' := by
  have HW : Hid (∀ V, _ → _) := pr_later w k n t
  have HM : Hid (∀ V, Calls Tryz.prog 36 #[.agg #[.int .i64 k, .int .i64 n, .string t]] V fun e w' => e = .returned (.bool false) ∧ Below V.heap.size V w') := fun V => by have := rmay_walk k n t V; rw [hm] at this; exact this
  clear hm
  go_enter Tryz.func17, Tryz.ntmps17
  go_wp2_with (first
    | (go_at_call 36; with_reducible refine Calls.mono (HM.out _) ?_; rintro e w1 ⟨rfl, hb1⟩; have HX1 := hide hb1; obtain ⟨⟨p0, p1, p2⟩, q0, q1, q2, ⟨d0, d1, d2, f0, f1, f2⟩, HK1, HB1⟩ := HW.out _ HX1.out; clear hb1)
    | (go_at_call 37; with_reducible refine Calls.mono (rnull_walk _) ?_; rintro e w9 ⟨rfl, hb9⟩; have HX9 := hide (below_trans HX1.out hb9); obtain ⟨⟨p0, p1, p2⟩, q0, q1, q2, ⟨d0, d1, d2, f0, f1, f2⟩, HK9, HB9⟩ := HW.out _ HX9.out; clear hb9))
  exact ret_val2g Tryz.results17 rfl rfl HK9.out ⟨rfl, below_set3g HB9.out (Nat.le_succ _) _ _ _⟩

set_option maxHeartbeats 1000000 in
set_option maxRecDepth 10000 in
theorem runary_plus (k n : Int) (t : ByteArray) (hm : mayB k n t = true) (w : World) : Calls Tryz.prog 17 #[.int .i64 5, val k n t] w fun e w' => e = .returned (.tuple #[val k n t, .int .i64 0]) ∧ Below w.heap.size w w' := by
  have HW : Hid (∀ V, _ → _) := pr_later w k n t
  have HM : Hid (∀ V, Calls Tryz.prog 36 #[.agg #[.int .i64 k, .int .i64 n, .string t]] V fun e w' => e = .returned (.bool true) ∧ Below V.heap.size V w') := fun V => by have := rmay_walk k n t V; rw [hm] at this; exact this
  clear hm
  go_enter Tryz.func17, Tryz.ntmps17
  go_wp2_with (first
    | (go_at_call 36; with_reducible refine Calls.mono (HM.out _) ?_; rintro e w1 ⟨rfl, hb1⟩; have HX1 := hide hb1; obtain ⟨⟨p0, p1, p2⟩, q0, q1, q2, ⟨d0, d1, d2, f0, f1, f2⟩, HK1, HB1⟩ := HW.out _ HX1.out; clear hb1))
  exact ret_val2g Tryz.results17 rfl rfl HK1.out ⟨rfl, below_set3g HB1.out (Nat.le_succ _) _ _ _⟩

set_option maxHeartbeats 1000000 in
set_option maxRecDepth 10000 in
theorem runary_not_none (k n : Int) (t : ByteArray) (hm : mayB k n t = true) (hT : truthI (numO k n t.data.toList) = -1) (w : World) : Calls Tryz.prog 17 #[.int .i64 6, val k n t] w fun e w' => e = .returned (.tuple #[val 0 0 ⟨#[]⟩, .int .i64 0]) ∧ Below w.heap.size w w' := by
  have HW : Hid (∀ V, _ → _) := pr_later w k n t
  have HM : Hid (∀ V, Calls Tryz.prog 36 #[.agg #[.int .i64 k, .int .i64 n, .string t]] V fun e w' => e = .returned (.bool true) ∧ Below V.heap.size V w') := fun V => by have := rmay_walk k n t V; rw [hm] at this; exact this
  have HT : Hid (∀ V, Calls Tryz.prog 10 #[.agg #[.int .i64 k, .int .i64 n, .string t]] V fun e w' => e = .returned (.int .i64 (-1)) ∧ Below V.heap.size V w') := fun V => by have := rtruth_walk k n t V; rw [hT] at this; exact this
  clear hm hT
  go_enter Tryz.func17, Tryz.ntmps17
  go_wp2_with (first
    | (go_at_call 36; with_reducible refine Calls.mono (HM.out _) ?_; rintro e w1 ⟨rfl, hb1⟩; have HX1 := hide hb1; obtain ⟨⟨p0, p1, p2⟩, q0, q1, q2, ⟨d0, d1, d2, f0, f1, f2⟩, HK1, HB1⟩ := HW.out _ HX1.out; clear hb1)
    | (go_at_call 10; with_reducible refine Calls.mono (HT.out _) ?_; rintro e w2 ⟨rfl, hb2⟩; have HX2 := hide (below_trans HX1.out hb2); obtain ⟨⟨p0, p1, p2⟩, q0, q1, q2, ⟨d0, d1, d2, f0, f1, f2⟩, HK2, HB2⟩ := HW.out _ HX2.out; clear hb2)
    | (go_at_call 45; with_reducible refine Calls.mono (three_no (-1) (by omega) _) ?_; rintro e w9 ⟨rfl, hb9⟩; have HX9 := hide (below_trans HX2.out hb9); obtain ⟨⟨p0, p1, p2⟩, q0, q1, q2, ⟨d0, d1, d2, f0, f1, f2⟩, HK9, HB9⟩ := HW.out _ HX9.out; clear hb9))
  exact ret_val2g Tryz.results17 rfl rfl HK9.out ⟨rfl, below_set3g HB9.out (Nat.le_succ _) _ _ _⟩

set_option maxHeartbeats 1000000 in
set_option maxRecDepth 10000 in
theorem runary_not_zero (k n : Int) (t : ByteArray) (hm : mayB k n t = true) (hT : truthI (numO k n t.data.toList) = 0) (w : World) : Calls Tryz.prog 17 #[.int .i64 6, val k n t] w fun e w' => e = .returned (.tuple #[val 1 1 ⟨#[]⟩, .int .i64 0]) ∧ Below w.heap.size w w' := by
  have HW : Hid (∀ V, _ → _) := pr_later w k n t
  have HM : Hid (∀ V, Calls Tryz.prog 36 #[.agg #[.int .i64 k, .int .i64 n, .string t]] V fun e w' => e = .returned (.bool true) ∧ Below V.heap.size V w') := fun V => by have := rmay_walk k n t V; rw [hm] at this; exact this
  have HT : Hid (∀ V, Calls Tryz.prog 10 #[.agg #[.int .i64 k, .int .i64 n, .string t]] V fun e w' => e = .returned (.int .i64 (0)) ∧ Below V.heap.size V w') := fun V => by have := rtruth_walk k n t V; rw [hT] at this; exact this
  clear hm hT
  go_enter Tryz.func17, Tryz.ntmps17
  go_wp2_with (first
    | (go_at_call 36; with_reducible refine Calls.mono (HM.out _) ?_; rintro e w1 ⟨rfl, hb1⟩; have HX1 := hide hb1; obtain ⟨⟨p0, p1, p2⟩, q0, q1, q2, ⟨d0, d1, d2, f0, f1, f2⟩, HK1, HB1⟩ := HW.out _ HX1.out; clear hb1)
    | (go_at_call 10; with_reducible refine Calls.mono (HT.out _) ?_; rintro e w2 ⟨rfl, hb2⟩; have HX2 := hide (below_trans HX1.out hb2); obtain ⟨⟨p0, p1, p2⟩, q0, q1, q2, ⟨d0, d1, d2, f0, f1, f2⟩, HK2, HB2⟩ := HW.out _ HX2.out; clear hb2)
    | (go_at_call 45; with_reducible refine Calls.mono (three_yes 1 (by omega) _) ?_; rintro e w9 ⟨rfl, hb9⟩; have HX9 := hide (below_trans HX2.out hb9); obtain ⟨⟨p0, p1, p2⟩, q0, q1, q2, ⟨d0, d1, d2, f0, f1, f2⟩, HK9, HB9⟩ := HW.out _ HX9.out; clear hb9))
  exact ret_val2g Tryz.results17 rfl rfl HK9.out ⟨rfl, below_set3g HB9.out (Nat.le_succ _) _ _ _⟩

set_option maxHeartbeats 1000000 in
set_option maxRecDepth 10000 in
theorem runary_not_one (k n : Int) (t : ByteArray) (hm : mayB k n t = true) (hT : truthI (numO k n t.data.toList) = 1) (w : World) : Calls Tryz.prog 17 #[.int .i64 6, val k n t] w fun e w' => e = .returned (.tuple #[val 1 0 ⟨#[]⟩, .int .i64 0]) ∧ Below w.heap.size w w' := by
  have HW : Hid (∀ V, _ → _) := pr_later w k n t
  have HM : Hid (∀ V, Calls Tryz.prog 36 #[.agg #[.int .i64 k, .int .i64 n, .string t]] V fun e w' => e = .returned (.bool true) ∧ Below V.heap.size V w') := fun V => by have := rmay_walk k n t V; rw [hm] at this; exact this
  have HT : Hid (∀ V, Calls Tryz.prog 10 #[.agg #[.int .i64 k, .int .i64 n, .string t]] V fun e w' => e = .returned (.int .i64 (1)) ∧ Below V.heap.size V w') := fun V => by have := rtruth_walk k n t V; rw [hT] at this; exact this
  clear hm hT
  go_enter Tryz.func17, Tryz.ntmps17
  go_wp2_with (first
    | (go_at_call 36; with_reducible refine Calls.mono (HM.out _) ?_; rintro e w1 ⟨rfl, hb1⟩; have HX1 := hide hb1; obtain ⟨⟨p0, p1, p2⟩, q0, q1, q2, ⟨d0, d1, d2, f0, f1, f2⟩, HK1, HB1⟩ := HW.out _ HX1.out; clear hb1)
    | (go_at_call 10; with_reducible refine Calls.mono (HT.out _) ?_; rintro e w2 ⟨rfl, hb2⟩; have HX2 := hide (below_trans HX1.out hb2); obtain ⟨⟨p0, p1, p2⟩, q0, q1, q2, ⟨d0, d1, d2, f0, f1, f2⟩, HK2, HB2⟩ := HW.out _ HX2.out; clear hb2)
    | (go_at_call 45; with_reducible refine Calls.mono (three_yes 0 (by omega) _) ?_; rintro e w9 ⟨rfl, hb9⟩; have HX9 := hide (below_trans HX2.out hb9); obtain ⟨⟨p0, p1, p2⟩, q0, q1, q2, ⟨d0, d1, d2, f0, f1, f2⟩, HK9, HB9⟩ := HW.out _ HX9.out; clear hb9))
  exact ret_val2g Tryz.results17 rfl rfl HK9.out ⟨rfl, below_set3g HB9.out (Nat.le_succ _) _ _ _⟩

set_option maxHeartbeats 1000000 in
set_option maxRecDepth 10000 in
theorem runary_neg_null (k n : Int) (t : ByteArray) (hm : mayB k n t = true) (hO : numO k n t.data.toList = none) (w : World) : Calls Tryz.prog 17 #[.int .i64 4, val k n t] w fun e w' => e = .returned (.tuple #[val 0 0 ⟨#[]⟩, .int .i64 0]) ∧ Below w.heap.size w w' := by
  have HW : Hid (∀ V, _ → _) := pr_later w k n t
  have HM : Hid (∀ V, Calls Tryz.prog 36 #[.agg #[.int .i64 k, .int .i64 n, .string t]] V fun e w' => e = .returned (.bool true) ∧ Below V.heap.size V w') := fun V => by have := rmay_walk k n t V; rw [hm] at this; exact this
  have HN : Hid (∀ V, Calls Tryz.prog 13 #[.agg #[.int .i64 k, .int .i64 n, .string t]] V fun e w' => e = .returned (.agg #[.int .i64 0, .int .i64 0, .string ⟨#[]⟩]) ∧ Below V.heap.size V w') := fun V => by have := rnum_walk k n t V; rw [hO] at this; exact this
  clear hm hO
  go_enter Tryz.func17, Tryz.ntmps17
  go_wp2_with (first
    | (go_at_call 36; with_reducible refine Calls.mono (HM.out _) ?_; rintro e w1 ⟨rfl, hb1⟩; have HX1 := hide hb1; obtain ⟨⟨p0, p1, p2⟩, q0, q1, q2, ⟨d0, d1, d2, f0, f1, f2⟩, HK1, HB1⟩ := HW.out _ HX1.out; clear hb1)
    | (go_at_call 13; with_reducible refine Calls.mono (HN.out _) ?_; rintro e w2 ⟨rfl, hb2⟩; have HX2 := hide (below_trans HX1.out hb2); obtain ⟨⟨p0, p1, p2⟩, q0, q1, q2, ⟨d0, d1, d2, f0, f1, f2⟩, HK2, HB2⟩ := HW.out _ HX2.out; clear hb2)
    | (go_at_call 37; with_reducible refine Calls.mono (rnull_walk _) ?_; rintro e w9 ⟨rfl, hb9⟩; have HX9 := hide (below_trans HX2.out (below_trans (new_below w2 _ rfl) hb9)); obtain ⟨⟨p0, p1, p2⟩, q0, q1, q2, ⟨d0, d1, d2, f0, f1, f2⟩, HK9, HB9⟩ := HW.out _ HX9.out; clear hb9))
  exact ret_val2g Tryz.results17 rfl rfl HK9.out ⟨rfl, below_set3g HB9.out (Nat.le_succ _) _ _ _⟩

set_option maxHeartbeats 1000000 in
set_option maxRecDepth 10000 in
theorem runary_neg_least (k n : Int) (t : ByteArray) (hm : mayB k n t = true) (hO : numO k n t.data.toList = some (-9223372036854775808)) (w : World) : Calls Tryz.prog 17 #[.int .i64 4, val k n t] w fun e w' => e = .returned (.tuple #[val 0 0 ⟨#[]⟩, .int .i64 0]) ∧ Below w.heap.size w w' := by
  have HW : Hid (∀ V, _ → _) := pr_later w k n t
  have HM : Hid (∀ V, Calls Tryz.prog 36 #[.agg #[.int .i64 k, .int .i64 n, .string t]] V fun e w' => e = .returned (.bool true) ∧ Below V.heap.size V w') := fun V => by have := rmay_walk k n t V; rw [hm] at this; exact this
  have HN : Hid (∀ V, Calls Tryz.prog 13 #[.agg #[.int .i64 k, .int .i64 n, .string t]] V fun e w' => e = .returned (.agg #[.int .i64 1, .int .i64 (-9223372036854775808), .string ⟨#[]⟩]) ∧ Below V.heap.size V w') := fun V => by have := rnum_walk k n t V; rw [hO] at this; exact this
  clear hm hO
  go_enter Tryz.func17, Tryz.ntmps17
  go_wp2_with (first
    | (go_at_call 36; with_reducible refine Calls.mono (HM.out _) ?_; rintro e w1 ⟨rfl, hb1⟩; have HX1 := hide hb1; obtain ⟨⟨p0, p1, p2⟩, q0, q1, q2, ⟨d0, d1, d2, f0, f1, f2⟩, HK1, HB1⟩ := HW.out _ HX1.out; clear hb1)
    | (go_at_call 13; with_reducible refine Calls.mono (HN.out _) ?_; rintro e w2 ⟨rfl, hb2⟩; have HX2 := hide (below_trans HX1.out hb2); obtain ⟨⟨p0, p1, p2⟩, q0, q1, q2, ⟨d0, d1, d2, f0, f1, f2⟩, HK2, HB2⟩ := HW.out _ HX2.out; clear hb2)
    | (go_at_call 37; with_reducible refine Calls.mono (rnull_walk _) ?_; rintro e w9 ⟨rfl, hb9⟩; have HX9 := hide (below_trans HX2.out (below_trans (new_below w2 _ rfl) hb9)); obtain ⟨⟨p0, p1, p2⟩, q0, q1, q2, ⟨d0, d1, d2, f0, f1, f2⟩, HK9, HB9⟩ := HW.out _ HX9.out; clear hb9))
  exact ret_val2g Tryz.results17 rfl rfl HK9.out ⟨rfl, below_set3g HB9.out (Nat.le_succ _) _ _ _⟩

set_option maxHeartbeats 1000000 in
set_option maxRecDepth 10000 in
theorem runary_neg_int (k n : Int) (t : ByteArray) (hm : mayB k n t = true) (x : Int) (hO : numO k n t.data.toList = some x) (hx : x ≠ -9223372036854775808) (hr : inR x) (w : World) : Calls Tryz.prog 17 #[.int .i64 4, val k n t] w fun e w' => e = .returned (.tuple #[val 1 (-x) ⟨#[]⟩, .int .i64 0]) ∧ Below w.heap.size w w' := by
  have HW : Hid (∀ V, _ → _) := pr_later w k n t
  have HM : Hid (∀ V, Calls Tryz.prog 36 #[.agg #[.int .i64 k, .int .i64 n, .string t]] V fun e w' => e = .returned (.bool true) ∧ Below V.heap.size V w') := fun V => by have := rmay_walk k n t V; rw [hm] at this; exact this
  have HN : Hid (∀ V, Calls Tryz.prog 13 #[.agg #[.int .i64 k, .int .i64 n, .string t]] V fun e w' => e = .returned (.agg #[.int .i64 1, .int .i64 x, .string ⟨#[]⟩]) ∧ Below V.heap.size V w') := fun V => by have := rnum_walk k n t V; rw [hO] at this; exact this
  have hw : IntKind.i64.wrap (-x) = -x := by unfold inR at hr; rw [IntKind.wrap_i64]; omega
  have hx2 : (x == -9223372036854775808) = false := by simpa using hx
  clear hm hO hx hr
  go_enter Tryz.func17, Tryz.ntmps17
  go_wp2_with (first
    | (go_at_call 36; with_reducible refine Calls.mono (HM.out _) ?_; rintro e w1 ⟨rfl, hb1⟩; have HX1 := hide hb1; obtain ⟨⟨p0, p1, p2⟩, q0, q1, q2, ⟨d0, d1, d2, f0, f1, f2⟩, HK1, HB1⟩ := HW.out _ HX1.out; clear hb1)
    | (go_at_call 13; with_reducible refine Calls.mono (HN.out _) ?_; rintro e w2 ⟨rfl, hb2⟩; have HX2 := hide (below_trans HX1.out hb2); obtain ⟨⟨p0, p1, p2⟩, q0, q1, q2, ⟨d0, d1, d2, f0, f1, f2⟩, HK2, HB2⟩ := HW.out _ HX2.out; clear hb2)
    | (go_at_call 31; with_reducible refine Calls.mono (rint_walk _ _) ?_; rintro e w9 ⟨rfl, hb9⟩; have HX9 := hide (below_trans HX2.out (below_trans (new_below w2 _ rfl) hb9)); obtain ⟨⟨p0, p1, p2⟩, q0, q1, q2, ⟨d0, d1, d2, f0, f1, f2⟩, HK9, HB9⟩ := HW.out _ HX9.out; clear hb9))
  exact ret_val2g Tryz.results17 rfl rfl HK9.out ⟨rfl, below_set3g HB9.out (Nat.le_succ _) _ _ _⟩

theorem runary_walk (op k n : Int) (t : ByteArray) (h0 : -9223372036854775808 ≤ n) (h1 : n ≤ 9223372036854775807) (w : World) : Calls Tryz.prog 17 #[.int .i64 op, val k n t] w fun e w' => e = .returned (.tuple #[unV op k n t, .int .i64 (unE op k n t)]) ∧ Below w.heap.size w w' := by
  by_cases ho : op = 4 ∨ op = 5 ∨ op = 6
  · by_cases hm : mayB k n t = true
    · have e1 : unE op k n t = 0 := by unfold unE; rw [if_pos ho, if_pos hm]
      rw [e1]
      unfold unV
      rw [if_pos ⟨ho, hm⟩]
      rcases ho with rfl | rfl | rfl
      · rw [if_pos rfl]
        cases hO : numO k n t.data.toList with
        | none => exact runary_neg_null k n t hm hO w
        | some x =>
          have hr := numO_range h0 h1 hO
          dsimp only [negO]
          unfold difO
          by_cases hx : x = -9223372036854775808
          · subst hx
            rw [if_neg (by unfold inR; omega)]
            exact runary_neg_least k n t hm hO w
          · rw [if_pos (by unfold inR at hr ⊢; omega), Int.zero_sub]
            exact runary_neg_int k n t hm x hO hx hr w
      · rw [if_neg (by decide), if_pos rfl]
        exact runary_plus k n t hm w
      · rw [if_neg (by decide), if_neg (by decide)]
        cases hO : numO k n t.data.toList with
        | none => exact runary_not_none k n t hm (by rw [hO]; rfl) w
        | some x =>
          dsimp only [notO]
          by_cases hx : x = 0
          · subst hx; exact runary_not_zero k n t hm (by rw [hO]; rfl) w
          · rw [if_neg hx]
            exact runary_not_one k n t hm (by rw [hO]; exact if_neg hx) w
    · have e1 : unE op k n t = 2 := by unfold unE; rw [if_pos ho, if_neg hm]
      have e2 : unV op k n t = val 0 0 ⟨#[]⟩ := by unfold unV; rw [if_neg (fun h => hm h.2)]
      have hm' : mayB k n t = false := by simpa using hm
      rw [e1, e2]
      rcases ho with rfl | rfl | rfl
      · exact runary_bad_neg k n t hm' w
      · exact runary_bad_plus k n t hm' w
      · exact runary_bad_not k n t hm' w
  · have e1 : unE op k n t = 130 := by unfold unE; rw [if_neg ho]
    have e2 : unV op k n t = val 0 0 ⟨#[]⟩ := by unfold unV; rw [if_neg (fun h => ho h.1)]
    rw [e1, e2]
    exact runary_none op k n t (fun h => ho (.inl h)) (fun h => ho (.inr (.inl h))) (fun h => ho (.inr (.inr h))) w

set_option maxHeartbeats 1000000 in
set_option maxRecDepth 10000 in
theorem cunary_walk (op k n : Int) (t : ByteArray) (_ : -9223372036854775808 ≤ op) (_ : op ≤ 9223372036854775807) (h0 : -9223372036854775808 ≤ n) (h1 : n ≤ 9223372036854775807) (w : World) (hE : Env w) :
    Calls Tryz.prog 4 #[.int .i64 op, val k n t] w fun e w' => e = .returned (.bool true) ∧ Below w.heap.size w w' := by
  obtain ⟨a1, a2, a3, ha⟩ := unV_val op k n t
  obtain ⟨er, her⟩ : ∃ er, unE op k n t = er := ⟨_, rfl⟩
  have HU : Hid (∀ V, Env V → Calls Tryz.prog 16 #[.int .i64 op, .agg #[.int .i64 k, .int .i64 n, .string t]] V fun e w' => e = .returned (.tuple #[.agg #[.int .i64 a1, .int .i64 a2, .string a3], .int .i64 er]) ∧ Below V.heap.size V w') := fun V hV => by have := unary_walk op k n t h0 h1 V hV; rw [ha, her] at this; exact this
  have HR : Hid (∀ V, Calls Tryz.prog 17 #[.int .i64 op, .agg #[.int .i64 k, .int .i64 n, .string t]] V fun e w' => e = .returned (.tuple #[.agg #[.int .i64 a1, .int .i64 a2, .string a3], .int .i64 er]) ∧ Below V.heap.size V w') := fun V => by have := runary_walk op k n t h0 h1 V; rw [ha, her] at this; exact this
  have HW : Hid (∀ V, Below (w.alloc (.cells #[.int .i64 k, .int .i64 n, .string t] 24)).heap.size (w.alloc (.cells #[.int .i64 k, .int .i64 n, .string t] 24)) V → _) := three_cells w (.int .i64 k) (.int .i64 n) (.string t)
  have HE0 : Hid (Env (w.alloc (.cells #[.int .i64 k, .int .i64 n, .string t] 24))) := hE.below (new_below w _ rfl)
  have HE : Hid (∀ V, Below (w.alloc (.cells #[.int .i64 k, .int .i64 n, .string t] 24)).heap.size (w.alloc (.cells #[.int .i64 k, .int .i64 n, .string t] 24)) V → Env V) := fun V h => (hE.below (new_below w _ rfl)).below h
  have HB : Hid (∀ V, Below (w.alloc (.cells #[.int .i64 k, .int .i64 n, .string t] 24)).heap.size (w.alloc (.cells #[.int .i64 k, .int .i64 n, .string t] 24)) V → Below w.heap.size w V) := fun V h => below_trans (new_below w _ rfl) h
  clear ha her hE
  go_enter Tryz.func4, Tryz.ntmps4
  go_wp2_with (first
    | (go_at_call 16; with_reducible refine Calls.mono (HU.out _ HE0.out) ?_; rintro e w1 ⟨rfl, hb1⟩; have HX1 := hide hb1; obtain ⟨p0, p1, p2⟩ := three_cells w (.int .i64 k) (.int .i64 n) (.string t) _ (below_trans HX1.out (new_below w1 (.cells #[.int .i64 a1, .int .i64 a2, .string a3] 24) rfl)); clear hb1)
    | (go_at_call 17; with_reducible refine Calls.mono (HR.out _) ?_; rintro e w2 ⟨rfl, hb2⟩; have HY2 := hide hb2; have HX2 := hide (below_trans HX1.out (below_trans (new_below w1 _ rfl) hb2)); obtain ⟨a0, aa, ab, b0, b1, b2⟩ := later_block w1 (.int .i64 a1) (.int .i64 a2) (.string a3) 24 _ hb2; clear hb2)
    | (go_at_call 11; with_reducible refine Calls.mono (head3_walk _ ((HE.out _ HX2.out).below (new_below w2 _ rfl))) ?_; rintro e w3 ⟨rfl, hb3⟩; obtain ⟨g0, g1, g2, u0, u1, u2⟩ := later_block w2 (.int .i64 a1) (.int .i64 a2) (.string a3) 24 _ hb3; obtain ⟨a0, aa, ab, b0, b1, b2⟩ := later_block w1 (.int .i64 a1) (.int .i64 a2) (.string a3) 24 _ (below_trans HY2.out (below_trans (new_below w2 _ rfl) hb3)); have HX3 := hide (below_trans HX2.out (below_trans (new_below w2 _ rfl) hb3)); clear hb3))
  go_ret
  exact ⟨by simp, HB.out _ HX3.out⟩
end Go.Proofs.YtoekdeoekcmpgaaGreatDoor
