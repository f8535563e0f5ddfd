/- The walk of ValueMay. -/
import Derived.Test.YtghemaghbpekfaaDoorXD
namespace Go.Proofs.YtghemaghbpekfaaDoor
open Go.ChangeShapes Go.WideShapes Go.ChangeAt Go.RowKit
set_option linter.unusedVariables false

theorem two_res {w5 w6 w7 : World} {a b c x y z : Value} (h6 : Below (w5.alloc (.cells #[a, b, c] 31)).heap.size (w5.alloc (.cells #[a, b, c] 31)) w6) (h7 : Below (w6.alloc (.cells #[x, y, z] 31)).heap.size (w6.alloc (.cells #[x, y, z] 31)) w7) :
    w7.cell? ⟨w5.heap.size, 0, none⟩ = some a ∧ w7.cell? ⟨w5.heap.size, 1, none⟩ = some b ∧ w7.cell? ⟨w5.heap.size, 2, none⟩ = some c ∧ w7.cell? ⟨w6.heap.size, 0, none⟩ = some x ∧ w7.cell? ⟨w6.heap.size, 1, none⟩ = some y ∧ w7.cell? ⟨w6.heap.size, 2, none⟩ = some z := by
  obtain ⟨b1, b2, _⟩ := two_blocks w5 a b c x y z _ h6 h7
  obtain ⟨p0, p1, p2, _⟩ := res_facts b1
  obtain ⟨q0, q1, q2, _⟩ := res_facts b2
  exact ⟨p0, p1, p2, q0, q1, q2⟩

set_option maxHeartbeats 2000000 in
set_option maxRecDepth 10000 in
theorem vmay_some (b o len cap : Nat) (K N : Nat → Int) (T : Nat → ByteArray) (h0 : 0 < len) (hlen : len * 32 ≤ 140737488355328) (n : Int) (s : ByteArray) (w : World) (hE : Env w) (h : RowAt w b o len K N T) : Calls Tryd.prog 3 #[.slice (some ⟨b, o, none⟩) len cap, .int .i64 n, .string s] w fun e w' => e = .returned (.bool true) ∧ Below w.heap.size w w' := by
  have HR : Hid (RowAt w b o len K N T) := h
  have HH := hide (head_walk w hE)
  have HC : Hid (∀ V, Below w.heap.size w V → Calls Tryd.prog 9 #[.slice (some ⟨b, o, none⟩) len cap] V fun e w' => ∃ g c, e = .returned (.slice (some ⟨g, 0, none⟩) len c) ∧ RowAt w' g 0 len K N T ∧ Below V.heap.size V w') := fun V hV => copy_some b o len cap K N T h0 hlen V (HR.out.later hV)
  have HK : Hid (∀ V, Below w.heap.size w V → Calls Tryd.prog 10 #[.slice (some ⟨b, o, none⟩) len cap] V fun e w' => e = .returned (.int .i64 (chk len K N T)) ∧ Below V.heap.size V w') := fun V hV => rcheck_some b o len cap K N T (by omega) V (HR.out.later hV)
  have HL : Hid (len ≤ 140737488355328) := show len ≤ 140737488355328 by omega
  obtain ⟨q, hq⟩ : ∃ q, chk len K N T = q := ⟨_, rfl⟩
  rw [hq] at HK
  have HQ := hide hq
  clear h hE hq hlen
  go_enter Tryd.func3, Tryd.ntmps3
  go_wp2_with (first
    | (go_at_call 7; (with_reducible refine Calls.mono HH.out ?_); rintro e w1 ⟨rfl, hb⟩; have HB1 := hide hb; clear hb)
    | (go_at_call 9; (with_reducible refine Calls.mono (HC.out _ HB1.out) ?_); rintro e w2 ⟨g, c, rfl, hr, hb⟩; have HB2 := hide (below_trans HB1.out hb); have HR2 := hide hr; clear hr hb)
    | (go_at_call 8; (with_reducible refine Calls.mono (check_some _ _ _ _ _ _ _ HL.out _ HR2.out) ?_); rintro e w3 ⟨rfl, hb⟩; have HB3 := hide (below_trans HB2.out hb); clear hb; rw [HQ.out])
    | (go_at_call 10; (with_reducible refine Calls.mono (HK.out _ HB3.out) ?_); rintro e w4 ⟨rfl, hb⟩; have HB4 := hide (below_trans HB3.out hb); clear hb))
  go_loopw [7] (fun iv wr => ∃ j : Nat, j ≤ len ∧ iv = .int .i64 j ∧ Below w.heap.size w wr) (fun i _ => len - (intOf i).toNat)
  case atStart => exact ⟨0, Nat.zero_le _, rfl, HB4.out⟩
  case round =>
    obtain ⟨j, hj, rfl, hbel⟩ := hrel
    have HB := hide hbel
    clear hbel
    by_cases hlt : j < len
    · have l1 : (j : Int) < (len : Int) := by omega
      have l0 : (0 : Int) ≤ (j : Int) := by omega
      have hw1 : IntKind.i64.wrap ((j : Int) + 1) = (j : Int) + 1 := by have := HL.out; rw [IntKind.wrap_i64]; omega
      have HS : Hid (∀ V, Below w.heap.size w V → V.cell? ⟨b, o + j * 3, none⟩ = some (.int .i64 (K j)) ∧ V.cell? ⟨b, o + j * 3 + 1, none⟩ = some (.int .i64 (N j)) ∧ V.cell? ⟨b, o + j * 3 + 2, none⟩ = some (.string (T j))) := fun V hV => (HR.out.later hV) j hlt
      obtain ⟨c0, c1, c2⟩ := HS.out _ HB.out
      have HD : Hid (Below w.heap.size w wr.drew) := HB.out.drew
      obtain ⟨k, hk⟩ : ∃ k, K j = k := ⟨_, rfl⟩
      obtain ⟨m, hm⟩ : ∃ m, N j = m := ⟨_, rfl⟩
      obtain ⟨t, ht⟩ : ∃ t, T j = t := ⟨_, rfl⟩
      rw [hk, hm, ht] at HS
      rw [hk] at c0
      rw [hm] at c1
      rw [ht] at c2
      clear hk hm ht
      obtain ⟨r, hr⟩ : ∃ r, mayB k m t = r := ⟨_, rfl⟩
      have HM1 : Hid (∀ V, Calls Tryd.prog 11 #[.agg #[.int .i64 k, .int .i64 m, .string t]] V fun e w' => e = .returned (.bool r) ∧ Below V.heap.size V w') := fun V => by have := may_walk k m t V; rw [hr] at this; exact this
      have HM2 : Hid (∀ V, Calls Tryd.prog 12 #[.agg #[.int .i64 k, .int .i64 m, .string t]] V fun e w' => e = .returned (.bool r) ∧ Below V.heap.size V w') := fun V => by have := rmay_walk k m t V; rw [hr] at this; exact this
      clear hr
      go_wp2_with fail
      go_region_held3 (fun V => V.cell? ⟨b, o + j * 3, none⟩ = some (.int .i64 k) ∧ V.cell? ⟨b, o + j * 3 + 1, none⟩ = some (.int .i64 m) ∧ V.cell? ⟨b, o + j * 3 + 2, none⟩ = some (.string t)) (first | with_reducible exact HS.out _ HB.out | with_reducible exact HS.out _ HD.out | with_reducible exact HS.out _ HX1.out | with_reducible exact HS.out _ HX2.out) (first
        | (go_at_call 11; with_reducible refine Calls.mono (HM1.out _) ?_; rintro e w5 ⟨rfl, hb5⟩; have HX1 := hide (below_trans HD.out hb5); clear hb5)
        | (go_at_call 12; with_reducible refine Calls.mono (HM2.out _) ?_; rintro e w6 ⟨rfl, hb6⟩; have HX2 := hide (below_trans HX1.out hb6); clear hb6))
      all_goals (try go_wp2)
      all_goals refine ⟨⟨j + 1, hlt, rfl, HX2.out⟩, ?_⟩
      all_goals (simp only [intOf]; omega)
    · have l1 : ¬ (j : Int) < (len : Int) := by omega
      have HI : Hid (∀ V, Calls Tryd.prog 15 #[.int .i64 n] V fun e w' => e = .returned (.agg #[.int .i64 1, .int .i64 n, .string ⟨#[]⟩]) ∧ Below V.heap.size V w') := fun V => int_walk n V
      by_cases h4 : s.size ≤ 400
      · have l4 : ¬ (400 : Int) < (s.size : Int) := by omega
        have HT := hide (fun V => text_ok s h4 V)
        have HU := hide (fun V => blob_ok s h4 V)
        go_wp2_with (first
          | (go_at_call 13; (with_reducible refine Calls.mono (HT.out _) ?_); rintro e w5 ⟨rfl, hb⟩; have HB5 := hide (below_trans (below_trans HB.out hb) (new_below w5 (.cells #[.int .i64 2, .int .i64 0, .string s] 31) rfl)); clear hb)
          | (go_at_call 14; (with_reducible refine Calls.mono (HU.out _) ?_); rintro e w6 ⟨rfl, hb⟩; have HB6 := hide (below_trans (below_trans HB5.out hb) (new_below w6 (.cells #[.int .i64 3, .int .i64 0, .string s] 31) rfl)); have HX6 := hide hb; clear hb)
          | (go_at_call 15; (with_reducible refine Calls.mono (HI.out _) ?_); rintro e w7 ⟨rfl, hb⟩; have HB7 := hide (below_trans HB6.out hb); have HX7 := hide hb; obtain ⟨c0, c1, c2, c3, c4, c5⟩ := two_res HX6.out HX7.out; clear hb))
        go_ret
        exact ⟨rfl, HB7.out⟩
      · have l4 : (400 : Int) < (s.size : Int) := by omega
        have HT := hide (fun V => text_long s h4 V)
        have HU := hide (fun V => blob_long s h4 V)
        go_wp2_with (first
          | (go_at_call 13; (with_reducible refine Calls.mono (HT.out _) ?_); rintro e w5 ⟨rfl, hb⟩; have HB5 := hide (below_trans (below_trans HB.out hb) (new_below w5 (.cells #[.int .i64 0, .int .i64 0, .string ⟨#[]⟩] 31) rfl)); clear hb)
          | (go_at_call 14; (with_reducible refine Calls.mono (HU.out _) ?_); rintro e w6 ⟨rfl, hb⟩; have HB6 := hide (below_trans (below_trans HB5.out hb) (new_below w6 (.cells #[.int .i64 0, .int .i64 0, .string ⟨#[]⟩] 31) rfl)); have HX6 := hide hb; clear hb)
          | (go_at_call 15; (with_reducible refine Calls.mono (HI.out _) ?_); rintro e w7 ⟨rfl, hb⟩; have HB7 := hide (below_trans HB6.out hb); have HX7 := hide hb; obtain ⟨c0, c1, c2, c3, c4, c5⟩ := two_res HX6.out HX7.out; clear hb))
        go_ret
        exact ⟨rfl, HB7.out⟩
end Go.Proofs.YtghemaghbpekfaaDoor
