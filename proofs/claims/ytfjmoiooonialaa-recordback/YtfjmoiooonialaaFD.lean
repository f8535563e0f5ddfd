/- The program's Check of any row; the law's may; what a row is written as. -/
import Derived.Test.YtfjmoiooonialaaFC
import Derived.Test.YtfjmoiooonialaaEB
import Derived.Test.YtfjmoiooonialaaRP
namespace Go.Proofs.Ytfjmoiooonialaa
open Go.ChangeShapes Go.WideShapes Go.ChangeAt Go.RowKit
set_option linter.unusedVariables false

/-- All that a row has may be. -/
def allMay (len : Nat) (K N : Nat → Int) (T : Nat → ByteArray) : Prop := ∀ i, i < len → mayB (K i) (N i) (T i) = true
open Classical in
/-- What is wrong with a row. -/
noncomputable def chk (len : Nat) (K N : Nat → Int) (T : Nat → ByteArray) : Int := if allMay len K N T then (if 16 < len then 3 else 0) else 2

theorem chk_bad {len : Nat} {K N : Nat → Int} {T : Nat → ByteArray} {j : Nat} (hj : j < len) (h : mayB (K j) (N j) (T j) = false) : chk len K N T = 2 := by
  unfold chk
  rw [if_neg (fun ha => by rw [ha j hj] at h; cases h)]
theorem chk_long {len : Nat} {K N : Nat → Int} {T : Nat → ByteArray} (h : ∀ i, i < len → mayB (K i) (N i) (T i) = true) (hl : 16 < len) : chk len K N T = 3 := by
  unfold chk
  rw [if_pos (show allMay len K N T from h), if_pos hl]
theorem chk_ok {len : Nat} {K N : Nat → Int} {T : Nat → ByteArray} (h : ∀ i, i < len → mayB (K i) (N i) (T i) = true) (hl : ¬ 16 < len) : chk len K N T = 0 := by
  unfold chk
  rw [if_pos (show allMay len K N T from h), if_neg hl]

open Classical in
noncomputable def mayR (len : Nat) (K N : Nat → Int) (T : Nat → ByteArray) : Bool := decide (allMay len K N T)
open Classical in
theorem mayR_no {len : Nat} {K N : Nat → Int} {T : Nat → ByteArray} {j : Nat} (hj : j < len) (h : mayB (K j) (N j) (T j) = false) : mayR len K N T = false := decide_eq_false fun ha => by rw [ha j hj] at h; cases h
open Classical in
theorem mayR_yes {len : Nat} {K N : Nat → Int} {T : Nat → ByteArray} (h : ∀ i, i < len → mayB (K i) (N i) (T i) = true) : mayR len K N T = true := decide_eq_true h

set_option maxHeartbeats 1000000 in
set_option maxRecDepth 10000 in
theorem check_any (p : Option Addr) (len cap : Nat) (K N : Nat → Int) (T : Nat → ByteArray) (hlen : len ≤ 140737488355328) (w : World) (h : RowP w p len K N T) : Calls Try.prog 22 #[.slice p len cap] w fun e w' => e = .returned (.int .i64 (chk len K N T)) ∧ Below w.heap.size w w' := by
  have HRp : Hid (RowP w p len K N T) := h
  clear h
  have HM : Hid (∀ k n t V, Calls Try.prog 35 #[.agg #[.int .i64 k, .int .i64 n, .string t]] V fun e w' => e = .returned (.bool (mayB k n t)) ∧ Below V.heap.size V w') := fun k n t V => may_walk k n t V
  go_enter Try.func22, Try.ntmps22
  go_wp2
  go_loopw [7] (fun iv wr => ∃ j : Nat, j ≤ len ∧ iv = .int .i64 j ∧ (∀ i, i < j → mayB (K i) (N i) (T i) = true) ∧ Below w.heap.size w wr) (fun i _ => len - (intOf i).toNat)
  case atStart => exact ⟨0, Nat.zero_le _, rfl, fun i h => by omega, Below.refl _ _⟩
  case round =>
    obtain ⟨j, hj, rfl, hall, hbel⟩ := hrel
    have HA := hide hall
    have HB := hide hbel
    clear hall hbel
    by_cases hlt : j < len
    · have l1 : (j : Int) < (len : Int) := by omega
      have l0 : (0 : Int) ≤ (j : Int) := by omega
      have hw1 : IntKind.i64.wrap ((j : Int) + 1) = (j : Int) + 1 := by rw [IntKind.wrap_i64]; omega
      obtain ⟨b, o, rfl, hr⟩ := HRp.out (by omega)
      obtain ⟨c0, c1, c2⟩ := (hr.later HB.out) j hlt
      clear hr
      have HN := hide (below_trans HB.out (new_below wr (.cells #[.int .i64 (K j), .int .i64 (N j), .string (T j)] 46) rfl))
      cases hm : mayB (K j) (N j) (T j)
      · have HMj := hide hm
        go_wp2_with (first
          | (go_at_call 35; (with_reducible refine Calls.mono (HM.out _ _ _ _) ?_); rintro e w1 ⟨rfl, hb⟩; have HX := hide (below_trans HN.out hb); clear hb; rw [HMj.out]))
        go_ret
        exact ⟨by rw [chk_bad hlt HMj.out]; rfl, HX.out⟩
      · have HMj := hide hm
        go_wp2_with (first
          | (go_at_call 35; (with_reducible refine Calls.mono (HM.out _ _ _ _) ?_); rintro e w1 ⟨rfl, hb⟩; have HX := hide (below_trans HN.out hb); clear hb; rw [HMj.out]))
        refine ⟨⟨j + 1, hlt, rfl, fun i hi => ?_, HX.out⟩, ?_⟩
        · by_cases e : i = j
          · subst e; exact HMj.out
          · exact HA.out i (by omega)
        · simp only [intOf]
          omega
    · have l1 : ¬ (j : Int) < (len : Int) := by omega
      have hall : ∀ i, i < len → mayB (K i) (N i) (T i) = true := fun i hi => HA.out i (by omega)
      have HC := hide hall
      clear hall
      by_cases h16 : 16 < len
      · have l2 : (16 : Int) < (len : Int) := by omega
        go_wp2_with fail
        go_ret
        exact ⟨by rw [chk_long HC.out h16]; rfl, HB.out⟩
      · have l2 : ¬ (16 : Int) < (len : Int) := by omega
        go_wp2_with fail
        go_ret
        exact ⟨by rw [chk_ok HC.out h16]; rfl, HB.out⟩
end Go.Proofs.Ytfjmoiooonialaa
