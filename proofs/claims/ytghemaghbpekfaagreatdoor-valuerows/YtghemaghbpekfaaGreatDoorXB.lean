/- Rows of values in memory: the program's Check; Check of no values. -/
import Derived.Test.YtghemaghbpekfaaGreatDoorXA
namespace Go.Proofs.YtghemaghbpekfaaGreatDoor
open Go.ChangeShapes Go.WideShapes Go.ChangeAt Go.RowKit
set_option linter.unusedVariables false

theorem rcheck_none (w : World) : Calls Tryz.prog 29 #[.slice none 0 0] w fun e w' => e = .returned (.int .i64 0) ∧ w = w' := by
  go_enter Tryz.func29, Tryz.ntmps29
  go_wp2
  refine wp_loop_rounds 1 ?_
  rw [rounds_succ]
  go_wp2
  go_ret
  exact ⟨rfl, rfl⟩
theorem check_none (w : World) : Calls Tryz.prog 26 #[.slice none 0 0] w fun e w' => e = .returned (.int .i64 0) ∧ w = w' := by
  go_enter Tryz.func26, Tryz.ntmps26
  go_wp2
  refine wp_loop_rounds 1 ?_
  rw [rounds_succ]
  go_wp2
  go_ret
  exact ⟨rfl, rfl⟩
set_option maxHeartbeats 1000000 in
set_option maxRecDepth 10000 in
theorem check_some (b o len cap : Nat) (K N : Nat → Int) (T : Nat → ByteArray) (hlen : len ≤ 140737488355328) (w : World) (h : RowAt w b o len K N T) : Calls Tryz.prog 26 #[.slice (some ⟨b, o, none⟩) len cap] w fun e w' => e = .returned (.int .i64 (chk len K N T)) ∧ Below w.heap.size w w' := by
  have HR : Hid (RowAt w b o len K N T) := h
  clear h
  have HM : Hid (∀ k n t V, Calls Tryz.prog 16 #[.agg #[.int .i64 k, .int .i64 n, .string t]] V fun e w' => e = .returned (.bool (mayB k n t)) ∧ Below V.heap.size V w') := fun k n t V => may_walk k n t V
  go_enter Tryz.func26, Tryz.ntmps26
  go_wp2
  go_loopw [7] (fun iv wr => ∃ j : Nat, j ≤ len ∧ iv = .int .i64 j ∧ (∀ i, i < j → mayB (K i) (N i) (T i) = true) ∧ Below w.heap.size w wr) (fun i _ => len - (intOf i).toNat)
  case atStart => exact ⟨0, Nat.zero_le _, rfl, fun i h => by omega, Below.refl _ _⟩
  case round =>
    obtain ⟨j, hj, rfl, hall, hbel⟩ := hrel
    have HA := hide hall
    have HB := hide hbel
    clear hall hbel
    by_cases hlt : j < len
    · have l1 : (j : Int) < (len : Int) := by omega
      have l0 : (0 : Int) ≤ (j : Int) := by omega
      have hw1 : IntKind.i64.wrap ((j : Int) + 1) = (j : Int) + 1 := by rw [IntKind.wrap_i64]; omega
      obtain ⟨c0, c1, c2⟩ := (HR.out.later HB.out) j hlt
      have HN := hide (below_trans HB.out (new_below wr (.cells #[.int .i64 (K j), .int .i64 (N j), .string (T j)] 24) rfl))
      cases hm : mayB (K j) (N j) (T j)
      · have HMj := hide hm
        go_wp2_with (first
          | (go_at_call 16; (with_reducible refine Calls.mono (HM.out _ _ _ _) ?_); rintro e w1 ⟨rfl, hb⟩; have HX := hide (below_trans HN.out hb); clear hb; rw [HMj.out]))
        go_ret
        exact ⟨by rw [chk_bad hlt HMj.out]; rfl, HX.out⟩
      · have HMj := hide hm
        go_wp2_with (first
          | (go_at_call 16; (with_reducible refine Calls.mono (HM.out _ _ _ _) ?_); rintro e w1 ⟨rfl, hb⟩; have HX := hide (below_trans HN.out hb); clear hb; rw [HMj.out]))
        refine ⟨⟨j + 1, hlt, rfl, fun i hi => ?_, HX.out⟩, ?_⟩
        · by_cases e : i = j
          · subst e; exact HMj.out
          · exact HA.out i (by omega)
        · simp only [intOf]
          omega
    · have l1 : ¬ (j : Int) < (len : Int) := by omega
      have hall : ∀ i, i < len → mayB (K i) (N i) (T i) = true := fun i hi => HA.out i (by omega)
      have HC := hide hall
      clear hall
      by_cases h16 : 16 < len
      · have l2 : (16 : Int) < (len : Int) := by omega
        go_wp2_with fail
        go_ret
        exact ⟨by rw [chk_long HC.out h16]; rfl, HB.out⟩
      · have l2 : ¬ (16 : Int) < (len : Int) := by omega
        go_wp2_with fail
        go_ret
        exact ⟨by rw [chk_ok HC.out h16]; rfl, HB.out⟩
end Go.Proofs.YtghemaghbpekfaaGreatDoor
