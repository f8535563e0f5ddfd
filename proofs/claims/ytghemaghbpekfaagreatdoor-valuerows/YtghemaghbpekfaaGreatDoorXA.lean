/- Rows of values in memory: the document's Check. -/
import Derived.Test.YtghemaghbpekfaaGreatDoorVD
import Derived.Test.YtghemaghbpekfaaGreatDoorRP
import Derived.LoopN
namespace Go.Proofs.YtghemaghbpekfaaGreatDoor
open Go.ChangeShapes Go.WideShapes Go.ChangeAt Go.RowKit
set_option linter.unusedVariables false

/-- A row of values, as it lies in memory. -/
abbrev RowAt (w : World) (b o len : Nat) (K N : Nat → Int) (T : Nat → ByteArray) : Prop :=
  ∀ i, i < len → w.cell? ⟨b, o + i * 3, none⟩ = some (.int .i64 (K i)) ∧ w.cell? ⟨b, o + i * 3 + 1, none⟩ = some (.int .i64 (N i)) ∧ w.cell? ⟨b, o + i * 3 + 2, none⟩ = some (.string (T i))

theorem RowAt.later {w w' : World} {b o len : Nat} {K N : Nat → Int} {T : Nat → ByteArray} (h : RowAt w b o len K N T) (hb : Below w.heap.size w w') : RowAt w' b o len K N T :=
  fun i hi => ⟨cell_later hb (h i hi).1, cell_later hb (h i hi).2.1, cell_later hb (h i hi).2.2⟩

/-- All that a row has may be. -/
def allMay (len : Nat) (K N : Nat → Int) (T : Nat → ByteArray) : Prop := ∀ i, i < len → mayB (K i) (N i) (T i) = true
open Classical in
/-- What is wrong with a row. -/
noncomputable def chk (len : Nat) (K N : Nat → Int) (T : Nat → ByteArray) : Int := if allMay len K N T then (if 16 < len then 3 else 0) else 2

theorem chk_bad {len : Nat} {K N : Nat → Int} {T : Nat → ByteArray} {j : Nat} (hj : j < len) (h : mayB (K j) (N j) (T j) = false) : chk len K N T = 2 := by
  unfold chk
  rw [if_neg (fun ha => by rw [ha j hj] at h; cases h)]
theorem chk_long {len : Nat} {K N : Nat → Int} {T : Nat → ByteArray} (h : ∀ i, i < len → mayB (K i) (N i) (T i) = true) (hl : 16 < len) : chk len K N T = 3 := by
  unfold chk
  rw [if_pos (show allMay len K N T from h), if_pos hl]
theorem chk_ok {len : Nat} {K N : Nat → Int} {T : Nat → ByteArray} (h : ∀ i, i < len → mayB (K i) (N i) (T i) = true) (hl : ¬ 16 < len) : chk len K N T = 0 := by
  unfold chk
  rw [if_pos (show allMay len K N T from h), if_neg hl]

set_option maxHeartbeats 1000000 in
set_option maxRecDepth 10000 in
theorem rcheck_some (b o len cap : Nat) (K N : Nat → Int) (T : Nat → ByteArray) (hlen : len ≤ 140737488355328) (w : World) (h : RowAt w b o len K N T) : Calls Tryz.prog 29 #[.slice (some ⟨b, o, none⟩) len cap] w fun e w' => e = .returned (.int .i64 (chk len K N T)) ∧ Below w.heap.size w w' := by
  have HM : Hid (∀ k n t V, Calls Tryz.prog 20 #[.agg #[.int .i64 k, .int .i64 n, .string t]] V fun e w' => e = .returned (.bool (mayB k n t)) ∧ Below V.heap.size V w') := fun k n t V => rmay_walk k n t V
  have HR : Hid (RowAt w b o len K N T) := h
  clear h
  go_enter Tryz.func29, Tryz.ntmps29
  go_wp2
  go_loopw [3] (fun iv wr => ∃ j : Nat, j ≤ len ∧ iv = .int .i64 j ∧ (∀ i, i < j → mayB (K i) (N i) (T i) = true) ∧ Below w.heap.size w wr) (fun i _ => len - (intOf i).toNat)
  case atStart => exact ⟨0, Nat.zero_le _, rfl, fun i h => by omega, Below.refl _ _⟩
  case round =>
    obtain ⟨j, hj, rfl, hall, hbel⟩ := hrel
    have HA := hide hall
    have HB := hide hbel
    clear hall hbel
    by_cases hlt : j < len
    · have l1 : (j : Int) < (len : Int) := by omega
      have l0 : (0 : Int) ≤ (j : Int) := by omega
      have hw1 : IntKind.i64.wrap ((j : Int) + 1) = (j : Int) + 1 := by rw [IntKind.wrap_i64]; omega
      obtain ⟨c0, c1, c2⟩ := (HR.out.later HB.out) j hlt
      cases hm : mayB (K j) (N j) (T j)
      · have HMj := hide hm
        go_wp2_with (first
          | (go_at_call 20; (with_reducible refine Calls.mono (HM.out _ _ _ _) ?_); rintro e w1 ⟨rfl, hb⟩; have HX := hide (below_trans HB.out hb); clear hb; rw [HMj.out]))
        go_ret
        exact ⟨by rw [chk_bad hlt HMj.out]; rfl, HX.out⟩
      · have HMj := hide hm
        go_wp2_with (first
          | (go_at_call 20; (with_reducible refine Calls.mono (HM.out _ _ _ _) ?_); rintro e w1 ⟨rfl, hb⟩; have HX := hide (below_trans HB.out hb); clear hb; rw [HMj.out]))
        refine ⟨⟨j + 1, hlt, rfl, fun i hi => ?_, HX.out⟩, ?_⟩
        · by_cases e : i = j
          · subst e; exact HMj.out
          · exact HA.out i (by omega)
        · simp only [intOf]
          omega
    · have l1 : ¬ (j : Int) < (len : Int) := by omega
      have hall : ∀ i, i < len → mayB (K i) (N i) (T i) = true := fun i hi => HA.out i (by omega)
      have HC := hide hall
      clear hall
      by_cases h16 : 16 < len
      · have l2 : (16 : Int) < (len : Int) := by omega
        go_wp2_with fail
        go_ret
        exact ⟨by rw [chk_long HC.out h16]; rfl, HB.out⟩
      · have l2 : ¬ (16 : Int) < (len : Int) := by omega
        go_wp2_with fail
        go_ret
        exact ⟨by rw [chk_ok HC.out h16]; rfl, HB.out⟩
end Go.Proofs.YtghemaghbpekfaaGreatDoor
