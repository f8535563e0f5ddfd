/- How two rows stand. -/
import Derived.Test.YtghemaghbpekfaaGreatDoorXJ
import Derived.Test.YtghemaghbpekfaaGreatDoorShJ
import Derived.Test.YtghemaghbpekfaaGreatDoorRD
import Derived.LoopN
namespace Go.Proofs.YtghemaghbpekfaaGreatDoor
open Go.ChangeShapes Go.WideShapes Go.ChangeAt Go.RowKit
set_option linter.unusedVariables false

/-- A row of integers, as it lies in memory. -/
abbrev IntAt (w : World) (b o len : Nat) (C : Nat → Int) : Prop := ∀ i, i < len → w.cell? ⟨b, o + i, none⟩ = some (.int .i64 (C i))
theorem IntAt.later {w w' : World} {b o len : Nat} {C : Nat → Int} (h : IntAt w b o len C) (hb : Below w.heap.size w w') : IntAt w' b o len C := fun i hi => cell_later hb (h i hi)
/-- The collation of a place. -/
def collAt (lc : Nat) (C : Nat → Int) (i : Nat) : Int := if i < lc then C i else 0
/-- The first that is not level. -/
def fz (f : Nat → Int) : Nat → Int
  | 0 => 0
  | n + 1 => if fz f n = 0 then f n else fz f n
def rowsR (f : Nat → Int) (la lb : Nat) : Int := if fz f (min la lb) = 0 then Lib.compareInt (la : Int) (lb : Int) else fz f (min la lb)
theorem fz_zero {f : Nat → Int} : ∀ {j : Nat}, (∀ i, i < j → f i = 0) → fz f j = 0
  | 0, _ => rfl
  | j + 1, h => by
    have h1 := fz_zero (f := f) (j := j) (fun i hi => h i (by omega))
    unfold fz
    rw [if_pos h1]
    exact h j (by omega)
theorem fz_hit {f : Nat → Int} {j : Nat} (h : ∀ i, i < j → f i = 0) (hj : f j ≠ 0) : ∀ {m : Nat}, j < m → fz f m = f j
  | 0, hm => by omega
  | m + 1, hm => by
    by_cases e : j = m
    · subst e
      unfold fz
      rw [if_pos (fz_zero h)]
    · have h1 := fz_hit h hj (m := m) (by omega)
      unfold fz
      rw [h1, if_neg hj]
theorem rowsR_hit {f : Nat → Int} {la lb j : Nat} (hj : j < min la lb) (h : ∀ i, i < j → f i = 0) (hne : f j ≠ 0) : rowsR f la lb = f j := by
  unfold rowsR
  rw [fz_hit h hne hj, if_neg hne]
theorem rowsR_end {f : Nat → Int} {la lb : Nat} (h : ∀ i, i < min la lb → f i = 0) : rowsR f la lb = Lib.compareInt (la : Int) (lb : Int) := by
  unfold rowsR
  rw [fz_zero h, if_pos rfl]

set_option maxHeartbeats 2000000 in
set_option maxRecDepth 10000 in
theorem cmprows_n (b o la ca b2 o2 lb cb2 : Nat) (K N : Nat → Int) (T : Nat → ByteArray) (K2 N2 : Nat → Int) (T2 : Nat → ByteArray) (hla : la ≤ 140737488355328) (hlb : lb ≤ 140737488355328) (w : World) (p : Option Addr) (cc : Nat) (h : RowAt w b o la K N T) (h2 : RowAt w b2 o2 lb K2 N2 T2) :
    Calls Tryz.prog 13 #[.slice (some ⟨b, o, none⟩) la ca, .slice (some ⟨b2, o2, none⟩) lb cb2, .slice p 0 cc] w fun e w' => e = .returned (.int .i64 (rowsR (fun i => cmpA (K i) (N i) (T i) (K2 i) (N2 i) (T2 i) (collAt 0 (fun _ => 0) i)) la lb)) ∧ Below w.heap.size w w' := by
  have HR := hide h
  have HR2 := hide h2
  have HW : Hid (∀ k1 n1 t1 k2 n2 t2 c V, Calls Tryz.prog 6 #[.agg #[.int .i64 k1, .int .i64 n1, .string t1], .agg #[.int .i64 k2, .int .i64 n2, .string t2], .int .i64 c] V fun e w' => e = .returned (.int .i64 (cmpA k1 n1 t1 k2 n2 t2 c)) ∧ Below V.heap.size V w') := fun k1 n1 t1 k2 n2 t2 c V => cmp_walk k1 n1 t1 k2 n2 t2 c V
  have hmin : min (la : Int) (lb : Int) = ((min la lb : Nat) : Int) := by omega
  clear h h2
  go_enter Tryz.func13, Tryz.ntmps13
  go_wp2
  go_loopw [15] (fun iv wr => ∃ j : Nat, j ≤ min la lb ∧ iv = .int .i64 (j : Int) ∧ (∀ i, i < j → cmpA (K i) (N i) (T i) (K2 i) (N2 i) (T2 i) (collAt 0 (fun _ => 0) i) = 0) ∧ Below w.heap.size w wr) (fun iv _ => min la lb - (intOf iv).toNat)
  case atStart => exact ⟨0, Nat.zero_le _, rfl, fun i hi => by omega, Below.refl _ _⟩
  case round =>
    obtain ⟨j, hj, rfl, hall, hb⟩ := hrel
    have HA := hide hall
    have HB := hide hb
    clear hall hb
    by_cases hlt : j < min la lb
    · have hja : j < la := by omega
      have hjb : j < lb := by omega
      have l1 : (j : Int) < (la : Int) := by omega
      have l2 : (j : Int) < (lb : Int) := by omega
      have l3 : (j : Int) < ((min la lb : Nat) : Int) := by omega
      have l0 : (0 : Int) ≤ (j : Int) := by omega
      have hw1 : IntKind.i64.wrap ((j : Int) + 1) = (j : Int) + 1 := by rw [IntKind.wrap_i64]; omega
      obtain ⟨c0, c1, c2⟩ := (HR.out.later HB.out.drew) j hja
      obtain ⟨d0, d1, d2⟩ := (HR2.out.later HB.out.drew) j hjb
      have l4 : ¬ (j : Int) < 0 := by omega
      have HCo : Hid (collAt 0 (fun _ => 0) j = 0) := by show _ = _; rfl
      by_cases hz : cmpA (K j) (N j) (T j) (K2 j) (N2 j) (T2 j) (0) = 0
      · have HQ := hide hz
        clear hz
        go_wp2
        go_region_held3 (fun V => (V.cell? ⟨b, o + j * 3, none⟩ = some (.int .i64 (K j)) ∧ V.cell? ⟨b, o + j * 3 + 1, none⟩ = some (.int .i64 (N j)) ∧ V.cell? ⟨b, o + j * 3 + 2, none⟩ = some (.string (T j))) ∧ (V.cell? ⟨b2, o2 + j * 3, none⟩ = some (.int .i64 (K2 j)) ∧ V.cell? ⟨b2, o2 + j * 3 + 1, none⟩ = some (.int .i64 (N2 j)) ∧ V.cell? ⟨b2, o2 + j * 3 + 2, none⟩ = some (.string (T2 j)))) (first | exact ⟨(HR.out.later HB.out.drew) j hja, (HR2.out.later HB.out.drew) j hjb⟩ | exact ⟨(HR.out.later HX.out) j hja, (HR2.out.later HX.out) j hjb⟩) (first
          | (go_at_call 6; with_reducible refine Calls.mono (HW.out _ _ _ _ _ _ _ _) ?_; rintro e w1 ⟨rfl, hb⟩; have HX := hide (below_trans HB.out.drew hb); clear hb; rw [HQ.out]))
        all_goals (try go_wp2)
        all_goals
          refine ⟨⟨j + 1, hlt, rfl, fun i hi => ?_, HX.out⟩, ?_⟩
          · by_cases e : i = j
            · subst e; rw [HCo.out]; exact HQ.out
            · exact HA.out i (by omega)
          · simp only [intOf]; omega
      · obtain ⟨q, hq⟩ : ∃ q : Int, cmpA (K j) (N j) (T j) (K2 j) (N2 j) (T2 j) (0) = q := ⟨_, rfl⟩
        rw [hq] at hz
        have HQ := hide hq
        have HRR := hide (rowsR_hit (f := fun i => cmpA (K i) (N i) (T i) (K2 i) (N2 i) (T2 i) (collAt 0 (fun _ => 0) i)) hlt HA.out (by simp only [HCo.out, hq]; exact hz))
        simp only [HCo.out, hq] at HRR
        clear hq
        go_wp2
        go_region_held3 (fun V => (V.cell? ⟨b, o + j * 3, none⟩ = some (.int .i64 (K j)) ∧ V.cell? ⟨b, o + j * 3 + 1, none⟩ = some (.int .i64 (N j)) ∧ V.cell? ⟨b, o + j * 3 + 2, none⟩ = some (.string (T j))) ∧ (V.cell? ⟨b2, o2 + j * 3, none⟩ = some (.int .i64 (K2 j)) ∧ V.cell? ⟨b2, o2 + j * 3 + 1, none⟩ = some (.int .i64 (N2 j)) ∧ V.cell? ⟨b2, o2 + j * 3 + 2, none⟩ = some (.string (T2 j)))) (first | exact ⟨(HR.out.later HB.out.drew) j hja, (HR2.out.later HB.out.drew) j hjb⟩ | exact ⟨(HR.out.later HX.out) j hja, (HR2.out.later HX.out) j hjb⟩) (first
          | (go_at_call 6; with_reducible refine Calls.mono (HW.out _ _ _ _ _ _ _ _) ?_; rintro e w1 ⟨rfl, hb⟩; have HX := hide (below_trans HB.out.drew hb); clear hb; rw [HQ.out]))
        all_goals (try go_wp2)
        all_goals go_ret
        all_goals exact ⟨by rw [HRR.out]; rfl, HX.out⟩
    · have l3 : ¬ (j : Int) < ((min la lb : Nat) : Int) := by omega
      obtain rfl : min la lb = j := by omega
      have HRR := hide (rowsR_end (f := fun i => cmpA (K i) (N i) (T i) (K2 i) (N2 i) (T2 i) (collAt 0 (fun _ => 0) i)) (la := la) (lb := lb) HA.out)
      go_wp2_with (first
        | (go_at_call 31; with_reducible refine Calls.mono (Tryz.cmp_Compare_int _ _ _) ?_; rintro e w1 ⟨rfl, rfl⟩))
      go_ret
      exact ⟨by rw [HRR.out]; rfl, HB.out⟩

end Go.Proofs.YtghemaghbpekfaaGreatDoor
