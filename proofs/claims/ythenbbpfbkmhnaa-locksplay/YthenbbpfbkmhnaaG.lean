/- The document's answer: Wrong, Free, Take, Drop. -/
import Derived.Test.YthenbbpfbkmhnaaE
namespace Go.Proofs.Ythenbbpfbkmhnaa
open Go.ChangeShapes Go.WideShapes Go.ChangeAt Go.RowKit
set_option linter.unusedVariables false

/-- Its error. -/
def wrE (m : Bool) (c l : Int) : Int := if m then askE c l else 1
theorem askE_in {c l : Int} (h : askE c l = 0) : (0 ≤ c ∧ c < 8) ∧ 0 ≤ l ∧ l ≤ 3 := by
  unfold askE at h
  cases h1 : okC c <;> cases h2 : okL l <;> simp [h1, h2] at h
  exact ⟨of_decide_eq_true h1, of_decide_eq_true h2⟩
theorem askE_yes {c l : Int} (h1 : 0 ≤ c) (h2 : c < 8) (h3 : 0 ≤ l) (h4 : l ≤ 3) : askE c l = 0 := by
  unfold askE
  rw [show okC c = true from decide_eq_true ⟨h1, h2⟩, show okL l = true from decide_eq_true ⟨h3, h4⟩]; rfl
theorem askE_no {c l : Int} (h : ¬ ((0 ≤ c ∧ c < 8) ∧ 0 ≤ l ∧ l ≤ 3)) : askE c l = 2 := by
  have h0 : askE c l ≠ 0 := fun e => h (askE_in e)
  unfold askE at h0 ⊢
  split <;> simp_all
set_option maxHeartbeats 1000000 in
theorem wrong_any (w : World) (m : Bool) (L : List Int) (h8 : L.length = 8) (c l : Int) : Calls Try.prog 17 #[.agg (tcl m L).toArray, .int .i64 c, .int .i64 l] w fun e w' => e = .returned (.int .i64 (wrE m c l)) ∧ Only [] w w' := by
  have c0 := (Blk.new w (tcl m L).toArray 29).made
  have HO := hide (Only.alloc w (.cells (tcl m L).toArray 29) [])
  clear h8
  cases m with
  | false =>
    go_enter Try.func17, Try.ntmps17
    go_wp2
    go_ret
    exact ⟨rfl, HO.out⟩
  | true =>
    have HE : Hid (wrE true c l = askE c l) := rfl
    by_cases h1 : c < 0
    · have e := hide (askE_no (c := c) (l := l) (by omega))
      go_enter Try.func17, Try.ntmps17
      go_wp2
      go_ret
      exact ⟨by rw [HE.out, e.out]; rfl, HO.out⟩
    by_cases h2 : 7 < c
    · have e := hide (askE_no (c := c) (l := l) (by omega))
      go_enter Try.func17, Try.ntmps17
      go_wp2
      go_ret
      exact ⟨by rw [HE.out, e.out]; rfl, HO.out⟩
    by_cases h3 : l < 0
    · have e := hide (askE_no (c := c) (l := l) (by omega))
      go_enter Try.func17, Try.ntmps17
      go_wp2
      go_ret
      exact ⟨by rw [HE.out, e.out]; rfl, HO.out⟩
    by_cases h4 : 3 < l
    · have e := hide (askE_no (c := c) (l := l) (by omega))
      go_enter Try.func17, Try.ntmps17
      go_wp2
      go_ret
      exact ⟨by rw [HE.out, e.out]; rfl, HO.out⟩
    · have e := hide (askE_yes (c := c) (l := l) (by omega) (by omega) (by omega) (by omega))
      go_enter Try.func17, Try.ntmps17
      go_wp2
      go_ret
      exact ⟨by rw [HE.out, e.out]; rfl, HO.out⟩

/-- What stands in its way. -/
def Bars (h : List Int) (c l : Int) (i : Nat) : Prop := (i : Int) ≠ c ∧ ((gt h i = 3 ∧ 1 ≤ l) ∨ (gt h i = 2 ∧ 2 ≤ l) ∨ (gt h i = 1 ∧ l = 3))
theorem frB_iff {h : List Int} {c l : Int} (h0 : 0 ≤ l) (h3 : l ≤ 3) : frB h c l = true ↔ ∀ i, i < 8 → ¬ Bars h c l i := by
  have e1 := anoB_iff h c 1
  have e2 := anoB_iff h c 2
  have e3 := anoB_iff h c 3
  unfold frB
  constructor
  · intro hf i hi hb
    obtain ⟨hne, hb⟩ := hb
    simp only [Bool.not_eq_true', Bool.or_eq_false_iff, Bool.and_eq_false_iff, beq_eq_false_iff_ne] at hf
    rcases hb with ⟨a, b⟩ | ⟨a, b⟩ | ⟨a, b⟩
    · have := e3.2 ⟨i, hi, hne, a⟩
      rw [this] at hf
      rcases hf.2 with h | h
      · omega
      · cases h
    · have := e2.2 ⟨i, hi, hne, a⟩
      rw [this] at hf
      rcases hf.1.2 with h | h
      · omega
      · cases h
    · have := e1.2 ⟨i, hi, hne, a⟩
      rw [this] at hf
      rcases hf.1.1 with h | h
      · omega
      · cases h
  · intro hf
    have n1 : l = 3 → anoB h c 1 = false := fun e => by
      rw [← Bool.not_eq_true, e1]; rintro ⟨i, hi, hne, a⟩; exact hf i hi ⟨hne, .inr (.inr ⟨a, e⟩)⟩
    have n2 : 2 ≤ l → anoB h c 2 = false := fun e => by
      rw [← Bool.not_eq_true, e2]; rintro ⟨i, hi, hne, a⟩; exact hf i hi ⟨hne, .inr (.inl ⟨a, e⟩)⟩
    have n3 : 1 ≤ l → anoB h c 3 = false := fun e => by
      rw [← Bool.not_eq_true, e3]; rintro ⟨i, hi, hne, a⟩; exact hf i hi ⟨hne, .inl ⟨a, e⟩⟩
    rcases (show l = 0 ∨ l = 1 ∨ l = 2 ∨ l = 3 by omega) with rfl | rfl | rfl | rfl
    · rfl
    · rw [n3 (by omega)]; rfl
    · rw [n3 (by omega), n2 (by omega)]; rfl
    · rw [n3 (by omega), n2 (by omega), n1 rfl]; rfl
set_option maxHeartbeats 4000000 in
theorem rfree_any (w : World) (m : Bool) (L : List Int) (h8 : L.length = 8) (c l : Int) (h0 : 0 ≤ l) (h3 : l ≤ 3) : Calls Try.prog 18 #[.agg (tcl m L).toArray, .int .i64 c, .int .i64 l] w fun e w' => e = .returned (.bool (frB L c l)) ∧ Only [] w w' := by
  have HB := hide (Blk.new w (tcl m L).toArray 29)
  have HO := hide (Only.alloc w (.cells (tcl m L).toArray 29) [])
  have HF := hide (frB_iff (h := L) (c := c) h0 h3)
  have H8 := hide h8
  have H03 := hide (And.intro h0 h3)
  clear h8 h0 h3
  go_enter Try.func18, Try.ntmps18
  go_wp2
  go_loopw [7] (fun iv wr => ∃ j : Nat, j ≤ 8 ∧ iv = .int .i64 (j : Int) ∧ wr = w.alloc (.cells (tcl m L).toArray 29) ∧ ∀ i, i < j → ¬ Bars L c l i) (fun iv _ => 8 - (intOf iv).toNat)
  case atStart => exact ⟨0, Nat.zero_le _, rfl, rfl, fun i hi => by omega⟩
  case round =>
    obtain ⟨j, hj, rfl, rfl, hno⟩ := hrel
    have HNo := hide hno
    clear hno
    by_cases hlt : j < 8
    · have l1 : (j : Int) < 8 := by omega
      have l0 : (0 : Int) ≤ (j : Int) := by omega
      have hw1 : IntKind.i64.wrap ((j : Int) + 1) = (j : Int) + 1 := by rw [IntKind.wrap_i64]; omega
      have ck := HB.out.held' (k := j) (by rw [H8.out]; exact hlt)
      have HNx : Hid (¬ Bars L c l j → ∀ i, i < j + 1 → ¬ Bars L c l i) := fun h i hi => by
        by_cases e : i = j
        · subst e; exact h
        · exact HNo.out i (by omega)
      by_cases e1 : c = (j : Int)
      · subst e1
        go_wp2
        refine ⟨⟨j + 1, hlt, rfl, by trivial, HNx.out (fun h => h.1 rfl)⟩, ?_⟩
        simp only [intOf]; omega
      · have e2 : ¬ (j : Int) = c := fun h => e1 h.symm
        clear e1
        have HY : Hid (Bars L c l j → frB L c l = false) := fun h => by
          rw [← Bool.not_eq_true, HF.out]; exact fun h' => h' j hlt h
        have HE2 := hide e2
        have b0 : ((j : Int) == c) = false := by simpa using e2
        by_cases g3 : gt L j = 3
        · have G3 := hide g3
          rw [g3] at ck
          clear g3
          by_cases a : 1 ≤ l
          · have A := hide a
            go_wp2
            go_ret
            exact ⟨by rw [HY.out ⟨HE2.out, .inl ⟨G3.out, A.out⟩⟩]; rfl, HO.out⟩
          · have HB0 : Hid (¬ Bars L c l j) := fun hb => by rcases hb.2 with h | h | h <;> have := G3.out <;> omega
            go_wp2
            refine ⟨⟨j + 1, hlt, rfl, by trivial, HNx.out HB0.out⟩, ?_⟩
            simp only [intOf]; omega
        by_cases g2 : gt L j = 2
        · have G2 := hide g2
          rw [g2] at ck
          clear g2 g3
          by_cases a : 2 ≤ l
          · have A := hide a
            go_wp2
            go_ret
            exact ⟨by rw [HY.out ⟨HE2.out, .inr (.inl ⟨G2.out, A.out⟩)⟩]; rfl, HO.out⟩
          · have HB0 : Hid (¬ Bars L c l j) := fun hb => by rcases hb.2 with h | h | h <;> have := G2.out <;> omega
            go_wp2
            refine ⟨⟨j + 1, hlt, rfl, by trivial, HNx.out HB0.out⟩, ?_⟩
            simp only [intOf]; omega
        by_cases g1 : gt L j = 1
        · have G1 := hide g1
          rw [g1] at ck
          clear g1 g2 g3
          by_cases a : l = 3
          · subst a
            go_wp2
            go_ret
            exact ⟨by rw [HY.out ⟨HE2.out, .inr (.inr ⟨G1.out, rfl⟩)⟩]; rfl, HO.out⟩
          · have HB0 : Hid (¬ Bars L c l j) := fun hb => by rcases hb.2 with h | h | h <;> have := G1.out <;> omega
            have b9 : (l == 3) = false := by simpa using a
            go_wp2
            refine ⟨⟨j + 1, hlt, rfl, by trivial, HNx.out HB0.out⟩, ?_⟩
            simp only [intOf]; omega
        · have HB0 : Hid (¬ Bars L c l j) := fun hb => by rcases hb.2 with h | h | h <;> omega
          have b3 : (gt L j == 3) = false := by simpa using g3
          have b2 : (gt L j == 2) = false := by simpa using g2
          have b1 : (gt L j == 1) = false := by simpa using g1
          go_wp2
          refine ⟨⟨j + 1, hlt, rfl, by trivial, HNx.out HB0.out⟩, ?_⟩
          simp only [intOf]; omega
    · obtain rfl : j = 8 := by omega
      go_wp2
      go_ret
      exact ⟨by rw [HF.out.2 HNo.out]; rfl, HO.out⟩
end Go.Proofs.Ythenbbpfbkmhnaa
