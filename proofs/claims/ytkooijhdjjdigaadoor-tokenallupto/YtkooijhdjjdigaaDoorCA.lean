/- The program's own bytes: blanks, digits, letters, words, the digits to the base 16, signs. -/
import Derived.Test.YtkooijhdjjdigaaDoorKD
namespace Go.Proofs.YtkooijhdjjdigaaDoor
open Go.ChangeShapes Go.WideShapes Go.ChangeAt Go.RowKit
set_option linter.unusedVariables false

/-- A function tells of each byte what B says. -/
def Tells (g : Nat) (B : UInt8 → Bool) : Prop := ∀ (c : UInt8) (w : World), Calls Tryd.prog g #[.int .u8 (c.toNat : Int)] w fun e w' => e = .returned (.bool (B c)) ∧ w = w'
def capB (b : UInt8) : UInt8 := if 97 ≤ b.toNat ∧ b.toNat ≤ 122 then b - 32 else b
theorem capB_nat (c : UInt8) : (capB c).toNat = if 97 ≤ c.toNat ∧ c.toNat ≤ 122 then c.toNat - 32 else c.toNat := by
  unfold capB
  split
  · rw [UInt8.toNat_sub_of_le]
    · rfl
    · rw [UInt8.le_iff_toNat_le]; simp; omega
  · rfl
theorem cblank : Tells 61 blkB := by
  intro c w
  have hlt := c.toNat_lt
  unfold blkB
  obtain ⟨q, hq⟩ : ∃ q, c.toNat = q := ⟨_, rfl⟩
  rw [hq] at hlt ⊢
  clear hq
  go_enter Tryd.func61, Tryd.ntmps61
  go_wp2
  all_goals
    go_ret
    refine ⟨?_, rfl⟩
    first | (simp; done) | (simp at *; done) | (simp at *; omega) | (simp at *; rw [Bool.eq_iff_iff]; simp; omega)
theorem cdigit : Tells 74 digB := by
  intro c w
  have hlt := c.toNat_lt
  unfold digB
  obtain ⟨q, hq⟩ : ∃ q, c.toNat = q := ⟨_, rfl⟩
  rw [hq] at hlt ⊢
  clear hq
  go_enter Tryd.func74, Tryd.ntmps74
  go_wp2
  all_goals
    go_ret
    refine ⟨?_, rfl⟩
    first | (simp; done) | (simp at *; done) | (simp at *; omega) | (simp at *; rw [Bool.eq_iff_iff]; simp; omega)
theorem csmall (c : UInt8) (w : World) : Calls Tryd.prog 82 #[.int .u8 (c.toNat : Int)] w fun e w' => e = .returned (.int .u8 ((lowB c).toNat : Int)) ∧ w = w' := by
  have hlt := c.toNat_lt
  rw [lowB_nat]
  obtain ⟨q, hq⟩ : ∃ q, c.toNat = q := ⟨_, rfl⟩
  rw [hq] at hlt ⊢
  clear hq
  go_enter Tryd.func82, Tryd.ntmps82
  go_wp2
  all_goals
    go_ret
    refine ⟨?_, rfl⟩
    first | (simp; done) | (simp at *; done) | (simp at *; omega) | (simp at *; try (rw [if_pos (by omega)]); try (rw [if_neg (by omega)]); try omega)
theorem ccapital (c : UInt8) (w : World) : Calls Tryd.prog 29 #[.int .u8 (c.toNat : Int)] w fun e w' => e = .returned (.int .u8 ((capB c).toNat : Int)) ∧ w = w' := by
  have hlt := c.toNat_lt
  rw [capB_nat]
  obtain ⟨q, hq⟩ : ∃ q, c.toNat = q := ⟨_, rfl⟩
  rw [hq] at hlt ⊢
  clear hq
  go_enter Tryd.func29, Tryd.ntmps29
  go_wp2
  all_goals
    go_ret
    refine ⟨?_, rfl⟩
    first | (simp; done) | (simp at *; done) | (simp at *; omega) | (simp at *; try (rw [if_pos (by omega)]); try (rw [if_neg (by omega)]); try omega)
theorem cnot10 : Tells 64 (fun c => c.toNat != 10) := by
  intro c w
  have hlt := c.toNat_lt
  obtain ⟨q, hq⟩ : ∃ q, c.toNat = q := ⟨_, rfl⟩
  simp only [hq]
  clear hq
  go_enter Tryd.func64, Tryd.ntmps64
  go_wp2
  all_goals
    go_ret
    refine ⟨?_, rfl⟩
    first | (simp; done) | (simp at *; done) | (simp at *; omega) | (simp at *; rw [Bool.eq_iff_iff]; simp; omega)
theorem cletter : Tells 83 letB := by
  intro c w
  have hlt := c.toNat_lt
  have HS : Hid (∀ V, Calls Tryd.prog 82 #[.int .u8 (c.toNat : Int)] V fun e w' => e = .returned (.int .u8 ((lowB c).toNat : Int)) ∧ V = w') := fun V => csmall c V
  have hl := lowB_nat c
  unfold letB
  obtain ⟨p, hp⟩ : ∃ p, (lowB c).toNat = p := ⟨_, rfl⟩
  obtain ⟨q, hq⟩ : ∃ q, c.toNat = q := ⟨_, rfl⟩
  rw [hp, hq] at hl
  rw [hp, hq] at HS
  rw [hq] at hlt ⊢
  have HL := hide hl
  clear hq hp hl
  go_enter Tryd.func83, Tryd.ntmps83
  go_wp2_with (first
    | (go_at_call 82; (with_reducible refine Calls.mono (HS.out _) ?_); rintro e w5 ⟨rfl, rfl⟩))
  all_goals
    go_ret
    refine ⟨?_, rfl⟩
    have hl := HL.out
    split at hl
    all_goals first | (simp; omega) | (simp at *; omega) | (simp at *; rw [Bool.eq_iff_iff]; simp; omega)
theorem cword : Tells 85 (fun c => letB c || digB c) := by
  intro c w
  have HL : Hid (∀ V, Calls Tryd.prog 83 #[.int .u8 (c.toNat : Int)] V fun e w' => e = .returned (.bool (letB c)) ∧ V = w') := fun V => cletter c V
  have HD : Hid (∀ V, Calls Tryd.prog 74 #[.int .u8 (c.toNat : Int)] V fun e w' => e = .returned (.bool (digB c)) ∧ V = w') := fun V => cdigit c V
  show Calls _ _ _ _ fun e w' => e = .returned (.bool (letB c || digB c)) ∧ w = w'
  obtain ⟨q, hq⟩ : ∃ q, c.toNat = q := ⟨_, rfl⟩
  rw [hq] at HL HD ⊢
  generalize letB c = x at *
  generalize digB c = y at *
  go_enter Tryd.func85, Tryd.ntmps85
  cases x <;> cases y
  all_goals
    go_wp2_with (first
      | (go_at_call 83; (with_reducible refine Calls.mono (HL.out _) ?_); rintro e w5 ⟨rfl, rfl⟩)
      | (go_at_call 74; (with_reducible refine Calls.mono (HD.out _) ?_); rintro e w5 ⟨rfl, rfl⟩))
    go_ret
    refine ⟨?_, rfl⟩
    simp
theorem chex : Tells 86 hexB := by
  intro c w
  have hlt := c.toNat_lt
  have HS : Hid (∀ V, Calls Tryd.prog 82 #[.int .u8 (c.toNat : Int)] V fun e w' => e = .returned (.int .u8 ((lowB c).toNat : Int)) ∧ V = w') := fun V => csmall c V
  have HD : Hid (∀ V, Calls Tryd.prog 74 #[.int .u8 ((lowB c).toNat : Int)] V fun e w' => e = .returned (.bool (digB (lowB c))) ∧ V = w') := fun V => cdigit (lowB c) V
  have hl := lowB_nat c
  unfold hexB
  have hd : digB (lowB c) = decide (48 ≤ (lowB c).toNat ∧ (lowB c).toNat ≤ 57) := rfl
  rw [hd] at HD
  clear hd
  obtain ⟨p, hp⟩ : ∃ p, (lowB c).toNat = p := ⟨_, rfl⟩
  obtain ⟨q, hq⟩ : ∃ q, c.toNat = q := ⟨_, rfl⟩
  rw [hp, hq] at hl
  rw [hp, hq] at HS
  rw [hp] at HD
  rw [hq] at hlt ⊢
  have HL := hide hl
  clear hq hp hl
  by_cases hdd : 48 ≤ p ∧ p ≤ 57
  · rw [decide_eq_true hdd] at HD
    have HDD := hide hdd
    clear hdd
    go_enter Tryd.func86, Tryd.ntmps86
    go_wp2_with (first
      | (go_at_call 82; (with_reducible refine Calls.mono (HS.out _) ?_); rintro e w5 ⟨rfl, rfl⟩)
      | (go_at_call 74; (with_reducible refine Calls.mono (HD.out _) ?_); rintro e w5 ⟨rfl, rfl⟩))
    all_goals
      go_ret
      refine ⟨?_, rfl⟩
      have hl := HL.out
      have hdd := HDD.out
      split at hl
      all_goals first | (simp; omega) | (simp at *; omega) | (simp at *; rw [Bool.eq_iff_iff]; simp; omega)
  · rw [decide_eq_false hdd] at HD
    have HDD := hide hdd
    clear hdd
    go_enter Tryd.func86, Tryd.ntmps86
    go_wp2_with (first
      | (go_at_call 82; (with_reducible refine Calls.mono (HS.out _) ?_); rintro e w5 ⟨rfl, rfl⟩)
      | (go_at_call 74; (with_reducible refine Calls.mono (HD.out _) ?_); rintro e w5 ⟨rfl, rfl⟩))
    all_goals
      go_ret
      refine ⟨?_, rfl⟩
      have hl := HL.out
      have hdd := HDD.out
      split at hl
      all_goals first | (simp; omega) | (simp at *; omega) | (simp at *; rw [Bool.eq_iff_iff]; simp; omega)
theorem sinB_of (c : UInt8) : sinB c = decide (c.toNat = 40 ∨ c.toNat = 41 ∨ c.toNat = 44 ∨ c.toNat = 59 ∨ c.toNat = 46 ∨ c.toNat = 42 ∨ c.toNat = 43 ∨ c.toNat = 45 ∨ c.toNat = 47 ∨ c.toNat = 37 ∨ c.toNat = 61 ∨ c.toNat = 60 ∨ c.toNat = 62) := by
  unfold sinB
  rw [Bool.eq_iff_iff]
  simp [← UInt8.toNat_inj]
theorem csign : Tells 88 sinB := by
  intro c w
  have hlt := c.toNat_lt
  rw [sinB_of]
  obtain ⟨q, hq⟩ : ∃ q, c.toNat = q := ⟨_, rfl⟩
  rw [hq] at hlt ⊢
  clear hq
  go_enter Tryd.func88, Tryd.ntmps88
  go_wp2
  all_goals
    go_ret
    refine ⟨?_, rfl⟩
    first | (simp; done) | (simp at *; done) | (simp at *; omega) | (simp at *; rw [Bool.eq_iff_iff]; simp; omega)
end Go.Proofs.YtkooijhdjjdigaaDoor
