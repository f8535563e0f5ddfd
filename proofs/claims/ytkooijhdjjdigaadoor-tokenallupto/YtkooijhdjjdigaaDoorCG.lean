/- The kind that a token begins; what a digit to the base 16 stands for. -/
import Derived.Test.YtkooijhdjjdigaaDoorCF
namespace Go.Proofs.YtkooijhdjjdigaaDoor
open Go.ChangeShapes Go.WideShapes Go.ChangeAt Go.RowKit Go.Shelf
set_option linter.unusedVariables false

set_option maxRecDepth 10000 in
theorem begun_e (s : ByteArray) (hs : s.size ≤ 140737488355328) (h1 : 0 < s.size) (w : World) :
    Calls Tryd.prog 65 #[.string s] w fun e w' => e = .returned (.int .i64 (bgn s.data.toList : Int)) ∧ w = w' := by
  have l0 : (0 : Int) < (s.size : Int) := by omega
  have l1 : (1 : Int) ≤ (s.size : Int) := by omega
  have hp63 : ∀ (h : 0 < (⟨#[63]⟩ : ByteArray).size), (((⟨#[63]⟩ : ByteArray)[0]'h).toNat : Int) = 63 := fun h => rfl
  cases hl : s.data.toList with
  | nil => exfalso; have hlen : s.data.toList.length = s.size := (by simp); rw [hl] at hlen; simp at hlen; omega
  | cons c r =>
    obtain ⟨q, hq⟩ : ∃ q, c.toNat = q := ⟨_, rfl⟩
    have hb : ∀ (h : 0 < s.size), ((s[0]'h).toNat : Int) = (q : Int) := fun h => by
      have := drop_next s 0 h1
      rw [List.drop_zero, hl] at this
      rw [← (List.cons.inj this).1, hq]
    have hd : s.data.toList.drop 1 = r := by rw [hl]; rfl
    have HP := hide (fun V => Tryd.strings_HasPrefix (s.extract 1 s.size) ⟨#[39]⟩ V)
    have e2 : Lib.hasPrefix (s.extract 1 s.size).data.toList (⟨#[39]⟩ : ByteArray).data.toList = decide (r.head?.map UInt8.toNat = some 39) := by
      rw [ext_drop, hd]
      cases r with
      | nil => rfl
      | cons c r => rw [pre_one]; simp
    rw [e2] at HP
    have HL := hide (csmall c)
    have HT := hide (cletter c)
    have HD := hide (cdigit c)
    simp only [bgn]
    rw [hq] at HL HT HD ⊢
    generalize (lowB c).toNat = p at *
    generalize letB c = bl at *
    generalize digB c = bd at *
    clear e2 hd hl hq
    by_cases k39 : q = 39
    · have e39 : ((q : Int) == 39) = true := by simp; omega
      rw [if_pos k39]
      clear k39
      go_enter Tryd.func65, Tryd.ntmps65
      go_wp2
      go_ret
      exact ⟨rfl, rfl⟩
    have e39 : ((q : Int) == 39) = false := by simp; omega
    rw [if_neg k39]
    by_cases k63 : q = 63
    · have e63 : ((q : Int) == 63) = true := by simp; omega
      rw [if_pos k63]
      clear k63 k39
      go_enter Tryd.func65, Tryd.ntmps65
      go_wp2
      go_ret
      exact ⟨rfl, rfl⟩
    have e63 : ((q : Int) == 63) = false := by simp; omega
    rw [if_neg k63]
    by_cases k4 : p = 120 ∧ r.head?.map UInt8.toNat = some 39
    · rw [decide_eq_true k4.2] at HP
      have e120 : ((p : Int) == 120) = true := by simp; omega
      rw [if_pos k4]
      clear k4 k63 k39
      go_enter Tryd.func65, Tryd.ntmps65
      go_wp2_with (first
        | (go_at_call 82; (with_reducible refine Calls.mono (HL.out _) ?_); rintro e w5 ⟨rfl, rfl⟩)
        | (go_at_call 62; (with_reducible refine Calls.mono (HP.out _) ?_); rintro e w5 ⟨rfl, rfl⟩))
      go_ret
      exact ⟨rfl, rfl⟩
    rw [if_neg k4]
    have key : (((p : Int) == 120) = false) ∨ ((((p : Int) == 120) = true) ∧ Hid (∀ V, Calls Tryd.prog 62 #[.string (s.extract 1 s.size), .string ⟨#[39]⟩] V fun e w' => e = .returned (.bool false) ∧ w' = V)) := by
      by_cases hp : p = 120
      · rw [decide_eq_false (fun h => k4 ⟨hp, h⟩)] at HP
        exact .inr ⟨by simp; omega, HP⟩
      · exact .inl (by simp; omega)
    clear k4 k63 k39 HP
    rcases key with e120 | ⟨e120, HP⟩
    · cases bl
      · cases bd
        all_goals
          go_enter Tryd.func65, Tryd.ntmps65
          go_wp2_with (first
            | (go_at_call 82; (with_reducible refine Calls.mono (HL.out _) ?_); rintro e w5 ⟨rfl, rfl⟩)
            | (go_at_call 83; (with_reducible refine Calls.mono (HT.out _) ?_); rintro e w5 ⟨rfl, rfl⟩)
            | (go_at_call 74; (with_reducible refine Calls.mono (HD.out _) ?_); rintro e w5 ⟨rfl, rfl⟩))
          go_ret
          exact ⟨rfl, rfl⟩
      · go_enter Tryd.func65, Tryd.ntmps65
        go_wp2_with (first
          | (go_at_call 82; (with_reducible refine Calls.mono (HL.out _) ?_); rintro e w5 ⟨rfl, rfl⟩)
          | (go_at_call 83; (with_reducible refine Calls.mono (HT.out _) ?_); rintro e w5 ⟨rfl, rfl⟩))
        go_ret
        exact ⟨rfl, rfl⟩
    · cases bl
      · cases bd
        all_goals
          go_enter Tryd.func65, Tryd.ntmps65
          go_wp2_with (first
            | (go_at_call 82; (with_reducible refine Calls.mono (HL.out _) ?_); rintro e w5 ⟨rfl, rfl⟩)
            | (go_at_call 62; (with_reducible refine Calls.mono (HP.out _) ?_); rintro e w5 ⟨rfl, rfl⟩)
            | (go_at_call 83; (with_reducible refine Calls.mono (HT.out _) ?_); rintro e w5 ⟨rfl, rfl⟩)
            | (go_at_call 74; (with_reducible refine Calls.mono (HD.out _) ?_); rintro e w5 ⟨rfl, rfl⟩))
          go_ret
          exact ⟨rfl, rfl⟩
      · go_enter Tryd.func65, Tryd.ntmps65
        go_wp2_with (first
          | (go_at_call 82; (with_reducible refine Calls.mono (HL.out _) ?_); rintro e w5 ⟨rfl, rfl⟩)
          | (go_at_call 62; (with_reducible refine Calls.mono (HP.out _) ?_); rintro e w5 ⟨rfl, rfl⟩)
          | (go_at_call 83; (with_reducible refine Calls.mono (HT.out _) ?_); rintro e w5 ⟨rfl, rfl⟩))
        go_ret
        exact ⟨rfl, rfl⟩
theorem hexval_e (c : UInt8) (v : Nat) (h : nibR (lowB c) = some v) (w : World) :
    Calls Tryd.prog 95 #[.int .u8 (c.toNat : Int)] w fun e w' => e = .returned (.int .u8 (v : Int)) ∧ w = w' := by
  have hlt := c.toNat_lt
  have hl := lowB_nat c
  have HL := hide (csmall c)
  have HD := hide (cdigit c)
  have hd : digB c = decide (48 ≤ c.toNat ∧ c.toNat ≤ 57) := rfl
  rw [hd] at HD
  unfold nibR at h
  obtain ⟨p, hp⟩ : ∃ p, (lowB c).toNat = p := ⟨_, rfl⟩
  obtain ⟨q, hq⟩ : ∃ q, c.toNat = q := ⟨_, rfl⟩
  rw [hp, hq] at hl HL
  rw [hq] at HD hlt ⊢
  rw [hp] at h
  clear hp hq hd
  by_cases hd : 48 ≤ q ∧ q ≤ 57
  · rw [decide_eq_true hd] at HD
    rw [if_neg (by omega)] at hl
    subst hl
    rw [if_pos hd] at h
    obtain rfl : p - 48 = v := Option.some.inj h
    have hw : IntKind.u8.wrap ((p : Int) - 48) = ((p - 48 : Nat) : Int) := by rw [IntKind.wrap_u8]; omega
    have HDD := hide hd
    clear h hd
    go_enter Tryd.func95, Tryd.ntmps95
    go_wp2_with (first
      | (go_at_call 74; (with_reducible refine Calls.mono (HD.out _) ?_); rintro e w5 ⟨rfl, rfl⟩))
    go_ret
    exact ⟨rfl, rfl⟩
  · rw [decide_eq_false hd] at HD
    have hv : 97 ≤ p ∧ v = p - 87 ∧ p ≤ 102 := by
      split at h
      · rename_i h2; split at hl <;> omega
      · split at h
        · rename_i h2; have := Option.some.inj h; omega
        · cases h
    obtain ⟨h97, rfl, h102⟩ := hv
    have hw : IntKind.u8.wrap ((p : Int) - 97) = ((p - 97 : Nat) : Int) := by rw [IntKind.wrap_u8]; omega
    have hw2 : IntKind.u8.wrap (((p - 97 : Nat) : Int) + 10) = ((p - 87 : Nat) : Int) := by rw [IntKind.wrap_u8]; omega
    clear h hd hl h97 h102
    go_enter Tryd.func95, Tryd.ntmps95
    go_wp2_with (first
      | (go_at_call 82; (with_reducible refine Calls.mono (HL.out _) ?_); rintro e w5 ⟨rfl, rfl⟩)
      | (go_at_call 74; (with_reducible refine Calls.mono (HD.out _) ?_); rintro e w5 ⟨rfl, rfl⟩))
    go_ret
    exact ⟨rfl, rfl⟩
end Go.Proofs.YtkooijhdjjdigaaDoor
