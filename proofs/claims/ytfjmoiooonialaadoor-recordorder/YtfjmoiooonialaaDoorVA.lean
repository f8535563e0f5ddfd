/- How values stand: Compare, bytes, texts. -/
import Derived.Test.YtfjmoiooonialaaDoorVM
import Derived.Test.YtfjmoiooonialaaDoorPC
namespace Go.Proofs.YtfjmoiooonialaaDoor
open Go.ChangeShapes Go.WideShapes Go.ChangeAt Go.RowKit
set_option linter.unusedVariables false

theorem nan_byte (x : Int) (w : World) : Calls Tryd.prog 57 #[.int .u8 x] w fun e w' => e = .returned (.bool false) ∧ w = w' := by
  go_enter Tryd.func57, Tryd.ntmps57
  go_wp2
  go_ret
  exact ⟨by simp, rfl⟩
theorem compare_byte (x y : Int) (w : World) : Calls Tryd.prog 52 #[.int .u8 x, .int .u8 y] w fun e w' => e = .returned (.int .i64 (cmpI x y)) ∧ w = w' := by
  unfold cmpI
  by_cases h : x < y
  · rw [if_pos h]
    go_enter Tryd.func52, Tryd.ntmps52
    go_wp2_with (go_at_call 57; with_reducible refine Calls.mono (nan_byte _ _) ?_; rintro e w1 ⟨rfl, rfl⟩)
    go_ret
    exact ⟨rfl, rfl⟩
  · rw [if_neg h]
    by_cases h2 : y < x
    · rw [if_pos h2]
      go_enter Tryd.func52, Tryd.ntmps52
      go_wp2_with (go_at_call 57; with_reducible refine Calls.mono (nan_byte _ _) ?_; rintro e w1 ⟨rfl, rfl⟩)
      go_ret
      exact ⟨rfl, rfl⟩
    · rw [if_neg h2]
      go_enter Tryd.func52, Tryd.ntmps52
      go_wp2_with (go_at_call 57; with_reducible refine Calls.mono (nan_byte _ _) ?_; rintro e w1 ⟨rfl, rfl⟩)
      go_ret
      exact ⟨rfl, rfl⟩
theorem nan_int (x : Int) (w : World) : Calls Tryd.prog 31 #[.int .i64 x] w fun e w' => e = .returned (.bool false) ∧ w = w' := by
  go_enter Tryd.func31, Tryd.ntmps31
  go_wp2
  go_ret
  exact ⟨by simp, rfl⟩
theorem compare_int (x y : Int) (w : World) : Calls Tryd.prog 17 #[.int .i64 x, .int .i64 y] w fun e w' => e = .returned (.int .i64 (cmpI x y)) ∧ w = w' := by
  unfold cmpI
  by_cases h : x < y
  · rw [if_pos h]
    go_enter Tryd.func17, Tryd.ntmps17
    go_wp2_with (go_at_call 31; with_reducible refine Calls.mono (nan_int _ _) ?_; rintro e w1 ⟨rfl, rfl⟩)
    go_ret
    exact ⟨rfl, rfl⟩
  · rw [if_neg h]
    by_cases h2 : y < x
    · rw [if_pos h2]
      go_enter Tryd.func17, Tryd.ntmps17
      go_wp2_with (go_at_call 31; with_reducible refine Calls.mono (nan_int _ _) ?_; rintro e w1 ⟨rfl, rfl⟩)
      go_ret
      exact ⟨rfl, rfl⟩
    · rw [if_neg h2]
      go_enter Tryd.func17, Tryd.ntmps17
      go_wp2_with (go_at_call 31; with_reducible refine Calls.mono (nan_int _ _) ?_; rintro e w1 ⟨rfl, rfl⟩)
      go_ret
      exact ⟨rfl, rfl⟩
theorem nan_kind (x : Int) (w : World) : Calls Tryd.prog 46 #[.int .i64 x] w fun e w' => e = .returned (.bool false) ∧ w = w' := by
  go_enter Tryd.func46, Tryd.ntmps46
  go_wp2
  go_ret
  exact ⟨by simp, rfl⟩
theorem compare_kind (x y : Int) (w : World) : Calls Tryd.prog 40 #[.int .i64 x, .int .i64 y] w fun e w' => e = .returned (.int .i64 (cmpI x y)) ∧ w = w' := by
  unfold cmpI
  by_cases h : x < y
  · rw [if_pos h]
    go_enter Tryd.func40, Tryd.ntmps40
    go_wp2_with (go_at_call 46; with_reducible refine Calls.mono (nan_kind _ _) ?_; rintro e w1 ⟨rfl, rfl⟩)
    go_ret
    exact ⟨rfl, rfl⟩
  · rw [if_neg h]
    by_cases h2 : y < x
    · rw [if_pos h2]
      go_enter Tryd.func40, Tryd.ntmps40
      go_wp2_with (go_at_call 46; with_reducible refine Calls.mono (nan_kind _ _) ?_; rintro e w1 ⟨rfl, rfl⟩)
      go_ret
      exact ⟨rfl, rfl⟩
    · rw [if_neg h2]
      go_enter Tryd.func40, Tryd.ntmps40
      go_wp2_with (go_at_call 46; with_reducible refine Calls.mono (nan_kind _ _) ?_; rintro e w1 ⟨rfl, rfl⟩)
      go_ret
      exact ⟨rfl, rfl⟩
theorem nan_i64 (x : Int) (w : World) : Calls Tryd.prog 56 #[.int .i64 x] w fun e w' => e = .returned (.bool false) ∧ w = w' := by
  go_enter Tryd.func56, Tryd.ntmps56
  go_wp2
  go_ret
  exact ⟨by simp, rfl⟩
theorem compare_i64 (x y : Int) (w : World) : Calls Tryd.prog 51 #[.int .i64 x, .int .i64 y] w fun e w' => e = .returned (.int .i64 (cmpI x y)) ∧ w = w' := by
  unfold cmpI
  by_cases h : x < y
  · rw [if_pos h]
    go_enter Tryd.func51, Tryd.ntmps51
    go_wp2_with (go_at_call 56; with_reducible refine Calls.mono (nan_i64 _ _) ?_; rintro e w1 ⟨rfl, rfl⟩)
    go_ret
    exact ⟨rfl, rfl⟩
  · rw [if_neg h]
    by_cases h2 : y < x
    · rw [if_pos h2]
      go_enter Tryd.func51, Tryd.ntmps51
      go_wp2_with (go_at_call 56; with_reducible refine Calls.mono (nan_i64 _ _) ?_; rintro e w1 ⟨rfl, rfl⟩)
      go_ret
      exact ⟨rfl, rfl⟩
    · rw [if_neg h2]
      go_enter Tryd.func51, Tryd.ntmps51
      go_wp2_with (go_at_call 56; with_reducible refine Calls.mono (nan_i64 _ _) ?_; rintro e w1 ⟨rfl, rfl⟩)
      go_ret
      exact ⟨rfl, rfl⟩

theorem asBytes_walk (x y : Int) (w : World) : Calls Tryd.prog 47 #[.int .u8 x, .int .u8 y] w fun e w' => e = .returned (.int .i64 (cmpI x y)) ∧ w = w' := by
  go_enter Tryd.func47, Tryd.ntmps47
  go_wp2_with (go_at_call 52; with_reducible refine Calls.mono (compare_byte _ _ _) ?_; rintro e w1 ⟨rfl, rfl⟩)
  go_ret
  exact ⟨rfl, rfl⟩
theorem lower_walk (b : UInt8) (w : World) : Calls Tryd.prog 55 #[.int .u8 (b.toNat : Int)] w fun e w' => e = .returned (.int .u8 ((lowB b).toNat : Int)) ∧ w = w' := by
  have hl := UInt8.toNat_lt b
  by_cases h : 65 ≤ b.toNat ∧ b.toNat ≤ 90
  · have e1 : (lowB b).toNat = b.toNat + 32 := by
      unfold lowB
      rw [if_pos h, UInt8.toNat_add]
      show (b.toNat + 32) % 256 = _
      omega
    have h1 : (65 : Int) ≤ (b.toNat : Int) := by omega
    have h2 : (b.toNat : Int) ≤ 90 := by omega
    have e2 : ((lowB b).toNat : Int) = (b.toNat : Int) + 32 := by omega
    rw [e2]
    clear e1 e2 hl
    generalize b.toNat = q at h h1 h2 ⊢
    have hw : IntKind.u8.wrap ((q : Int) + 32) = (q : Int) + 32 := by have h1 : ∀ x : Int, IntKind.u8.wrap x = x % 256 := (fun x => by simp [IntKind.wrap, IntKind.signed, IntKind.bits]); rw [h1]; omega
    go_enter Tryd.func55, Tryd.ntmps55
    go_wp2
    go_ret
    refine ⟨?_, rfl⟩
    first | rfl | (congr 2; omega)
  · have e1 : lowB b = b := by unfold lowB; rw [if_neg h]
    rw [e1]
    clear e1 hl
    generalize b.toNat = q at h ⊢
    by_cases h1 : q < 65
    · have i1 : ¬ (65 : Int) ≤ (q : Int) := by omega
      go_enter Tryd.func55, Tryd.ntmps55
      go_wp2
      go_ret
      exact ⟨rfl, rfl⟩
    · have i1 : (65 : Int) ≤ (q : Int) := by omega
      have i2 : ¬ (q : Int) ≤ 90 := by omega
      go_enter Tryd.func55, Tryd.ntmps55
      go_wp2
      go_ret
      exact ⟨rfl, rfl⟩
theorem noCase_walk (x y : UInt8) (w : World) : Calls Tryd.prog 54 #[.int .u8 (x.toNat : Int), .int .u8 (y.toNat : Int)] w fun e w' => e = .returned (.int .i64 (cmpI (lowB x).toNat (lowB y).toNat)) ∧ w = w' := by
  go_enter Tryd.func54, Tryd.ntmps54
  go_wp2_with (first
    | (go_at_call 55; with_reducible refine Calls.mono (lower_walk _ _) ?_; rintro e w1 ⟨rfl, rfl⟩)
    | (go_at_call 47; with_reducible refine Calls.mono (asBytes_walk _ _ _) ?_; rintro e w1 ⟨rfl, rfl⟩))
  go_ret
  exact ⟨rfl, rfl⟩

theorem byte_at (t : ByteArray) (k : Nat) (h : k < t.size) : t.data.toList.drop k = (t[k]'h) :: t.data.toList.drop (k + 1) := by
  rw [List.drop_eq_getElem_cons (by simpa using h)]
  rfl
theorem cmpL_cons (x y : UInt8) (xs ys : List UInt8) : cmpL (x :: xs) (y :: ys) = if cmpI x.toNat y.toNat = 0 then cmpL xs ys else cmpI x.toNat y.toNat := by
  have e : cmpI x.toNat y.toNat = if x.toNat < y.toNat then -1 else if y.toNat < x.toNat then 1 else 0 := by unfold cmpI; simp only [Int.ofNat_lt]
  rw [e]
  simp only [cmpL]
  by_cases h : x.toNat < y.toNat
  · simp [h]
  · by_cases h2 : y.toNat < x.toNat
    · simp [h, h2]
    · simp [h, h2]
theorem cmpL_end (a b : List UInt8) (h : a = [] ∨ b = []) : cmpL a b = cmpI a.length b.length := by
  rcases h with rfl | rfl
  · cases b with
    | nil => rfl
    | cons _ _ => simp only [cmpL, cmpI, List.length_nil, List.length_cons]; rw [if_pos (by omega)]
  · cases a with
    | nil => rfl
    | cons _ _ => simp only [cmpL, cmpI, List.length_nil, List.length_cons]; rw [if_neg (by omega), if_pos (by omega)]
end Go.Proofs.YtfjmoiooonialaaDoor
