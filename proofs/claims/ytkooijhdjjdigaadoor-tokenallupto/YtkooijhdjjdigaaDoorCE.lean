/- The program's own sizes of words, texts, blobs, parameters, signs. -/
import Derived.Test.YtkooijhdjjdigaaDoorCC
namespace Go.Proofs.YtkooijhdjjdigaaDoor
open Go.ChangeShapes Go.WideShapes Go.ChangeAt Go.RowKit Go.Shelf
set_option linter.unusedVariables false

theorem ba_nil (s : ByteArray) (h : s.size = 0) : s.toList = [] ∧ s.toList.isEmpty = true := by
  rw [ByteArray.toList_eq]
  have : s.data.toList = [] := List.length_eq_zero_iff.1 (by simpa using h)
  rw [this]; exact ⟨rfl, rfl⟩
theorem ba_some (s : ByteArray) (h : s.size ≠ 0) : ¬ s.toList = [] ∧ s.toList.isEmpty = false := by
  rw [ByteArray.toList_eq]
  have : s.data.toList ≠ [] := fun e => h (by have := congrArg List.length e; simpa using this)
  exact ⟨this, by simpa using this⟩
theorem word_e (s : ByteArray) (hs : s.size ≤ 140737488355328) (w : World) :
    Calls Tryd.prog 69 #[.string s] w fun e w' => e = .returned (.int .i64 (siz 1 s.data.toList : Int)) ∧ w = w' := by
  by_cases h0 : s.size = 0
  · obtain ⟨e0, e00⟩ := ba_nil s h0
    have : s.data.toList = [] := List.length_eq_zero_iff.1 (by simpa using h0)
    have e1 : siz 1 s.data.toList = 0 := by rw [this]; rfl
    rw [e1]
    clear this e1
    go_enter Tryd.func69, Tryd.ntmps69
    go_wp2
    go_ret
    exact ⟨rfl, rfl⟩
  obtain ⟨e0, e00⟩ := ba_some s h0
  have hpos : 0 < s.size := by omega
  have l0 : (0 : Int) < (s.size : Int) := by omega
  obtain ⟨c, hc⟩ : ∃ c : UInt8, s[0]'hpos = c := ⟨_, rfl⟩
  have hdr := drop_next s 0 hpos
  rw [hc, List.drop_zero] at hdr
  obtain ⟨q, hq⟩ : ∃ q, c.toNat = q := ⟨_, rfl⟩
  have hb : ∀ (h : 0 < s.size), ((s[0]'h).toNat : Int) = (q : Int) := fun h => by rw [hc, hq]
  have HRn := hide (run_e s hs _ _ leads_word cword)
  cases hL : letB c
  · have HL : Hid (∀ V, Calls Tryd.prog 83 #[.int .u8 (q : Int)] V fun e w' => e = .returned (.bool false) ∧ V = w') := fun V => by rw [← hL, ← hq]; exact cletter c V
    have e1 : siz 1 s.data.toList = 0 := by rw [hdr]; simp [siz, hL]
    rw [e1]
    clear e1 hL hq hdr hc HRn
    go_enter Tryd.func69, Tryd.ntmps69
    go_wp2_with (first
      | (go_at_call 83; (with_reducible refine Calls.mono (HL.out _) ?_); rintro e w5 ⟨rfl, rfl⟩))
    go_ret
    exact ⟨rfl, rfl⟩
  · have HL : Hid (∀ V, Calls Tryd.prog 83 #[.int .u8 (q : Int)] V fun e w' => e = .returned (.bool true) ∧ V = w') := fun V => by rw [← hL, ← hq]; exact cletter c V
    have e1 : siz 1 s.data.toList = rn (fun c => letB c || digB c) s.data.toList := by rw [hdr]; simp [siz, hL]
    rw [e1]
    clear e1 hL hq hdr hc
    generalize rn (fun c => letB c || digB c) s.data.toList = m at *
    go_enter Tryd.func69, Tryd.ntmps69
    go_wp2_with (first
      | (go_at_call 83; (with_reducible refine Calls.mono (HL.out _) ?_); rintro e w5 ⟨rfl, rfl⟩)
      | (go_at_call 63; (with_reducible refine Calls.mono (HRn.out _) ?_); rintro e w5 ⟨rfl, rfl⟩))
    go_ret
    exact ⟨rfl, rfl⟩
theorem param_e (s : ByteArray) (hs : s.size ≤ 140737488355328) (h1 : 1 ≤ s.size) (w : World) :
    Calls Tryd.prog 72 #[.string s] w fun e w' => e = .returned (.int .i64 (siz 5 s.data.toList : Int)) ∧ w = w' := by
  have l1 : (1 : Int) ≤ (s.size : Int) := by omega
  have e1 : siz 5 s.data.toList = 1 + dgs (s.data.toList.drop 1) := rfl
  have HD := hide (digits_e (s.extract 1 s.size) (by simp; omega))
  rw [ext_drop] at HD
  have hle := dgs_le (s.data.toList.drop 1)
  simp only [List.length_drop, Array.length_toList, ByteArray.size_data] at hle
  rw [e1]
  clear e1
  generalize dgs (s.data.toList.drop 1) = m at *
  have hw : IntKind.i64.wrap (1 + (m : Int)) = ((1 + m : Nat) : Int) := by rw [IntKind.wrap_i64]; omega
  go_enter Tryd.func72, Tryd.ntmps72
  go_wp2_with (first
    | (go_at_call 53; (with_reducible refine Calls.mono (HD.out _) ?_); rintro e w5 ⟨rfl, rfl⟩))
  go_ret
  exact ⟨rfl, rfl⟩
theorem blob_size (s : ByteArray) (hs : s.size ≤ 140737488355328) (h1 : 2 ≤ s.size) (w : World) :
    Calls Tryd.prog 71 #[.string s] w fun e w' => e = .returned (.int .i64 (siz 4 s.data.toList : Int)) ∧ w = w' := by
  have l1 : (2 : Int) ≤ (s.size : Int) := by omega
  have e1 : siz 4 s.data.toList = (match blo false (s.data.toList.drop 2) with | some n => n + 2 | none => 0) := rfl
  rw [blo_rn] at e1
  have HR := hide (run_e (s.extract 2 s.size) (by simp; omega) _ _ leads_hex chex)
  rw [ext_drop] at HR
  have hle := rn_le hexB (s.data.toList.drop 2)
  simp only [List.length_drop, Array.length_toList, ByteArray.size_data] at hle
  rw [List.drop_drop] at e1
  generalize rn hexB (s.data.toList.drop 2) = m at *
  have hw : IntKind.i64.wrap (2 + (m : Int)) = ((2 + m : Nat) : Int) := by rw [IntKind.wrap_i64]; omega
  have hw2 : IntKind.i64.wrap (((2 + m : Nat) : Int) + 1) = ((2 + m + 1 : Nat) : Int) := by rw [IntKind.wrap_i64]; omega
  have l0 : (0 : Int) ≤ ((2 + m : Nat) : Int) := by omega
  have l2 : ((2 + m : Nat) : Int) ≤ (s.size : Int) := by omega
  obtain ⟨R, hR⟩ : ∃ R, siz 4 s.data.toList = R := ⟨_, rfl⟩
  rw [hR] at e1 ⊢
  by_cases hodd : m % 2 = 1
  · have hm : Int.tmod (m : Int) 2 = 1 := by rw [Int.tmod_eq_emod_of_nonneg (by omega)]; omega
    rw [if_pos (by simpa using hodd)] at e1
    subst e1
    clear hodd
    go_enter Tryd.func71, Tryd.ntmps71
    go_wp2_with (first
      | (go_at_call 63; (with_reducible refine Calls.mono (HR.out _) ?_); rintro e w5 ⟨rfl, rfl⟩))
    go_ret
    exact ⟨rfl, rfl⟩
  have hm : Int.tmod (m : Int) 2 = 0 := by rw [Int.tmod_eq_emod_of_nonneg (by omega)]; omega
  rw [if_neg (by simpa using hodd)] at e1
  have HP := hide (fun V => Tryd.strings_HasPrefix (s.extract (2 + m) s.size) ⟨#[39]⟩ V)
  have e2 : Lib.hasPrefix (s.extract (2 + m) s.size).data.toList (⟨#[39]⟩ : ByteArray).data.toList = decide ((s.data.toList.drop (2 + m)).head?.map UInt8.toNat = some 39) := by
    rw [ext_drop]
    cases s.data.toList.drop (2 + m) with
    | nil => rfl
    | cons c r => rw [pre_one]; simp
  rw [e2] at HP
  clear e2
  by_cases hq : (s.data.toList.drop (2 + m)).head?.map UInt8.toNat = some 39
  · rw [decide_eq_true hq] at HP
    rw [if_pos hq] at e1
    have e1 : R = 2 + m + 1 := by simp at e1; omega
    subst e1
    clear hq hodd
    go_enter Tryd.func71, Tryd.ntmps71
    go_wp2_with (first
      | (go_at_call 63; (with_reducible refine Calls.mono (HR.out _) ?_); rintro e w5 ⟨rfl, rfl⟩)
      | (go_at_call 62; (with_reducible refine Calls.mono (HP.out _) ?_); rintro e w5 ⟨rfl, rfl⟩))
    go_ret
    exact ⟨rfl, rfl⟩
  · rw [decide_eq_false hq] at HP
    rw [if_neg hq] at e1
    subst e1
    clear hq hodd
    go_enter Tryd.func71, Tryd.ntmps71
    go_wp2_with (first
      | (go_at_call 63; (with_reducible refine Calls.mono (HR.out _) ?_); rintro e w5 ⟨rfl, rfl⟩)
      | (go_at_call 62; (with_reducible refine Calls.mono (HP.out _) ?_); rintro e w5 ⟨rfl, rfl⟩))
    go_ret
    exact ⟨rfl, rfl⟩
end Go.Proofs.YtkooijhdjjdigaaDoor
