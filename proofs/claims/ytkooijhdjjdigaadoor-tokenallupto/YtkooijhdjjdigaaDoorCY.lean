/- The program's own written: a token as it stands in a text. -/
import Derived.Test.YtkooijhdjjdigaaDoorCX
import Derived.Test.YtkooijhdjjdigaaDoorCK
import Derived.Laws.Concat
namespace Go.Proofs.YtkooijhdjjdigaaDoor
open Go.ChangeShapes Go.WideShapes Go.ChangeAt Go.RowKit Go.Shelf
set_option linter.unusedVariables false

theorem wr3 (t : List UInt8) : (⟨#[39]⟩ : ByteArray) ++ ⟨(esc t).toArray⟩ ++ ⟨#[39]⟩ = ⟨(wrP 3 t).toArray⟩ := by
  rw [show (⟨#[39]⟩ : ByteArray) = ⟨([39] : List UInt8).toArray⟩ from rfl, app_bytes, app_bytes]; rfl
theorem wr4 (t : List UInt8) : (⟨#[120, 39]⟩ : ByteArray) ++ ⟨(hexs t).toArray⟩ ++ ⟨#[39]⟩ = ⟨(wrP 4 t).toArray⟩ := by
  rw [show (⟨#[39]⟩ : ByteArray) = ⟨([39] : List UInt8).toArray⟩ from rfl, show (⟨#[120, 39]⟩ : ByteArray) = ⟨([120, 39] : List UInt8).toArray⟩ from rfl, app_bytes, app_bytes]; rfl
theorem wr5 (T : ByteArray) : (⟨#[63]⟩ : ByteArray) ++ T = ⟨(wrP 5 T.data.toList).toArray⟩ := by
  rw [ba_eq (s := T) rfl, show (⟨#[63]⟩ : ByteArray) = ⟨([63] : List UInt8).toArray⟩ from rfl, app_bytes]; rfl
set_option maxRecDepth 10000 in
theorem cwritten_e (k a : Int) (T : ByteArray) (hs : T.size ≤ 4294967280) (w : World) (hE : Env w) :
    Calls Tryd.prog 35 #[.agg #[.int .i64 k, .int .i64 a, .string T]] w fun e w' => e = .returned (.string ⟨(wrP k T.data.toList).toArray⟩) ∧ Below w.heap.size w w' := by
  have hb := below_alloc w (.cells #[.int .i64 k, .int .i64 a, .string T] 39)
  have HB0 := hide hb
  by_cases k3 : k = 3
  · subst k3
    obtain ⟨m, hm⟩ := hE.below hb
    have hcm := Lib.countB_mul_le ⟨#[39]⟩ (by decide) T.size T (Nat.le_refl _)
    have s2 : (⟨#[39, 39]⟩ : ByteArray).size = 2 := rfl
    have s1 : (⟨#[39]⟩ : ByteArray).size = 1 := rfl
    rw [s1] at hcm
    have HR := hide (Tryd.strings_ReplaceAll T ⟨#[39]⟩ ⟨#[39, 39]⟩ m _ (by omega) hm (by decide) (by rw [s2]; omega))
    have e4 : Lib.replaceAll T.data.toList (⟨#[39]⟩ : ByteArray).data.toList (⟨#[39, 39]⟩ : ByteArray).data.toList = esc T.data.toList := esc_eq _
    rw [e4] at HR
    have HW := hide (wr3 T.data.toList)
    have hel := esc_length T.data.toList
    have htl : T.data.toList.length = T.size := by simp
    have b1 : ¬ 9223372036854775807 < 1 + (esc T.data.toList).length := by omega
    have b2 : ¬ 9223372036854775807 < 1 + (esc T.data.toList).length + 1 := by omega
    clear hel htl
    clear e4 hcm s1 s2 hb
    go_enter Tryd.func35, Tryd.ntmps35
    go_wp2_with (first
      | (go_at_call 55; (with_reducible refine Calls.mono HR.out ?_); rintro e w5 ⟨rfl, hb⟩; have HB := hide (below_trans HB0.out hb); clear hb))
    go_ret
    exact ⟨congrArg (fun x => Ending.returned (.string x)) HW.out, HB.out⟩
  have e3 : (k == 3) = false := by simpa using k3
  by_cases k4 : k = 4
  · subst k4
    have HX := hide (hex_e T hs)
    have HW := hide (wr4 T.data.toList)
    have hel := hexs_length T.data.toList
    have htl : T.data.toList.length = T.size := by simp
    have b1 : ¬ 9223372036854775807 < 2 + (hexs T.data.toList).length := by omega
    have b2 : ¬ 9223372036854775807 < 2 + (hexs T.data.toList).length + 1 := by omega
    clear hel htl
    clear hb
    go_enter Tryd.func35, Tryd.ntmps35
    go_wp2_with (first
      | (go_at_call 56; (with_reducible refine Calls.mono (HX.out _) ?_); rintro e w5 ⟨rfl, hb⟩; have HB := hide (below_trans HB0.out hb); clear hb))
    go_ret
    exact ⟨congrArg (fun x => Ending.returned (.string x)) HW.out, HB.out⟩
  have e4 : (k == 4) = false := by simpa using k4
  by_cases k5 : k = 5
  · subst k5
    have HW := hide (wr5 T)
    clear hb
    go_enter Tryd.func35, Tryd.ntmps35
    go_wp2
    go_ret
    exact ⟨congrArg (fun x => Ending.returned (.string x)) HW.out, HB0.out⟩
  have e5 : (k == 5) = false := by simpa using k5
  have HW : Hid (T = ⟨(wrP k T.data.toList).toArray⟩) := by
    show _ = _
    unfold wrP bare
    rw [if_neg k3, if_neg k4, if_neg k5]
  clear hb
  go_enter Tryd.func35, Tryd.ntmps35
  go_wp2
  go_ret
  exact ⟨congrArg (fun x => Ending.returned (.string x)) HW.out, HB0.out⟩
end Go.Proofs.YtkooijhdjjdigaaDoor
