/- The document's Written: texts and blobs. -/
/- The document's Written: blobs. -/
import Derived.Test.YtkooijhdjjdigaaDoorKQ
import Derived.Test.YtkooijhdjjdigaaDoorKX
namespace Go.Proofs.YtkooijhdjjdigaaDoor
open Go.ChangeShapes Go.WideShapes Go.ChangeAt Go.RowKit
set_option linter.unusedVariables false

theorem esc_app (l r : List UInt8) : esc (l ++ r) = esc l ++ esc r := by
  induction l with
  | nil => rfl
  | cons c l ih => simp only [List.cons_append, esc, ih]; split <;> simp
theorem hexs_app (l r : List UInt8) : hexs (l ++ r) = hexs l ++ hexs r := by
  induction l with
  | nil => rfl
  | cons c l ih => simp [hexs, ih]
theorem mid_list {e : List UInt8} {O : ByteArray} (h : O = ⟨(39 :: (e ++ [39])).toArray⟩) : O.size = e.length + 2 ∧ (O.extract 1 (O.size - 1)).data.toList = e := by
  have h1 : O.data.toList = 39 :: (e ++ [39]) := by rw [h]
  have h2 : O.size = e.length + 2 := by rw [← size_list, h1]; simp
  refine ⟨h2, ?_⟩
  rw [ext_list, h1, h2]
  simp
set_option maxHeartbeats 2000000 in
set_option maxRecDepth 10000 in
theorem written3 (a : Int) (t : ByteArray) (ht : t.size ≤ 140737488355328) (w : World) :
    Calls Tryd.prog 37 #[.agg #[.int .i64 3, .int .i64 a, .string t]] w fun e w' => e = .returned (.tuple #[.string ⟨(39 :: (esc t.data.toList ++ [39])).toArray⟩, .bool true]) ∧ Below w.heap.size w w' := by
  have HV := hide (fun V h => later_block w (.int .i64 3) (.int .i64 a) (.string t) 39 V h)
  have hlen : t.data.toList.length = t.size := by simp
  obtain ⟨W1, hW1⟩ : ∃ W1, w.alloc (.cells #[.int .i64 3, .int .i64 a, .string t] 39) = W1 := ⟨_, rfl⟩
  have hW1b : Below w.heap.size w W1 := by rw [← hW1]; exact (Below.refl _ _).alloc (Nat.le_refl _) _
  rw [hW1] at HV
  obtain ⟨d0, d1, d2, _⟩ := HV.out W1 (Below.refl _ _)
  have HW := hide hW1b
  clear hW1b
  go_enter Tryd.func37, Tryd.ntmps37
  go_upto_region 1 with fail
  clear hW1
  go_wp2
  go_loopw [5, 6] (fun sv iv wr => ∃ (i : Nat) (A : ByteArray), i ≤ t.size ∧ sv = .string A ∧ iv = .int .i64 (i : Int) ∧ A.data.toList = esc (t.data.toList.take i) ∧ Below W1.heap.size W1 wr) (fun _ iv _ => t.size - (intOf iv).toNat)
  case atStart => exact ⟨0, ⟨#[]⟩, Nat.zero_le _, rfl, rfl, by simp [esc], Below.refl _ _⟩
  case round =>
    obtain ⟨i, A, hi, rfl, rfl, hA, hbel⟩ := hrel
    have HB := hide hbel
    clear hbel d0 d1 d2
    obtain ⟨d0, d1, d2, _⟩ := HV.out wr HB.out
    have hAs : A.size ≤ 2 * i := by
      have := esc_length (t.data.toList.take i)
      rw [← hA, size_list, List.length_take] at this
      omega
    by_cases hlt : i < t.size
    · have l1 : (i : Int) < (t.size : Int) := by omega
      have l0 : (0 : Int) ≤ (i : Int) := by omega
      obtain ⟨j, hj⟩ : ∃ j, i + 1 = j := ⟨_, rfl⟩
      have l2 : (i : Int) ≤ (j : Int) := by omega
      have l3 : (j : Int) ≤ (t.size : Int) := by omega
      have hw1 : IntKind.i64.wrap ((i : Int) + 1) = (j : Int) := by rw [IntKind.wrap_i64]; omega
      obtain ⟨c, hc⟩ : ∃ c : UInt8, t[i]'hlt = c := ⟨_, rfl⟩
      have htn := take_next t i hlt
      rw [hc, hj] at htn
      have hx1 : (t.extract i j).data.toList = [c] := by
        rw [ext_list, htn, List.drop_append_of_le_length (by rw [List.length_take]; omega), List.drop_of_length_le (by rw [List.length_take]; omega)]; rfl
      have hP := fun V => rprint2 (t.extract i j) (by rw [← size_list, hx1]; simp) V
      rw [hx1] at hP
      obtain ⟨O, hO⟩ : ∃ O : ByteArray, O = ⟨(39 :: (esc [c] ++ [39])).toArray⟩ := ⟨_, rfl⟩
      rw [← hO] at hP
      obtain ⟨hO1, hO2⟩ := mid_list hO
      have hel := esc_length [c]
      obtain ⟨PC, hPC⟩ : ∃ PC, O.extract 1 (O.size - 1) = PC := ⟨_, rfl⟩
      have HPr := hide hP
      have m1 : ((O.size : Int) - 1).toNat = O.size - 1 := by omega
      have m2 : (1 : Int) ≤ (O.size : Int) - 1 := by omega
      have m3 : (O.size : Int) - 1 ≤ (O.size : Int) := by omega
      have hw2 : IntKind.i64.wrap ((O.size : Int) - 1) = (O.size : Int) - 1 := by rw [IntKind.wrap_i64]; simp at hel; omega
      obtain ⟨A2, hA2⟩ : ∃ A2, A ++ PC = A2 := ⟨_, rfl⟩
      have hcat : ∀ V, (Op.stringOp BinOp.add A PC).run Tryd.prog V = .ok (.string A2) V := fun V => by
        rw [← hA2]
        refine run_string_add_sum V _ _ ?_
        have : PC.size = (esc [c]).length := by rw [← size_list, ← hPC, hO2]
        simp at hel
        omega
      have HA : Hid (A2.data.toList = esc (t.data.toList.take j)) := by
        show A2.data.toList = _
        rw [← hA2, app_list, hA, ← hPC, hO2, htn, esc_app]
      clear hP hA htn hx1 hO hO1 hO2 hel hc hA2
      go_wp2_with (first
        | (go_at_call 60; (with_reducible refine Calls.mono (HPr.out _) ?_); rintro e w5 ⟨rfl, h2⟩; have HB5 := hide (below_trans HB.out h2); clear h2))
      go_roundw
      case rel => exact ⟨j, A2, by omega, rfl, rfl, HA.out, HB5.out⟩
      case measure => simp [intOf]; omega
    · have hie : i = t.size := by omega
      have l1 : ¬ (t.size : Int) < (t.size : Int) := by omega
      subst hie
      rw [List.take_of_length_le (by omega)] at hA
      obtain ⟨A1, hA1⟩ : ∃ A1, ({ data := #[39] } : ByteArray) ++ A = A1 := ⟨_, rfl⟩
      obtain ⟨A2, hA2⟩ : ∃ A2, A1 ++ ({ data := #[39] } : ByteArray) = A2 := ⟨_, rfl⟩
      have hs1 : A1.size = A.size + 1 := by rw [← size_list, ← hA1, app_list, List.length_append, size_list, size_list]; show 1 + A.size = _; omega
      have hc1 : ∀ V, (Op.stringOp BinOp.add { data := #[39] } A).run Tryd.prog V = .ok (.string A1) V := fun V => by rw [← hA1]; exact run_string_add_sum V _ _ (by show 1 + A.size ≤ _; omega)
      have hc2 : ∀ V, (Op.stringOp BinOp.add A1 { data := #[39] }).run Tryd.prog V = .ok (.string A2) V := fun V => by rw [← hA2]; exact run_string_add_sum V _ _ (by show A1.size + 1 ≤ _; omega)
      have HA : Hid (A2 = ⟨(39 :: (esc t.data.toList ++ [39])).toArray⟩) := by
        refine ba_eq ?_
        rw [← hA2, ← hA1, app_list, app_list, hA]; rfl
      clear hA hA1 hA2 hs1
      go_wp2
      go_ret2
      rw [HA.out]
      exact ⟨rfl, HW.out.trans (HB.out.mono HW.out.size)⟩
end Go.Proofs.YtkooijhdjjdigaaDoor

namespace Go.Proofs.YtkooijhdjjdigaaDoor
open Go.ChangeShapes Go.WideShapes Go.ChangeAt Go.RowKit
set_option linter.unusedVariables false

set_option maxHeartbeats 2000000 in
set_option maxRecDepth 10000 in
theorem written4 (a : Int) (t : ByteArray) (ht : t.size ≤ 140737488355328) (w : World) :
    Calls Tryd.prog 37 #[.agg #[.int .i64 4, .int .i64 a, .string t]] w fun e w' => e = .returned (.tuple #[.string ⟨(120 :: 39 :: (hexs t.data.toList ++ [39])).toArray⟩, .bool true]) ∧ Below w.heap.size w w' := by
  have HV := hide (fun V h => later_block w (.int .i64 4) (.int .i64 a) (.string t) 39 V h)
  have hlen : t.data.toList.length = t.size := by simp
  obtain ⟨W1, hW1⟩ : ∃ W1, w.alloc (.cells #[.int .i64 4, .int .i64 a, .string t] 39) = W1 := ⟨_, rfl⟩
  have hW1b : Below w.heap.size w W1 := by rw [← hW1]; exact (Below.refl _ _).alloc (Nat.le_refl _) _
  rw [hW1] at HV
  obtain ⟨d0, d1, d2, _⟩ := HV.out W1 (Below.refl _ _)
  have HW := hide hW1b
  clear hW1b
  go_enter Tryd.func37, Tryd.ntmps37
  go_upto_region 1 with fail
  clear hW1
  go_wp2
  go_loopw [5, 6] (fun sv iv wr => ∃ (i : Nat) (A : ByteArray), i ≤ t.size ∧ sv = .string A ∧ iv = .int .i64 (i : Int) ∧ A.data.toList = hexs (t.data.toList.take i) ∧ Below W1.heap.size W1 wr) (fun _ iv _ => t.size - (intOf iv).toNat)
  case atStart => exact ⟨0, ⟨#[]⟩, Nat.zero_le _, rfl, rfl, by simp [hexs], Below.refl _ _⟩
  case round =>
    obtain ⟨i, A, hi, rfl, rfl, hA, hbel⟩ := hrel
    have HB := hide hbel
    clear hbel d0 d1 d2
    obtain ⟨d0, d1, d2, _⟩ := HV.out wr HB.out
    have hAs : A.size ≤ 2 * i := by
      have := hexs_length (t.data.toList.take i)
      rw [← hA, size_list, List.length_take] at this
      omega
    by_cases hlt : i < t.size
    · have l1 : (i : Int) < (t.size : Int) := by omega
      have l0 : (0 : Int) ≤ (i : Int) := by omega
      obtain ⟨j, hj⟩ : ∃ j, i + 1 = j := ⟨_, rfl⟩
      have l2 : (i : Int) ≤ (j : Int) := by omega
      have l3 : (j : Int) ≤ (t.size : Int) := by omega
      have hw1 : IntKind.i64.wrap ((i : Int) + 1) = (j : Int) := by rw [IntKind.wrap_i64]; omega
      obtain ⟨c, hc⟩ : ∃ c : UInt8, t[i]'hlt = c := ⟨_, rfl⟩
      have htn := take_next t i hlt
      rw [hc, hj] at htn
      have hx1 : (t.extract i j).data.toList = [c] := by
        rw [ext_list, htn, List.drop_append_of_le_length (by rw [List.length_take]; omega), List.drop_of_length_le (by rw [List.length_take]; omega)]; rfl
      have hP := fun V => rprint3 (t.extract i j) (by rw [← size_list, hx1]; simp) V
      rw [hx1] at hP
      obtain ⟨O, hO⟩ : ∃ O : ByteArray, O = ⟨(39 :: (hexs [c] ++ [39])).toArray⟩ := ⟨_, rfl⟩
      obtain ⟨Q, hQ⟩ : ∃ Q : ByteArray, Q = ⟨(120 :: 39 :: (hexs [c] ++ [39])).toArray⟩ := ⟨_, rfl⟩
      rw [← hQ] at hP
      have hQl : Q.data.toList = 120 :: 39 :: (hexs [c] ++ [39]) := by rw [hQ]
      have hQO : Q.extract 1 Q.size = O := by rw [hO]; refine ba_eq ?_; rw [ext_list, List.take_of_length_le (by rw [size_list]; omega), hQl]; rfl
      have hQ1 : (1 : Int) ≤ (Q.size : Int) := by have := size_list Q; rw [hQl] at this; simp at this; omega
      obtain ⟨hO1, hO2⟩ := mid_list hO
      have hel := hexs_length [c]
      obtain ⟨PC, hPC⟩ : ∃ PC, O.extract 1 (O.size - 1) = PC := ⟨_, rfl⟩
      have HPr := hide hP
      have m1 : ((O.size : Int) - 1).toNat = O.size - 1 := by omega
      have m2 : (1 : Int) ≤ (O.size : Int) - 1 := by omega
      have m3 : (O.size : Int) - 1 ≤ (O.size : Int) := by omega
      have hw2 : IntKind.i64.wrap ((O.size : Int) - 1) = (O.size : Int) - 1 := by rw [IntKind.wrap_i64]; simp at hel; omega
      obtain ⟨A2, hA2⟩ : ∃ A2, A ++ PC = A2 := ⟨_, rfl⟩
      have hcat : ∀ V, (Op.stringOp BinOp.add A PC).run Tryd.prog V = .ok (.string A2) V := fun V => by
        rw [← hA2]
        refine run_string_add_sum V _ _ ?_
        have : PC.size = (hexs [c]).length := by rw [← size_list, ← hPC, hO2]
        simp at hel
        omega
      have HA : Hid (A2.data.toList = hexs (t.data.toList.take j)) := by
        show A2.data.toList = _
        rw [← hA2, app_list, hA, ← hPC, hO2, htn, hexs_app]
      clear hQ hQl hP hA htn hx1 hO hO1 hO2 hel hc hA2
      go_wp2_with (first
        | (go_at_call 60; (with_reducible refine Calls.mono (HPr.out _) ?_); rintro e w5 ⟨rfl, h2⟩; have HB5 := hide (below_trans HB.out h2); clear h2))
      go_roundw
      case rel => exact ⟨j, A2, by omega, rfl, rfl, HA.out, HB5.out⟩
      case measure => simp [intOf]; omega
    · have hie : i = t.size := by omega
      have l1 : ¬ (t.size : Int) < (t.size : Int) := by omega
      subst hie
      rw [List.take_of_length_le (by omega)] at hA
      obtain ⟨A1, hA1⟩ : ∃ A1, ({ data := #[120, 39] } : ByteArray) ++ A = A1 := ⟨_, rfl⟩
      obtain ⟨A2, hA2⟩ : ∃ A2, A1 ++ ({ data := #[39] } : ByteArray) = A2 := ⟨_, rfl⟩
      have hs1 : A1.size = A.size + 2 := by rw [← size_list, ← hA1, app_list, List.length_append, size_list, size_list]; show 2 + A.size = _; omega
      have hc1 : ∀ V, (Op.stringOp BinOp.add { data := #[120, 39] } A).run Tryd.prog V = .ok (.string A1) V := fun V => by rw [← hA1]; exact run_string_add_sum V _ _ (by show 2 + A.size ≤ _; omega)
      have hc2 : ∀ V, (Op.stringOp BinOp.add A1 { data := #[39] }).run Tryd.prog V = .ok (.string A2) V := fun V => by rw [← hA2]; exact run_string_add_sum V _ _ (by show A1.size + 1 ≤ _; omega)
      have HA : Hid (A2 = ⟨(120 :: 39 :: (hexs t.data.toList ++ [39])).toArray⟩) := by
        refine ba_eq ?_
        rw [← hA2, ← hA1, app_list, app_list, hA]; rfl
      clear hA hA1 hA2 hs1
      go_wp2
      go_ret2
      rw [HA.out]
      exact ⟨rfl, HW.out.trans (HB.out.mono HW.out.size)⟩
end Go.Proofs.YtkooijhdjjdigaaDoor
