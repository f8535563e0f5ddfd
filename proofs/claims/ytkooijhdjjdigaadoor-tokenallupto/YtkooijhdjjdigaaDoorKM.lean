/- The document's IsName, Name. -/
import Derived.Test.YtkooijhdjjdigaaDoorKL
namespace Go.Proofs.YtkooijhdjjdigaaDoor
open Go.ChangeShapes Go.WideShapes Go.ChangeAt Go.RowKit
set_option linter.unusedVariables false

theorem name_nil : nameB [] = false := by simp [nameB]
theorem name_cons (c : UInt8) (r : List UInt8) (h : letB c = true) (hl : (c :: r).length ≤ 32) : nameB (c :: r) = (c :: r).all fun c => letB c || digB c := by simp [nameB, h]; intro h1; simp at hl; omega
set_option maxHeartbeats 1000000 in
set_option maxRecDepth 10000 in
theorem isname_e (s : ByteArray) (hs : s.size ≤ 140737488355328) (w : World) : Calls Tryd.prog 34 #[.string s] w fun e w' => e = .returned (.bool (nameB s.data.toList)) ∧ w = w' := by
  obtain ⟨R, hR⟩ : ∃ R, nameB s.data.toList = R := ⟨_, rfl⟩
  rw [hR]
  have hlen : s.data.toList.length = s.size := by simp
  have l0 : (0 : Int) ≤ (s.size : Int) := by omega
  by_cases h0 : s.size = 0
  · have l1 : (s.size : Int) < 1 := by omega
    have : s.data.toList = [] := List.length_eq_zero_iff.1 (hlen.trans h0)
    rw [this, name_nil] at hR
    subst hR
    go_enter Tryd.func34, Tryd.ntmps34
    go_wp2
    go_ret
    exact ⟨rfl, rfl⟩
  have l1 : ¬ (s.size : Int) < 1 := by omega
  have p0 : (0 : Int) < (s.size : Int) := by omega
  have hpos : 0 < s.size := by omega
  obtain ⟨c, hc⟩ : ∃ c : UInt8, s[0]'hpos = c := ⟨_, rfl⟩
  have hdr := drop_next s 0 hpos
  rw [hc, List.drop_zero] at hdr
  obtain ⟨q, hq⟩ : ∃ q, c.toNat = q := ⟨_, rfl⟩
  have hb : ∀ (h : 0 < s.size), ((s[0]'h).toNat : Int) = (q : Int) := fun h => by rw [hc, hq]
  by_cases h33 : 32 < s.size
  · have l2 : (32 : Int) < (s.size : Int) := by omega
    have : nameB s.data.toList = false := by simp [nameB, hlen]; intro h; omega
    rw [this] at hR
    subst hR
    clear this hdr hc hq
    go_enter Tryd.func34, Tryd.ntmps34
    go_wp2
    go_ret
    exact ⟨rfl, rfl⟩
  have l2 : ¬ (32 : Int) < (s.size : Int) := by omega
  by_cases hL : letB c = true
  · have HL : Hid (∀ V, Calls Tryd.prog 44 #[.int .u8 (q : Int)] V fun e w' => e = .returned (.bool true) ∧ V = w') := fun V => by rw [← hL, ← hq]; exact letter_e c V
    have hR2 : (s.data.toList.drop 0).all (fun c => letB c || digB c) = R := by
      rw [← hR, List.drop_zero, hdr]
      exact (name_cons c _ hL (by rw [← hdr, hlen]; omega)).symm
    have HR := hide hR2
    clear hR hR2 hdr hc hq hL
    go_enter Tryd.func34, Tryd.ntmps34
    go_wp2_with (first
      | (go_at_call 44; (with_reducible refine Calls.mono (HL.out _) ?_); rintro e w5 ⟨rfl, rfl⟩))
    clear hb HL
    go_loopw [3] (fun iv wr => ∃ j : Nat, j ≤ s.size ∧ iv = .int .i64 (j : Int) ∧ (s.data.toList.drop j).all (fun c => letB c || digB c) = R ∧ wr = w) (fun iv _ => s.size - (intOf iv).toNat)
    case atStart => exact ⟨0, by omega, rfl, HR.out, rfl⟩
    case round =>
      obtain ⟨j, hj, rfl, hrel, rfl⟩ := hrel
      by_cases hlt : j < s.size
      · have m1 : (j : Int) < (s.size : Int) := by omega
        have m0 : (0 : Int) ≤ (j : Int) := by omega
        have hw1 : IntKind.i64.wrap ((j : Int) + 1) = ((j + 1 : Nat) : Int) := by rw [IntKind.wrap_i64]; omega
        obtain ⟨d, hd⟩ : ∃ c : UInt8, s[j]'hlt = c := ⟨_, rfl⟩
        have hdr := drop_next s j hlt
        rw [hd] at hdr
        rw [hdr, List.all_cons] at hrel
        obtain ⟨p, hp⟩ : ∃ q, d.toNat = q := ⟨_, rfl⟩
        have hb : ∀ (h : j < s.size), ((s[j]'h).toNat : Int) = (p : Int) := fun h => by rw [hd, hp]
        by_cases hL3 : letB d = true
        · have HL3 : Hid (∀ V, Calls Tryd.prog 44 #[.int .u8 (p : Int)] V fun e w' => e = .returned (.bool true) ∧ V = w') := fun V => by rw [← hL3, ← hp]; exact letter_e d V
          rw [hL3, Bool.true_or, Bool.true_and] at hrel
          have HN := hide hrel
          clear hrel hdr hd hp hL3
          go_wp2_with (first
            | (go_at_call 44; (with_reducible refine Calls.mono (HL3.out _) ?_); rintro e w5 ⟨rfl, rfl⟩))
          go_roundw
          case rel => exact ⟨j + 1, by omega, rfl, HN.out, trivial⟩
          case measure => simp [intOf]; omega
        · rw [Bool.not_eq_true] at hL3
          have HL3 : Hid (∀ V, Calls Tryd.prog 44 #[.int .u8 (p : Int)] V fun e w' => e = .returned (.bool false) ∧ V = w') := fun V => by rw [← hL3, ← hp]; exact letter_e d V
          by_cases hD3 : digB d = true
          · have HD3 : Hid (∀ V, Calls Tryd.prog 45 #[.int .u8 (p : Int)] V fun e w' => e = .returned (.bool true) ∧ V = w') := fun V => by rw [← hD3, ← hp]; exact digit_e d V
            rw [hD3, Bool.or_true, Bool.true_and] at hrel
            have HN := hide hrel
            clear hrel hdr hd hp hL3 hD3
            go_wp2_with (first
              | (go_at_call 44; (with_reducible refine Calls.mono (HL3.out _) ?_); rintro e w5 ⟨rfl, rfl⟩)
              | (go_at_call 45; (with_reducible refine Calls.mono (HD3.out _) ?_); rintro e w5 ⟨rfl, rfl⟩))
            go_roundw
            case rel => exact ⟨j + 1, by omega, rfl, HN.out, trivial⟩
            case measure => simp [intOf]; omega
          · rw [Bool.not_eq_true] at hD3
            have HD3 : Hid (∀ V, Calls Tryd.prog 45 #[.int .u8 (p : Int)] V fun e w' => e = .returned (.bool false) ∧ V = w') := fun V => by rw [← hD3, ← hp]; exact digit_e d V
            rw [hL3, hD3, Bool.or_false, Bool.false_and] at hrel
            subst hrel
            clear hdr hd hp hL3 hD3
            go_wp2_with (first
              | (go_at_call 44; (with_reducible refine Calls.mono (HL3.out _) ?_); rintro e w5 ⟨rfl, rfl⟩)
              | (go_at_call 45; (with_reducible refine Calls.mono (HD3.out _) ?_); rintro e w5 ⟨rfl, rfl⟩))
            go_ret
            exact ⟨rfl, rfl⟩
      · have hje : j = s.size := by omega
        have m1 : ¬ (s.size : Int) < (s.size : Int) := by omega
        subst hje
        rw [List.drop_of_length_le (by simp), List.all_nil] at hrel
        subst hrel
        go_wp2
        go_ret
        exact ⟨rfl, rfl⟩
  · rw [Bool.not_eq_true] at hL
    have HL : Hid (∀ V, Calls Tryd.prog 44 #[.int .u8 (q : Int)] V fun e w' => e = .returned (.bool false) ∧ V = w') := fun V => by rw [← hL, ← hq]; exact letter_e c V
    have : nameB s.data.toList = false := by rw [hdr]; simp [nameB, hL]
    rw [this] at hR
    subst hR
    clear this hdr hc hq hL
    go_enter Tryd.func34, Tryd.ntmps34
    go_wp2_with (first
      | (go_at_call 44; (with_reducible refine Calls.mono (HL.out _) ?_); rintro e w5 ⟨rfl, rfl⟩))
    go_ret
    exact ⟨rfl, rfl⟩
set_option maxRecDepth 10000 in
theorem rname_e (s : ByteArray) (hs : s.size ≤ 140737488351232) (w : World) : Calls Tryd.prog 18 #[.string s] w fun e w' => e = .returned (.bool (nameB s.data.toList && (keyR s.data.toList).isNone)) ∧ Below w.heap.size w w' := by
  obtain ⟨b, hb⟩ : ∃ b, nameB s.data.toList = b := ⟨_, rfl⟩
  have HK := hide (keyword_e s hs w)
  have HI := hide (fun V => isname_e s (by omega) V)
  rw [hb] at HI ⊢
  cases hk : keyR s.data.toList with
  | none =>
    rw [hk, keyV] at HK
    clear hk hb
    cases b
    all_goals
      go_enter Tryd.func18, Tryd.ntmps18
      go_wp2_with (first
        | (go_at_call 16; (with_reducible refine Calls.mono HK.out ?_); rintro e w5 ⟨rfl, hb5⟩; have HB5 := hide hb5; clear hb5)
        | (go_at_call 34; (with_reducible refine Calls.mono (HI.out _) ?_); rintro e w6 ⟨rfl, rfl⟩))
      go_ret
      exact ⟨rfl, HB5.out⟩
  | some x =>
    rw [hk, keyV] at HK
    clear hk hb
    cases b
    all_goals
      go_enter Tryd.func18, Tryd.ntmps18
      go_wp2_with (first
        | (go_at_call 16; (with_reducible refine Calls.mono HK.out ?_); rintro e w5 ⟨rfl, hb5⟩; have HB5 := hide hb5; clear hb5)
        | (go_at_call 34; (with_reducible refine Calls.mono (HI.out _) ?_); rintro e w6 ⟨rfl, rfl⟩))
      go_ret
      exact ⟨rfl, HB5.out⟩
end Go.Proofs.YtkooijhdjjdigaaDoor
