/- The document's Skip, Quote. -/
import Derived.Test.YtkooijhdjjdigaaDoorKB
namespace Go.Proofs.YtkooijhdjjdigaaDoor
open Go.ChangeShapes Go.WideShapes Go.ChangeAt Go.RowKit
set_option linter.unusedVariables false

theorem skp_blk {c : UInt8} {r : List UInt8} (h : blkB c = true) : skp false (c :: r) = skp false r + 1 := by rw [skp, if_pos h]
theorem skp_on {c : UInt8} {r : List UInt8} (h : c.toNat ≠ 10) : skp true (c :: r) = skp true r + 1 := by rw [skp, if_neg h]
theorem skp_rem' {c : UInt8} {r : List UInt8} (h : blkB c = false) (hc : c.toNat = 45 ∧ (r.head?.map UInt8.toNat) = some 45) : skp false (c :: r) = skp true r + 1 := by
  rw [skp, if_neg (by simp [h]), if_pos hc]
theorem skp_rem {c d : UInt8} {r : List UInt8} (h : blkB c = false) (hc : c.toNat = 45) (hd : d.toNat = 45) : skp false (c :: d :: r) = skp true (c :: d :: r) :=
  (skp_rem' h ⟨hc, by simp [hd]⟩).trans (skp_on (by omega)).symm
theorem skp_not {c : UInt8} {r : List UInt8} (h : blkB c = false) (hc : ¬ (c.toNat = 45 ∧ (r.head?.map UInt8.toNat) = some 45)) : skp false (c :: r) = 0 := by
  rw [skp, if_neg (by simp [h]), if_neg hc]
theorem skp_ten {c : UInt8} {r : List UInt8} (h : c.toNat = 10) : skp true (c :: r) = skp false (c :: r) := by
  rw [skp, if_pos h, skp_blk (by simp [blkB, h])]

set_option maxHeartbeats 1000000 in
set_option maxRecDepth 10000 in
theorem skip_e (s : ByteArray) (hs : s.size ≤ 140737488355328) (a : Nat) (ha : a ≤ s.size) (w : World) :
    Calls Tryd.prog 25 #[.string s, .int .i64 (a : Int)] w fun e w' => e = .returned (.int .i64 ((a + skp false (s.data.toList.drop a) : Nat) : Int)) ∧ w = w' := by
  obtain ⟨R, hR⟩ : ∃ R, a + skp false (s.data.toList.drop a) = R := ⟨_, rfl⟩
  rw [hR]
  have HR := hide hR
  clear hR
  go_enter Tryd.func25, Tryd.ntmps25
  go_wp2
  go_loopw [1] (fun iv wr => ∃ j : Nat, j ≤ s.size ∧ iv = .int .i64 (j : Int) ∧ j + skp false (s.data.toList.drop j) = R ∧ wr = w) (fun iv _ => s.size - (intOf iv).toNat)
  case atStart => exact ⟨a, ha, rfl, HR.out, rfl⟩
  case round =>
    obtain ⟨j, hj, rfl, hrel, rfl⟩ := hrel
    by_cases hlt : j < s.size
    · have l1 : (j : Int) < (s.size : Int) := by omega
      have l0 : (0 : Int) ≤ (j : Int) := by omega
      have hw1 : IntKind.i64.wrap ((j : Int) + 1) = ((j + 1 : Nat) : Int) := by rw [IntKind.wrap_i64]; omega
      obtain ⟨c, hc⟩ : ∃ c : UInt8, s[j]'hlt = c := ⟨_, rfl⟩
      have hdr := drop_next s j hlt
      rw [hc] at hdr
      rw [hdr] at hrel
      obtain ⟨q, hq⟩ : ∃ q, c.toNat = q := ⟨_, rfl⟩
      have hb : ∀ (h : j < s.size), ((s[j]'h).toNat : Int) = (q : Int) := fun h => by rw [hc, hq]
      by_cases hbl : blkB c = true
      · have HB : Hid (∀ V, Calls Tryd.prog 41 #[.int .u8 (q : Int)] V fun e w' => e = .returned (.bool true) ∧ V = w') := fun V => by rw [← hbl, ← hq]; exact blank_e c V
        rw [skp_blk hbl] at hrel
        have HN := hide hrel
        clear hrel hdr hbl hq hc
        go_wp2_with (first
          | (go_at_call 41; (with_reducible refine Calls.mono (HB.out _) ?_); rintro e w5 ⟨rfl, rfl⟩))
        go_roundw
        case rel => exact ⟨j + 1, by omega, rfl, by rw [← HN.out]; omega, trivial⟩
        case measure => simp [intOf]; omega
      · rw [Bool.not_eq_true] at hbl
        have HB : Hid (∀ V, Calls Tryd.prog 41 #[.int .u8 (q : Int)] V fun e w' => e = .returned (.bool false) ∧ V = w') := fun V => by rw [← hbl, ← hq]; exact blank_e c V
        by_cases h45 : q = 45
        · by_cases hlt2 : j + 1 < s.size
          · have m1 : ¬ (s.size : Int) ≤ ((j + 1 : Nat) : Int) := by omega
            have m2 : ((j + 1 : Nat) : Int) < (s.size : Int) := by omega
            have m3 : (0 : Int) ≤ ((j + 1 : Nat) : Int) := by omega
            obtain ⟨d, hd⟩ : ∃ d : UInt8, s[j + 1]'hlt2 = d := ⟨_, rfl⟩
            have hdr2 := drop_next s (j + 1) hlt2
            rw [hd] at hdr2
            rw [hdr2] at hrel hdr
            obtain ⟨p, hp⟩ : ∃ p, d.toNat = p := ⟨_, rfl⟩
            have hb2 : ∀ (h : j + 1 < s.size), ((s[j + 1]'h).toNat : Int) = (p : Int) := fun h => by rw [hd, hp]
            by_cases hp45 : p = 45
            · rw [skp_rem hbl (by omega) (by omega)] at hrel
              rw [← hdr] at hrel
              have HN := hide hrel
              subst hp45 h45
              clear hrel hdr hdr2 hbl hq hc hd hp
              go_wp2_with (first
                | (go_at_call 41; (with_reducible refine Calls.mono (HB.out _) ?_); rintro e w5 ⟨rfl, rfl⟩))
              go_loopw [1] (fun iv wr2 => ∃ k : Nat, j ≤ k ∧ k ≤ s.size ∧ iv = .int .i64 (k : Int) ∧ k + skp true (s.data.toList.drop k) = R ∧ (j < k ∨ k = j) ∧ wr2 = wr) (fun iv _ => s.size - (intOf iv).toNat)
              case atStart => exact ⟨j, Nat.le_refl _, hj, rfl, HN.out, .inr rfl, rfl⟩
              case round =>
                obtain ⟨k, hjk, hk, rfl, hrel2, hkj, rfl⟩ := hrel
                by_cases hlt3 : k < s.size
                · have n1 : (k : Int) < (s.size : Int) := by omega
                  have n0 : (0 : Int) ≤ (k : Int) := by omega
                  have hw3 : IntKind.i64.wrap ((k : Int) + 1) = ((k + 1 : Nat) : Int) := by rw [IntKind.wrap_i64]; omega
                  obtain ⟨c3, hc3⟩ : ∃ c : UInt8, s[k]'hlt3 = c := ⟨_, rfl⟩
                  have hdr3 := drop_next s k hlt3
                  rw [hc3] at hdr3
                  obtain ⟨q3, hq3⟩ : ∃ q, c3.toNat = q := ⟨_, rfl⟩
                  have hb3 : ∀ (h : k < s.size), ((s[k]'h).toNat : Int) = (q3 : Int) := fun h => by rw [hc3, hq3]
                  by_cases h10 : q3 = 10
                  · rw [hdr3, skp_ten (by omega), ← hdr3] at hrel2
                    have hjk2 : j < k := by
                      rcases hkj with h | h
                      · exact h
                      · exfalso
                        subst h
                        have := hb hlt3
                        have := hb3 hlt3
                        omega
                    have HN2 := hide hrel2
                    subst h10
                    clear hrel2 hdr3 hc3 hq3 hb hb2
                    go_wp2
                    go_roundw
                    case rel => exact ⟨k, hk, rfl, HN2.out, trivial⟩
                    case measure => simp [intOf]; omega
                  · have e10 : ((q3 : Int) != 10) = true := by simp [bne]; omega
                    rw [hdr3, skp_on (by omega)] at hrel2
                    have HN2 := hide hrel2
                    clear hrel2 hdr3 hc3 hq3 hb hb2
                    go_wp2
                    go_roundw
                    case rel => exact ⟨k + 1, by omega, by omega, rfl, by rw [← HN2.out]; omega, .inl (by omega), trivial⟩
                    case measure => simp [intOf]; omega
                · have hke : k = s.size := by omega
                  have n1 : ¬ (s.size : Int) < (s.size : Int) := by omega
                  subst hke
                  rw [List.drop_of_length_le (by simp)] at hrel2
                  have HN2 := hide hrel2
                  clear hrel2 hb hb2
                  go_wp2
                  go_roundw
                  case rel => exact ⟨s.size, by omega, rfl, by rw [List.drop_of_length_le (by simp)]; exact HN2.out, trivial⟩
                  case measure => simp [intOf]; omega
            · have e45 : ((p : Int) != 45) = true := by simp [bne]; omega
              rw [skp_not hbl (by simp; omega)] at hrel
              subst h45
              obtain rfl : j = R := by omega
              clear hrel hdr hdr2 hbl hq hc hd hp
              go_wp2_with (first
                | (go_at_call 41; (with_reducible refine Calls.mono (HB.out _) ?_); rintro e w5 ⟨rfl, rfl⟩))
              go_ret
              exact ⟨rfl, rfl⟩
          · have m1 : (s.size : Int) ≤ ((j + 1 : Nat) : Int) := by omega
            rw [List.drop_of_length_le (by simp; omega), skp_not hbl (by simp)] at hrel
            subst h45
            obtain rfl : j = R := by omega
            clear hrel hdr hbl hq hc
            go_wp2_with (first
              | (go_at_call 41; (with_reducible refine Calls.mono (HB.out _) ?_); rintro e w5 ⟨rfl, rfl⟩))
            go_ret
            exact ⟨rfl, rfl⟩
        · have e45 : ((q : Int) != 45) = true := by simp [bne]; omega
          rw [skp_not hbl (by omega)] at hrel
          obtain rfl : j = R := by omega
          clear hrel hdr hbl hq hc
          go_wp2_with (first
            | (go_at_call 41; (with_reducible refine Calls.mono (HB.out _) ?_); rintro e w5 ⟨rfl, rfl⟩))
          go_ret
          exact ⟨rfl, rfl⟩
    · have hje : j = s.size := by omega
      have l1 : ¬ (s.size : Int) < (s.size : Int) := by omega
      subst hje
      rw [List.drop_of_length_le (by simp), skp] at hrel
      obtain rfl : s.size = R := by omega
      clear hrel
      go_wp2
      go_ret
      exact ⟨rfl, rfl⟩
end Go.Proofs.YtkooijhdjjdigaaDoor
