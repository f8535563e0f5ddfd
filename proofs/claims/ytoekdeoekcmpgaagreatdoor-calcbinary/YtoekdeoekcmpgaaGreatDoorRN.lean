/- The document's Nibble, Number. -/
import Derived.Test.YtoekdeoekcmpgaaGreatDoorKA
namespace Go.Proofs.YtoekdeoekcmpgaaGreatDoor
open Go.ChangeShapes Go.WideShapes Go.ChangeAt Go.RowKit
set_option linter.unusedVariables false

def numV (o : Option Int) : Value := match o with | some n => .tuple #[.int .i64 n, .bool true] | none => .tuple #[.int .i64 0, .bool false]

theorem drop_next (t : ByteArray) (k : Nat) (h : k < t.size) : t.data.toList.drop k = (t[k]'h) :: t.data.toList.drop (k + 1) := by
  rw [List.drop_eq_getElem_cons (by simpa using h)]
  rfl

set_option maxHeartbeats 2000000 in
set_option maxRecDepth 10000 in
theorem number_pos (s : ByteArray) (hs : s.size ≤ 1000) (h1 : 1 ≤ s.size) (h45 : (s[0]'h1).toNat ≠ 45) (hz : ¬ ((s[0]'h1).toNat = 48 ∧ 1 < s.size)) (w : World) : Calls Tryz.prog 69 #[.string s] w fun e w' =>
    e = .returned (numV (numLoop false 0 s.data.toList)) ∧ Below w.heap.size w w' := by
  have p1 : (0 : Int) < (s.size : Int) := by omega
  have hb0 : ∀ (h : 0 < s.size), ((s[0]'h).toNat : Int) = ((s[0]'h1).toNat : Int) := fun h => rfl
  obtain ⟨q0, hq0⟩ : ∃ q, (s[0]'h1).toNat = q := ⟨_, rfl⟩
  rw [hq0] at h45 hz hb0
  have e45 : ((q0 : Int) == 45) = false := by simp; omega
  have hze : ¬ (0 : Int) = (s.size : Int) := by omega
  by_cases h48 : q0 = 48
  · have e48 : ((q0 : Int) == 48) = true := by simp; omega
    have s1 : ¬ (1 : Int) < (s.size : Int) := by omega
    clear hq0 hz h45
    go_enter Tryz.func69, Tryz.ntmps69
    go_wp2
    go_loopw [4, 5] (fun nv iv wr => ∃ (j m : Nat), j ≤ s.size ∧ iv = .int .i64 j ∧ nv = .int .i64 m ∧ m ≤ 9223372036854775807 ∧ numLoop false 0 s.data.toList = numLoop false m (s.data.toList.drop j) ∧ wr = w) (fun _ iv _ => s.size - (intOf iv).toNat)
    case atStart => exact ⟨0, 0, Nat.zero_le _, rfl, rfl, by omega, by simp, rfl⟩
    case round =>
      obtain ⟨j, m, hj, rfl, rfl, hm, hrel, rfl⟩ := hrel
      by_cases hlt : j < s.size
      · have l1 : (j : Int) < (s.size : Int) := by omega
        have l0 : (0 : Int) ≤ (j : Int) := by omega
        obtain ⟨c, hc⟩ : ∃ c : UInt8, s[j]'hlt = c := ⟨_, rfl⟩
        have hdr := drop_next s j hlt
        rw [hc] at hdr
        rw [hdr, numLoop] at hrel
        obtain ⟨q, hq⟩ : ∃ q, c.toNat = q := ⟨_, rfl⟩
        have hb : ∀ (h : j < s.size), ((s[j]'h).toNat : Int) = (q : Int) := fun h => by rw [hc, hq]
        by_cases c1 : q < 48
        · have i1 : (q : Int) < 48 := by omega
          have hN : numLoop false 0 s.data.toList = none := by rw [hrel, if_neg (by unfold isDig; omega)]
          have HN : Hid (numLoop false 0 s.data.toList = none) := hN
          clear hN hrel hdr
          go_wp2
          go_ret2
          rw [HN.out]
          exact ⟨rfl, Below.refl _ _⟩
        by_cases c2 : 57 < q
        · have i1 : ¬ (q : Int) < 48 := by omega
          have i2 : (57 : Int) < (q : Int) := by omega
          have hN : numLoop false 0 s.data.toList = none := by rw [hrel, if_neg (by unfold isDig; omega)]
          have HN : Hid (numLoop false 0 s.data.toList = none) := hN
          clear hN hrel hdr
          go_wp2
          go_ret2
          rw [HN.out]
          exact ⟨rfl, Below.refl _ _⟩
        have i1 : ¬ (q : Int) < 48 := by omega
        have i2 : ¬ (57 : Int) < (q : Int) := by omega
        obtain ⟨e, he⟩ : ∃ e : Nat, q = 48 + e := ⟨q - 48, by omega⟩
        have hsub : (q : Int) - 48 = (e : Int) := by omega
        have e9 : e ≤ 9 := by omega
        have hdig : isDig c := by unfold isDig; omega
        clear he
        have he256 : (e : Int) % 256 = (e : Int) := by omega
        have hwe : IntKind.u8.wrap (e : Int) = (e : Int) := by have h1 : ∀ x : Int, IntKind.u8.wrap x = x % 256 := (fun x => by simp [IntKind.wrap, IntKind.signed, IntKind.bits]); rw [h1]; omega
        obtain ⟨T, hT⟩ : ∃ T : Nat, (9223372036854775807 - e) / 10 = T := ⟨_, rfl⟩
        have hT1 : (9223372036854775807 - (e : Int)).tdiv 10 = (T : Int) := by rw [Int.tdiv_eq_ediv_of_nonneg (by omega)]; omega
        have hT2 : (9223372036854775807 - (e : Int)) / 10 = (T : Int) := by omega
        have hw1 : IntKind.i64.wrap (9223372036854775807 - (e : Int)) = 9223372036854775807 - (e : Int) := by rw [IntKind.wrap_i64]; omega
        rw [if_pos hdig, numStep] at hrel
        rw [hq, hsub, hT1] at hrel
        simp only [Bool.false_eq_true, if_false] at hrel
        by_cases hov : T < m
        · have i3 : (T : Int) < (m : Int) := by omega
          have hN : numLoop false 0 s.data.toList = none := by rw [hrel, if_pos (by omega)]
          have HN : Hid (numLoop false 0 s.data.toList = none) := hN
          clear hN hrel hdr
          go_wp2
          go_ret2
          rw [HN.out]
          exact ⟨rfl, Below.refl _ _⟩
        · have i3 : ¬ (T : Int) < (m : Int) := by omega
          have hw2 : IntKind.i64.wrap ((m : Int) * 10) = (m : Int) * 10 := by rw [IntKind.wrap_i64]; omega
          have hw3 : IntKind.i64.wrap ((m : Int) * 10 + (e : Int)) = (m : Int) * 10 + (e : Int) := by rw [IntKind.wrap_i64]; omega
          have hN : numLoop false 0 s.data.toList = numLoop false ((m * 10 + e : Nat) : Int) (s.data.toList.drop (j + 1)) := by
            rw [hrel, if_neg (by omega)]
            simp
          have HN : Hid (numLoop false 0 s.data.toList = numLoop false ((m * 10 + e : Nat) : Int) (s.data.toList.drop (j + 1))) := hN
          clear hN hrel hdr
          go_wp2
          go_roundw
          case rel => exact ⟨j + 1, m * 10 + e, by omega, by simp, by simp, by omega, HN.out, trivial⟩
          case measure => simp [intOf]; omega
      · have hje : j = s.size := by omega
        subst hje
        have l1 : ¬ ((s.size : Int) < (s.size : Int)) := by omega
        have hN : numLoop false 0 s.data.toList = some (m : Int) := by rw [hrel, List.drop_of_length_le (by simp)]; rfl
        have HN : Hid (numLoop false 0 s.data.toList = some (m : Int)) := hN
        clear hN hrel
        go_wp2
        go_ret2
        rw [HN.out]
        exact ⟨rfl, Below.refl _ _⟩
  · have e48 : ((q0 : Int) == 48) = false := by simp; omega
    clear hq0 hz h45
    go_enter Tryz.func69, Tryz.ntmps69
    go_wp2
    go_loopw [4, 5] (fun nv iv wr => ∃ (j m : Nat), j ≤ s.size ∧ iv = .int .i64 j ∧ nv = .int .i64 m ∧ m ≤ 9223372036854775807 ∧ numLoop false 0 s.data.toList = numLoop false m (s.data.toList.drop j) ∧ wr = w) (fun _ iv _ => s.size - (intOf iv).toNat)
    case atStart => exact ⟨0, 0, Nat.zero_le _, rfl, rfl, by omega, by simp, rfl⟩
    case round =>
      obtain ⟨j, m, hj, rfl, rfl, hm, hrel, rfl⟩ := hrel
      by_cases hlt : j < s.size
      · have l1 : (j : Int) < (s.size : Int) := by omega
        have l0 : (0 : Int) ≤ (j : Int) := by omega
        obtain ⟨c, hc⟩ : ∃ c : UInt8, s[j]'hlt = c := ⟨_, rfl⟩
        have hdr := drop_next s j hlt
        rw [hc] at hdr
        rw [hdr, numLoop] at hrel
        obtain ⟨q, hq⟩ : ∃ q, c.toNat = q := ⟨_, rfl⟩
        have hb : ∀ (h : j < s.size), ((s[j]'h).toNat : Int) = (q : Int) := fun h => by rw [hc, hq]
        by_cases c1 : q < 48
        · have i1 : (q : Int) < 48 := by omega
          have hN : numLoop false 0 s.data.toList = none := by rw [hrel, if_neg (by unfold isDig; omega)]
          have HN : Hid (numLoop false 0 s.data.toList = none) := hN
          clear hN hrel hdr
          go_wp2
          go_ret2
          rw [HN.out]
          exact ⟨rfl, Below.refl _ _⟩
        by_cases c2 : 57 < q
        · have i1 : ¬ (q : Int) < 48 := by omega
          have i2 : (57 : Int) < (q : Int) := by omega
          have hN : numLoop false 0 s.data.toList = none := by rw [hrel, if_neg (by unfold isDig; omega)]
          have HN : Hid (numLoop false 0 s.data.toList = none) := hN
          clear hN hrel hdr
          go_wp2
          go_ret2
          rw [HN.out]
          exact ⟨rfl, Below.refl _ _⟩
        have i1 : ¬ (q : Int) < 48 := by omega
        have i2 : ¬ (57 : Int) < (q : Int) := by omega
        obtain ⟨e, he⟩ : ∃ e : Nat, q = 48 + e := ⟨q - 48, by omega⟩
        have hsub : (q : Int) - 48 = (e : Int) := by omega
        have e9 : e ≤ 9 := by omega
        have hdig : isDig c := by unfold isDig; omega
        clear he
        have he256 : (e : Int) % 256 = (e : Int) := by omega
        have hwe : IntKind.u8.wrap (e : Int) = (e : Int) := by have h1 : ∀ x : Int, IntKind.u8.wrap x = x % 256 := (fun x => by simp [IntKind.wrap, IntKind.signed, IntKind.bits]); rw [h1]; omega
        obtain ⟨T, hT⟩ : ∃ T : Nat, (9223372036854775807 - e) / 10 = T := ⟨_, rfl⟩
        have hT1 : (9223372036854775807 - (e : Int)).tdiv 10 = (T : Int) := by rw [Int.tdiv_eq_ediv_of_nonneg (by omega)]; omega
        have hT2 : (9223372036854775807 - (e : Int)) / 10 = (T : Int) := by omega
        have hw1 : IntKind.i64.wrap (9223372036854775807 - (e : Int)) = 9223372036854775807 - (e : Int) := by rw [IntKind.wrap_i64]; omega
        rw [if_pos hdig, numStep] at hrel
        rw [hq, hsub, hT1] at hrel
        simp only [Bool.false_eq_true, if_false] at hrel
        by_cases hov : T < m
        · have i3 : (T : Int) < (m : Int) := by omega
          have hN : numLoop false 0 s.data.toList = none := by rw [hrel, if_pos (by omega)]
          have HN : Hid (numLoop false 0 s.data.toList = none) := hN
          clear hN hrel hdr
          go_wp2
          go_ret2
          rw [HN.out]
          exact ⟨rfl, Below.refl _ _⟩
        · have i3 : ¬ (T : Int) < (m : Int) := by omega
          have hw2 : IntKind.i64.wrap ((m : Int) * 10) = (m : Int) * 10 := by rw [IntKind.wrap_i64]; omega
          have hw3 : IntKind.i64.wrap ((m : Int) * 10 + (e : Int)) = (m : Int) * 10 + (e : Int) := by rw [IntKind.wrap_i64]; omega
          have hN : numLoop false 0 s.data.toList = numLoop false ((m * 10 + e : Nat) : Int) (s.data.toList.drop (j + 1)) := by
            rw [hrel, if_neg (by omega)]
            simp
          have HN : Hid (numLoop false 0 s.data.toList = numLoop false ((m * 10 + e : Nat) : Int) (s.data.toList.drop (j + 1))) := hN
          clear hN hrel hdr
          go_wp2
          go_roundw
          case rel => exact ⟨j + 1, m * 10 + e, by omega, by simp, by simp, by omega, HN.out, trivial⟩
          case measure => simp [intOf]; omega
      · have hje : j = s.size := by omega
        subst hje
        have l1 : ¬ ((s.size : Int) < (s.size : Int)) := by omega
        have hN : numLoop false 0 s.data.toList = some (m : Int) := by rw [hrel, List.drop_of_length_le (by simp)]; rfl
        have HN : Hid (numLoop false 0 s.data.toList = some (m : Int)) := hN
        clear hN hrel
        go_wp2
        go_ret2
        rw [HN.out]
        exact ⟨rfl, Below.refl _ _⟩
end Go.Proofs.YtoekdeoekcmpgaaGreatDoor
